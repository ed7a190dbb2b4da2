/- The document's own answer: the codes of lengths. -/
import Derived.Test.YtkhhiaggmncehaaCodes
namespace Go.Proofs.Ytkhhiaggmncehaa
open Go.RowKit
set_option linter.unusedVariables false
set_option linter.unusedSimpArgs false

def crow (N : Nat) (f : Nat → Nat) : List Value := ccells ((List.range N).map f)
theorem crow_get (N : Nat) (f : Nat → Nat) (i : Nat) (h : i < N) : (crow N f)[i]? = some (.int .u32 (f i : Nat)) := by simp [crow, ccells, h]
theorem crow_congr (N : Nat) (f g : Nat → Nat) (h : ∀ i, i < N → f i = g i) : crow N f = crow N g := by
  unfold crow
  congr 1
  exact List.map_congr_left fun i hi => h i (List.mem_range.1 hi)
theorem crow_set (N : Nat) (f : Nat → Nat) (k v : Nat) : (crow N f).set k (.int .u32 (v : Nat)) = crow N (fun i => if i = k then v else f i) := by
  apply List.ext_getElem?
  intro i
  by_cases hi : i < N
  · rw [crow_get _ _ _ hi, List.getElem?_set]
    by_cases e : k = i
    · subst e
      simp [crow, ccells, hi]
    · rw [if_neg e, crow_get _ _ _ hi]
      simp [show ¬ i = k from fun h => e h.symm]
  · rw [List.getElem?_eq_none (by simp [crow, ccells]; omega), List.getElem?_eq_none (by simp [crow, ccells]; omega)]
theorem crow_zero (N : Nat) : (madeCells (Value.int .u32 0).cells (N * 1)).toList = crow N (fun _ => 0) := by
  rw [show (Value.int .u32 0).cells = #[.int .u32 0] from rfl, toList_madeCells_one, Nat.mul_one]
  apply List.ext_getElem?
  intro i
  by_cases hi : i < N
  · rw [crow_get _ _ _ hi]; simp [hi]
  · rw [List.getElem?_eq_none (by simp; omega), List.getElem?_eq_none (by simp [crow, ccells]; omega)]

theorem rcodes_no (ls : List Int) (A : Option Addr) (c : Nat) (w : World) (hM : ¬ May ls) (hL : ls.length ≤ 1000) (hb : in64 ls) (hS : Src w 1 A ls.length c (icells ls)) :
    Calls Try.prog 10 #[.slice A ls.length c] w fun e w' => e = .returned (.tuple #[.slice none 0 0, .int .i64 13]) ∧ w = w' := by
  have HP := keepf (fun W h => rmay_any ls A c W hL hb h)
  have HS := keepf hS
  clear hS hb
  go_enter Try.func10, Try.ntmps10
  go_wp2_with (first
    | (go_at_call 19; refine (HP.out _ HS.out).mono ?_; rintro e w1 ⟨rfl, rfl⟩; rw [decide_eq_false hM]))
  go_ret2
  exact ⟨rfl, rfl⟩

/-- The row of codes that is made. -/
structure CRow (w wr : World) (N go : Nat) (f : Nat → Nat) : Prop where
  o : wr.ownsRow 0 31 1 (.slice (some ⟨go, 0, none⟩) N N) N (crow N f)
  c : Chg NoS w wr
  g : w.heap.size ≤ go
theorem CRow.set {w wr : World} {N go : Nat} {f : Nat → Nat} (h : CRow w wr N go f) (k v : Nat) : CRow w (wr.setCell ⟨go, k, none⟩ (.int .u32 (v : Nat))) N go (fun i => if i = k then v else f i) := by
  have h1 := (h.o.stored k (.int .u32 (v : Nat))).1
  rw [crow_set] at h1
  exact ⟨h1, h.c.setCell (p := ⟨go, k, none⟩) (fun hh => by have := h.g; simp only at hh; exact absurd hh (by omega)) _, h.g⟩
theorem CRow.congr {w wr : World} {N go : Nat} {f g : Nat → Nat} (h : CRow w wr N go f) (e : ∀ i, i < N → f i = g i) : CRow w wr N go g := ⟨by rw [← crow_congr N f g e]; exact h.o, h.c, h.g⟩

set_option maxHeartbeats 2000000 in
set_option maxRecDepth 100000 in
theorem rcodes_ok (ls : List Int) (A : Option Addr) (c : Nat) (w : World) (hM : May ls) (hb : in64 ls) (hS : Src w 1 A ls.length c (icells ls)) :
    Calls Try.prog 10 #[.slice A ls.length c] w (CodesTo w ls) := by
  have hL : ls.length ≤ 1000 := by have := hM.2.1; omega
  have HP := keepf (fun W h => rmay_any ls A c W hL hb h)
  obtain ⟨b, off, rfl, hcell⟩ := hS.plain (by rw [icells_len]; have := hM.1; omega)
  have HS := keepf hS
  have HC := keepf hcell
  have HM := keepf hM
  clear hS hb hM hcell
  obtain ⟨n, hn⟩ : ∃ n, n = ls.length := ⟨_, rfl⟩
  have HN := keepf hn
  have hn320 : n ≤ 320 := by have := HM.out.2.1; omega
  have HSn : Hid (∀ W : World, Calls Try.prog 19 #[.slice (some ⟨b, off, none⟩) n c] w fun e w' => e = .returned (.bool true) ∧ w = w') := by
    intro W
    rw [HN.out]
    refine (HP.out _ HS.out).mono ?_
    rintro e w' ⟨rfl, rfl⟩
    exact ⟨by rw [decide_eq_true HM.out], rfl⟩
  rw [← hn]
  clear hn hL
  obtain ⟨i0, hi, hz0, hz1, hz2⟩ := info_parts info_u32
  go_enter Try.func10, Try.ntmps10
  go_wp2_with (first
    | (go_at_call 19; refine (HSn.out w).mono ?_; rintro e w1 ⟨rfl, rfl⟩)
    | (at_make; refine wpList_make_full _ rfl (.tmp 12) (.tmp 12) 24 rfl 0 31 i0 (.int .u32 0) 1 Try.underlying24 hi hz0 hz1 .i64 .i64 _ _ n rfl rfl rfl rfl (by rw [hz2]; omega) (by unfold maxLen; omega) (Nat.zero_le _) ?_; intro w2 hown2 hgr; have HO2 := keepf hown2; have HG2 := keepf hgr; clear hown2 hgr))
  have HF := keepf (show CRow w w2 n w.heap.size (fun _ => 0) from ⟨by have := HO2.out; rw [crow_zero] at this; exact this, (Chg.refl _ _).grown HG2.out (fun k e _ => by cases e), Nat.le_refl _⟩)
  obtain ⟨go, hgo⟩ : ∃ go, go = w.heap.size := ⟨_, rfl⟩
  rw [← hgo] at HF ⊢
  have HGO := keepf hgo
  clear hgo HO2 HG2 hi hz0 hz1 hz2
  go_loopw [5, 6] (fun v i wr => ∃ m x : Nat, 1 ≤ m ∧ m ≤ 16 ∧ x ≤ 32768 ∧ i = .int .i64 m ∧ v = .int .u32 x ∧ Hid (x = fst (cnt ls) (m - 1) + cnt ls (m - 1)) ∧ CRow w wr n go (fun i => if 0 < lenAt ls i ∧ lenAt ls i < m then cd ls i else 0)) (fun _ i _ => 16 - (intOf i).toNat)
  case atStart => exact ⟨1, 0, by omega, by omega, by omega, rfl, rfl, (by show 0 = _; simp [fst, cnt_zero]), HF.out.congr (fun i _ => by rw [if_neg (by omega)])⟩
  case round =>
    obtain ⟨m, x, hm1, hm2, hx, rfl, rfl, hX, hR⟩ := hrel
    have HR := keepf hR
    clear hR HF
    by_cases hlt : m < 16
    · have hf : 2 * x = fst (cnt ls) m := by
        rw [hX.out, show m = (m - 1) + 1 from by omega, fst]
        simp only [Nat.add_sub_cancel]
        omega
      have hfl := fst_le ls HM.out m (by omega)
      have hfp : 2 ^ m ≤ 2 ^ 15 := Nat.pow_le_pow_right (by decide) (by omega)
      have HFF := keepf hf
      have HFL := keepf hfl
      clear hf hfl
      go_wp2_with fail
      go_loopw [5, 7] (fun v i wr => ∃ k y : Nat, k ≤ n ∧ y ≤ 32768 ∧ i = .int .i64 k ∧ v = .int .u32 y ∧ Hid (y = fst (cnt ls) m + cnt (ls.take k) m) ∧ CRow w wr n go (fun i => if 0 < lenAt ls i ∧ (lenAt ls i < m ∨ lenAt ls i = m ∧ i < k) then cd ls i else 0)) (fun _ i _ => n - (intOf i).toNat)
      case atStart => exact ⟨0, 2 * x, Nat.zero_le _, by have := HFF.out; have := HFL.out; omega, rfl, by go_num, (by show 2 * x = _; simp [HFF.out, cnt_nil]), HR.out.congr (fun i _ => by
        by_cases e : 0 < lenAt ls i ∧ lenAt ls i < m
        · rw [if_pos e, if_pos ⟨e.1, .inl e.2⟩]
        · rw [if_neg e, if_neg (by omega)])⟩
      case round =>
        obtain ⟨k, y, hk, hy, rfl, rfl, hY, hR2⟩ := hrel
        have HR2 := keepf hR2
        clear hR2 HR
        by_cases hkn : k < n
        · have hkl : k < ls.length := by have := HN.out; omega
          have hls := some_lenAt HM.out.2.2.1 hkl
          obtain ⟨nn, hnn⟩ : ∃ nn, nn = lenAt ls k := ⟨_, rfl⟩
          rw [← hnn] at hls
          have hc := (HR2.out.c.cell (p := ⟨b, off + k, none⟩) (by exact cell_lt (HC.out k _ (icells_get hls))) (fun h => h)).trans (HC.out k _ (icells_get hls))
          have hcs : ∀ j, cnt (ls.take (k + 1)) j = cnt (ls.take k) j + if j ≠ 0 ∧ (nn : Int) = j then 1 else 0 := fun j => by rw [take_snoc ls k _ hls, cnt_snoc]
          have HLS := keepf hls
          have HNN := keepf hnn
          have HCS := keepf hcs
          clear hls hnn hcs
          by_cases he : nn = m
          · subst he
            have hd : cd ls k = y := by
              rw [cd_eq (by omega) HLS.out, hY.out, rank, lenAt_some HLS.out]
            have hyl := cd_lt16 HM.out k
            rw [hd] at hyl
            have hco := HR2.out.o.cellAt k (by omega)
            rw [crow_get _ _ _ hkn] at hco
            have hfo := HR2.out.o.frozenAt k
            have HD := keepf hd
            clear hd
            have hn0 : nn ≠ 0 := by omega
            generalize (if 0 < lenAt ls k ∧ (lenAt ls k < nn ∨ lenAt ls k = nn ∧ k < k) then cd ls k else 0) = ov at hco
            go_wp2_with fail
            go_roundw
            case rel =>
              refine ⟨k + 1, y + 1, by omega, by omega, by go_num, by go_num, (by show y + 1 = _; rw [HCS.out]; simp [hn0]; have := hY.out; omega), (HR2.out.set k y).congr (fun i _ => ?_)⟩
              by_cases e : i = k
              · subst e
                rw [if_pos rfl, if_pos (by have := HNN.out; omega), HD.out]
              · rw [if_neg e]
                by_cases e2 : 0 < lenAt ls i ∧ (lenAt ls i < nn ∨ lenAt ls i = nn ∧ i < k)
                · rw [if_pos e2, if_pos (by omega)]
                · rw [if_neg e2, if_neg (by omega)]
            case measure => simp [intOf]; omega
          · have d1 : ((nn : Int) == (m : Int)) = false := by simp; omega
            go_wp2_with fail
            go_roundw
            case rel =>
              refine ⟨k + 1, y, by omega, by omega, by go_num, rfl, (by show y = _; rw [HCS.out, if_neg (by omega)]; have := hY.out; omega), HR2.out.congr (fun i _ => ?_)⟩
              by_cases e : i = k
              · subst e
                have := HNN.out
                by_cases e2 : 0 < lenAt ls i ∧ (lenAt ls i < m ∨ lenAt ls i = m ∧ i < i)
                · rw [if_pos e2, if_pos (by omega)]
                · rw [if_neg e2, if_neg (by omega)]
              · by_cases e2 : 0 < lenAt ls i ∧ (lenAt ls i < m ∨ lenAt ls i = m ∧ i < k)
                · rw [if_pos e2, if_pos (by omega)]
                · rw [if_neg e2, if_neg (by omega)]
            case measure => simp [intOf]; omega
        · obtain rfl : k = n := by omega
          go_wp2_with fail
          go_roundw
          case rel => exact ⟨m + 1, y, by omega, by omega, by omega, by go_num, rfl, by rw [hY.out, HN.out, List.take_length]; rfl, HR2.out.congr (fun i hi => by
            by_cases e2 : 0 < lenAt ls i ∧ (lenAt ls i < m ∨ lenAt ls i = m ∧ i < k)
            · rw [if_pos e2, if_pos (by omega)]
            · rw [if_neg e2, if_neg (by omega)])⟩
          case measure => simp [intOf]; omega
    · obtain rfl : m = 16 := by omega
      go_wp2_with fail
      go_ret2
      have h1 := HR.out.congr (g := cd ls) (fun i _ => by
        have := lenAt_le HM.out.2.2.1 i
        by_cases e : 0 < lenAt ls i
        · rw [if_pos ⟨e, by omega⟩]
        · rw [if_neg (by omega), cd, if_pos (by omega)])
      have hg := HGO.out
      refine ⟨some ⟨go, 0, none⟩, n, by rw [← HN.out]; rfl, ?_, h1.c, fun i hi he => ?_⟩
      · have := h1.o
        rw [← HN.out]
        show wr.ownsRow 0 _ 1 _ n (ccells (codesOf ls))
        rw [codesOf, ← HN.out]
        exact this
      · simp [Value.ownBlock] at he; omega
end Go.Proofs.Ytkhhiaggmncehaa
