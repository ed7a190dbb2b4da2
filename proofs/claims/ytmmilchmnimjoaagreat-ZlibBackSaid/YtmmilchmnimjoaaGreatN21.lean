/- Merged by program: Parts Ref RefBits CodesR TakeR RefR RefS RefK. -/
import Derived.Test.YtmmilchmnimjoaaGreatN00
import Derived.Test.YtmmilchmnimjoaaGreatN03
import Derived.Test.YtmmilchmnimjoaaGreatN06
import Derived.Test.YtmmilchmnimjoaaGreatN07
import Derived.OpenShut
import Derived.BigRegion
import Derived.Deep.AppendLies
/- Parts, a number and how many bits it has: how they lie in memory, and how a list of them that comes in is opened. -/
namespace Go.Proofs.YtmmilchmnimjoaaGreat
open Go.RowKit Go.ChangeShapes Go.WideShapes Go.ChangeAt
set_option linter.unusedVariables false
end Go.Proofs.YtmmilchmnimjoaaGreat
/- The document's own answers: a number's bits, and bits as bytes. -/
namespace Go.Proofs.YtmmilchmnimjoaaGreat
open Go.RowKit
set_option linter.unusedVariables false
theorem info_bool : (Tryz.prog.info? 4).map (fun i => (i.zero, i.size, i.bytes)) = some (some (.bool false), 1, 1) := by kernel_rfl
def tcells (L : List Bool) : List Value := L.map Value.bool
theorem tcells_len (L : List Bool) : (tcells L).length = L.length := by simp [tcells]
theorem bool_one (b : Bool) : ∀ u ∈ [Value.bool b], u.oneCell' = true := by
  intro u hu
  simp at hu
  subst hu
  rfl
structure Grow (w wr : World) (L : List Bool) (k : Nat) (v : Value) : Prop where
  o : wr.ownsRow 0 4 1 v k (tcells L)
  c : Chg NoS w wr
  n : ∀ i, i < w.heap.size → v.ownBlock ≠ some i
theorem Grow.add {w wr w2 : World} {L M : List Bool} {k m : Nat} {v v2 : Value} {o : Obj} (h : Grow w wr L k v) (hg : (wr.alloc o).grownBy w2 v.ownBlock) (hO : w2.ownsRow 0 4 1 v2 (k + m) (tcells L ++ tcells M)) (hat : v2.ownBlock = v.ownBlock ∨ v2.ownBlock = some (wr.alloc o).heap.size) :
    Grow w w2 (L ++ M) (k + m) v2 := by
  have hc2 : Chg (fun i => v.ownBlock = some i) wr w2 := ((Chg.refl _ wr).alloc o).grown hg (fun i e _ => e)
  refine ⟨by simpa [tcells] using hO, h.c.trans hc2 (fun i h1 h2 => absurd h2 (h.n i h1)), fun i hi he => ?_⟩
  rcases hat with e | e
  · exact h.n i hi (e ▸ he)
  · rw [e] at he
    injection he with he
    have := h.c.size
    simp at he
    omega
end Go.Proofs.YtmmilchmnimjoaaGreat
/- The document's own answer: bytes' bits, and the number of bits; and a reader's Align. -/
namespace Go.Proofs.YtmmilchmnimjoaaGreat
open Go.RowKit
set_option linter.unusedVariables false
set_option maxHeartbeats 1000000 in
theorem refof_any (high : Bool) (M : List Bool) (A : Option Addr) (c : Nat) (w : World) (hM : M.length ≤ 32) (hS : Src w 1 A M.length c (tcells M)) :
    Calls Tryz.prog 53 #[.slice A M.length c, .bool high] w fun e w' => e = .returned (.int .u32 (ofPart high M M.length : Nat)) ∧ w = w' := by
  have HS := keepf hS
  clear hS
  go_enter Tryz.func53, Tryz.ntmps53
  go_wp2_with fail
  go_loop [5, 6] (fun v i => ∃ k x : Nat, k ≤ M.length ∧ i = .int .i64 k ∧ v = .int .u32 x ∧ Hid (x = ofPart high M k)) (fun _ i => M.length - (intOf i).toNat)
  case atStart => exact ⟨0, 0, Nat.zero_le _, rfl, rfl, rfl⟩
  case round =>
    obtain ⟨k, x, hk, rfl, rfl, hx⟩ := hrel
    by_cases hlt : k < M.length
    · obtain ⟨b, off, rfl, hcell⟩ := HS.out.plain (by rw [tcells_len]; omega)
      have hx31 : x < 2147483648 := by
        have h1 := ofPart_lt high M k
        rw [← hx.out] at h1
        have h2 : 2 ^ k ≤ 2 ^ 31 := Nat.pow_le_pow_right (by decide) (by omega)
        omega
      cases high
      · obtain ⟨q, hq⟩ : ∃ q, q = M.length - 1 - k := ⟨_, rfl⟩
        have hql : q < M.length := by omega
        obtain ⟨bq, hbq⟩ : ∃ bq, M[q]? = some bq := ⟨_, List.getElem?_eq_getElem hql⟩
        have hc := hcell q (.bool bq) (by simp [tcells, hbq])
        have hs := ofPart_succ false M k bq (by simp only [cond_false]; rw [← hq, List.getD_eq_getElem?_getD, hbq]; rfl)
        rw [← hx.out] at hs
        have HSU := keepf hs
        clear hs hcell hbq
        rw [hq] at hc
        clear hql hq
        cases bq
        · go_wp2_with fail
          go_round
          case rel => exact ⟨k + 1, 2 * x, by omega, by go_num, by go_num, HSU.out.symm⟩
          case measure => simp [intOf]; omega
        · go_wp2_with fail
          go_round
          case rel => exact ⟨k + 1, 2 * x + 1, by omega, by go_num, by go_num, HSU.out.symm⟩
          case measure => simp [intOf]; omega
      · obtain ⟨bq, hbq⟩ : ∃ bq, M[k]? = some bq := ⟨_, List.getElem?_eq_getElem hlt⟩
        have hc := hcell k (.bool bq) (by simp [tcells, hbq])
        have hs := ofPart_succ true M k bq (by simp only [cond_true]; rw [List.getD_eq_getElem?_getD, hbq]; rfl)
        rw [← hx.out] at hs
        have HSU := keepf hs
        clear hs hcell hbq
        cases bq
        · go_wp2_with fail
          go_round
          case rel => exact ⟨k + 1, 2 * x, by omega, by go_num, by go_num, HSU.out.symm⟩
          case measure => simp [intOf]; omega
        · go_wp2_with fail
          go_round
          case rel => exact ⟨k + 1, 2 * x + 1, by omega, by go_num, by go_num, HSU.out.symm⟩
          case measure => simp [intOf]; omega
    · obtain rfl : k = M.length := by omega
      go_wp2_with fail
      go_ret
      exact ⟨by rw [← hx.out]; rfl, rfl⟩
def BitsTo (w : World) (L : List Bool) (e : Ending) (w' : World) : Prop :=
  ∃ A cap, e = .returned (.slice A L.length cap) ∧ Grow w w' L L.length (.slice A L.length cap)
set_option maxHeartbeats 1000000 in
set_option maxRecDepth 100000 in
theorem refbits_any (high : Bool) (bs : List Nat) (A : Option Addr) (c : Nat) (w : World) (hbs : bs.length ≤ 1000000) (hb : ∀ b ∈ bs, b < 256) (hS : Src w 1 A bs.length c (ucells bs)) :
    Calls Tryz.prog 33 #[.slice A bs.length c, .bool high] w (BitsTo w (allBits high bs)) := by
  have HS := keepf hS
  have HB := keepf hb
  clear hS hb
  obtain ⟨i0, hi, hz0, hz1, hz2⟩ := info_parts info_bool
  go_enter Tryz.func33, Tryz.ntmps33
  go_wp2_with fail
  go_loopw [5, 6] (fun v i wr => ∃ k : Nat, k ≤ bs.length ∧ i = .int .i64 k ∧ Grow w wr ((allBits high bs).take (8 * k)) (8 * k) v) (fun _ i _ => bs.length - (intOf i).toNat)
  case atStart => exact ⟨0, Nat.zero_le _, rfl, own_nil _ _ _ _, Chg.refl _ _, fun i _ h => by simp [Value.ownBlock] at h⟩
  case round =>
    obtain ⟨k, hk, rfl, hG⟩ := hrel
    obtain ⟨A5, c5, rfl, _⟩ := own_slice hG.o
    have HG := keepf hG
    clear hG
    by_cases hlt : k < bs.length
    · obtain ⟨b, off, rfl, hcell⟩ := HS.out.plain (by simp [ucells]; omega)
      have hc := hcell k (.int .u8 (bs[k] : Nat)) (by simp [ucells, hlt])
      have hbk := HB.out bs[k] (List.getElem_mem hlt)
      have HN := keepf (allBits_next high bs k)
      have hbd : bs.getD k 0 = bs[k] := by simp [List.getD_eq_getElem?_getD, hlt]
      rw [hbd] at HN
      generalize bs[k] = x at *
      have E0 := keepf hc
      clear hcell hc hbd
      go_wp2_with fail
      go_loopw [5, 7] (fun v i wr => ∃ j : Nat, j ≤ 8 ∧ i = .int .i64 j ∧ Grow w wr ((allBits high bs).take (8 * k + j)) (8 * k + j) v) (fun _ i _ => 8 - (intOf i).toNat)
      case atStart => exact ⟨0, Nat.zero_le _, rfl, HG.out⟩
      case round =>
        obtain ⟨j, hj, rfl, hG2⟩ := hrel
        obtain ⟨A6, c6, rfl, _⟩ := own_slice hG2.o
        have HG2 := keepf hG2
        clear hG2 HG
        by_cases hj8 : j < 8
        · have hck := (HG2.out.c.cell (p := ⟨b, off + k, none⟩) (by exact cell_lt E0.out) (fun h => h)).trans E0.out
          have HN2 := keepf (HN.out j hj8 hlt)
          cases high
          · simp only [rowAt, cond_false] at HN2
            go_wp2_with fail
            refine (bit_any x j _ (by omega) (by omega) (by omega)).mono ?_
            rintro e w' ⟨rfl, rfl⟩
            rw [Int.toNat_natCast]
            go_wp2_with (first
              | (at_builtin; refine wpList_append_src rfl (.tmp 30) (.tmp 38) 58 rfl 4 i0 (.bool false) 1 1 Tryz.underlying58 hi hz0 hz1 hz2 rfl (by decide) (.slice A6 (8 * k + j) c6) _ _ rfl (own_chg (S := NoS) HG2.out.o ((Chg.refl _ _).alloc _) (fun _ _ h => h)) _ _ _ _ rfl (src_one _ _ _) (bool_one _) (by unfold maxLen; omega) (by omega) ?_; intro S2 w2 hown2 hgr hat; obtain ⟨A2, c2, rfl, hA2⟩ := own_slice hown2; have HGr := keepf hgr; have HO2 := keepf hown2; have HA2 := keepf hat; clear hgr hown2 hat hA2))
            go_roundw
            case rel => exact ⟨j + 1, by omega, by go_num, by rw [HN2.out, ← Nat.add_assoc]; exact HG2.out.add (M := [_]) (m := 1) HGr.out HO2.out HA2.out⟩
            case measure => simp [intOf]; omega
          · simp only [rowAt, cond_true] at HN2
            go_wp2_with fail
            refine (bit_any x (7 - j) _ (by omega) (by omega) (by omega)).mono ?_
            rintro e w' ⟨rfl, rfl⟩
            rw [show ((7 : Int) - (j : Int)).toNat = 7 - j from by omega]
            go_wp2_with (first
              | (at_builtin; refine wpList_append_src rfl (.tmp 19) (.tmp 28) 58 rfl 4 i0 (.bool false) 1 1 Tryz.underlying58 hi hz0 hz1 hz2 rfl (by decide) (.slice A6 (8 * k + j) c6) _ _ rfl (own_chg (S := NoS) HG2.out.o ((Chg.refl _ _).alloc _) (fun _ _ h => h)) _ _ _ _ rfl (src_one _ _ _) (bool_one _) (by unfold maxLen; omega) (by omega) ?_; intro S2 w2 hown2 hgr hat; obtain ⟨A2, c2, rfl, hA2⟩ := own_slice hown2; have HGr := keepf hgr; have HO2 := keepf hown2; have HA2 := keepf hat; clear hgr hown2 hat hA2))
            go_roundw
            case rel => exact ⟨j + 1, by omega, by go_num, by rw [HN2.out, ← Nat.add_assoc]; exact HG2.out.add (M := [_]) (m := 1) HGr.out HO2.out HA2.out⟩
            case measure => simp [intOf]; omega
        · obtain rfl : j = 8 := by omega
          go_wp2_with fail
          go_roundw
          case rel => exact ⟨k + 1, by omega, by go_num, HG2.out⟩
          case measure => simp [intOf]; omega
    · obtain rfl : k = bs.length := by omega
      go_wp2_with fail
      go_ret
      have hG := HG.out
      have hL := allBits_length high bs
      rw [List.take_of_length_le (by rw [hL]; exact Nat.le_refl _)] at hG
      exact ⟨A5, c5, by rw [hL]; rfl, by rw [hL]; exact hG⟩
end Go.Proofs.YtmmilchmnimjoaaGreat
/- The document's own answer: the codes of lengths. -/
namespace Go.Proofs.YtmmilchmnimjoaaGreat
open Go.RowKit
set_option linter.unusedVariables false
set_option linter.unusedSimpArgs false
def crow (N : Nat) (f : Nat → Nat) : List Value := ccells ((List.range N).map f)
theorem crow_get (N : Nat) (f : Nat → Nat) (i : Nat) (h : i < N) : (crow N f)[i]? = some (.int .u32 (f i : Nat)) := by simp [crow, ccells, h]
theorem crow_congr (N : Nat) (f g : Nat → Nat) (h : ∀ i, i < N → f i = g i) : crow N f = crow N g := by
  unfold crow
  congr 1
  exact List.map_congr_left fun i hi => h i (List.mem_range.1 hi)
theorem crow_set (N : Nat) (f : Nat → Nat) (k v : Nat) : (crow N f).set k (.int .u32 (v : Nat)) = crow N (fun i => if i = k then v else f i) := by
  apply List.ext_getElem?
  intro i
  by_cases hi : i < N
  · rw [crow_get _ _ _ hi, List.getElem?_set]
    by_cases e : k = i
    · subst e
      simp [crow, ccells, hi]
    · rw [if_neg e, crow_get _ _ _ hi]
      simp [show ¬ i = k from fun h => e h.symm]
  · rw [List.getElem?_eq_none (by simp [crow, ccells]; omega), List.getElem?_eq_none (by simp [crow, ccells]; omega)]
theorem crow_zero (N : Nat) : (madeCells (Value.int .u32 0).cells (N * 1)).toList = crow N (fun _ => 0) := by
  rw [show (Value.int .u32 0).cells = #[.int .u32 0] from rfl, toList_madeCells_one, Nat.mul_one]
  apply List.ext_getElem?
  intro i
  by_cases hi : i < N
  · rw [crow_get _ _ _ hi]; simp [hi]
  · rw [List.getElem?_eq_none (by simp; omega), List.getElem?_eq_none (by simp [crow, ccells]; omega)]
structure CRow (w wr : World) (N go : Nat) (f : Nat → Nat) : Prop where
  o : wr.ownsRow 0 42 1 (.slice (some ⟨go, 0, none⟩) N N) N (crow N f)
  c : Chg NoS w wr
  g : w.heap.size ≤ go
theorem CRow.set {w wr : World} {N go : Nat} {f : Nat → Nat} (h : CRow w wr N go f) (k v : Nat) : CRow w (wr.setCell ⟨go, k, none⟩ (.int .u32 (v : Nat))) N go (fun i => if i = k then v else f i) := by
  have h1 := (h.o.stored k (.int .u32 (v : Nat))).1
  rw [crow_set] at h1
  exact ⟨h1, h.c.setCell (p := ⟨go, k, none⟩) (fun hh => by have := h.g; simp only at hh; exact absurd hh (by omega)) _, h.g⟩
theorem CRow.congr {w wr : World} {N go : Nat} {f g : Nat → Nat} (h : CRow w wr N go f) (e : ∀ i, i < N → f i = g i) : CRow w wr N go g := ⟨by rw [← crow_congr N f g e]; exact h.o, h.c, h.g⟩
set_option maxHeartbeats 2000000 in
set_option maxRecDepth 100000 in
theorem rcodes_ok (ls : List Int) (A : Option Addr) (c : Nat) (w : World) (hM : May ls) (hb : in64 ls) (hS : Src w 1 A ls.length c (icells ls)) :
    Calls Tryz.prog 82 #[.slice A ls.length c] w (CodesTo w ls) := by
  have hL : ls.length ≤ 1000 := by have := hM.2.1; omega
  have HP := keepf (fun W h => rmay_any ls A c W hL hb h)
  obtain ⟨b, off, rfl, hcell⟩ := hS.plain (by rw [icells_len]; have := hM.1; omega)
  have HS := keepf hS
  have HC := keepf hcell
  have HM := keepf hM
  clear hS hb hM hcell
  obtain ⟨n, hn⟩ : ∃ n, n = ls.length := ⟨_, rfl⟩
  have HN := keepf hn
  have hn320 : n ≤ 320 := by have := HM.out.2.1; omega
  have HSn : Hid (∀ W : World, Calls Tryz.prog 105 #[.slice (some ⟨b, off, none⟩) n c] w fun e w' => e = .returned (.bool true) ∧ w = w') := by
    intro W
    rw [HN.out]
    refine (HP.out _ HS.out).mono ?_
    rintro e w' ⟨rfl, rfl⟩
    exact ⟨by rw [decide_eq_true HM.out], rfl⟩
  rw [← hn]
  clear hn hL
  obtain ⟨i0, hi, hz0, hz1, hz2⟩ := info_parts info_u32
  go_enter Tryz.func82, Tryz.ntmps82
  go_wp2_with (first
    | (go_at_call 105; refine (HSn.out w).mono ?_; rintro e w1 ⟨rfl, rfl⟩)
    | (at_make; refine wpList_make_full _ rfl (.tmp 12) (.tmp 12) 95 rfl 0 42 i0 (.int .u32 0) 1 Tryz.underlying95 hi hz0 hz1 .i64 .i64 _ _ n rfl rfl rfl rfl (by rw [hz2]; omega) (by unfold maxLen; omega) (Nat.zero_le _) ?_; intro w2 hown2 hgr; have HO2 := keepf hown2; have HG2 := keepf hgr; clear hown2 hgr))
  have HF := keepf (show CRow w w2 n w.heap.size (fun _ => 0) from ⟨by have := HO2.out; rw [crow_zero] at this; exact this, (Chg.refl _ _).grown HG2.out (fun k e _ => by cases e), Nat.le_refl _⟩)
  obtain ⟨go, hgo⟩ : ∃ go, go = w.heap.size := ⟨_, rfl⟩
  rw [← hgo] at HF ⊢
  have HGO := keepf hgo
  clear hgo HO2 HG2 hi hz0 hz1 hz2
  go_loopw [5, 6] (fun v i wr => ∃ m x : Nat, 1 ≤ m ∧ m ≤ 16 ∧ x ≤ 32768 ∧ i = .int .i64 m ∧ v = .int .u32 x ∧ Hid (x = fst (cnt ls) (m - 1) + cnt ls (m - 1)) ∧ CRow w wr n go (fun i => if 0 < lenAt ls i ∧ lenAt ls i < m then cd ls i else 0)) (fun _ i _ => 16 - (intOf i).toNat)
  case atStart => exact ⟨1, 0, by omega, by omega, by omega, rfl, rfl, (by show 0 = _; simp [fst, cnt_zero]), HF.out.congr (fun i _ => by rw [if_neg (by omega)])⟩
  case round =>
    obtain ⟨m, x, hm1, hm2, hx, rfl, rfl, hX, hR⟩ := hrel
    have HR := keepf hR
    clear hR HF
    by_cases hlt : m < 16
    · have hf : 2 * x = fst (cnt ls) m := by
        rw [hX.out, show m = (m - 1) + 1 from by omega, fst]
        simp only [Nat.add_sub_cancel]
        omega
      have hfl := fst_le ls HM.out m (by omega)
      have hfp : 2 ^ m ≤ 2 ^ 15 := Nat.pow_le_pow_right (by decide) (by omega)
      have HFF := keepf hf
      have HFL := keepf hfl
      clear hf hfl
      go_wp2_with fail
      go_loopw [5, 7] (fun v i wr => ∃ k y : Nat, k ≤ n ∧ y ≤ 32768 ∧ i = .int .i64 k ∧ v = .int .u32 y ∧ Hid (y = fst (cnt ls) m + cnt (ls.take k) m) ∧ CRow w wr n go (fun i => if 0 < lenAt ls i ∧ (lenAt ls i < m ∨ lenAt ls i = m ∧ i < k) then cd ls i else 0)) (fun _ i _ => n - (intOf i).toNat)
      case atStart => exact ⟨0, 2 * x, Nat.zero_le _, by have := HFF.out; have := HFL.out; omega, rfl, by go_num, (by show 2 * x = _; simp [HFF.out, cnt_nil]), HR.out.congr (fun i _ => by
        by_cases e : 0 < lenAt ls i ∧ lenAt ls i < m
        · rw [if_pos e, if_pos ⟨e.1, .inl e.2⟩]
        · rw [if_neg e, if_neg (by omega)])⟩
      case round =>
        obtain ⟨k, y, hk, hy, rfl, rfl, hY, hR2⟩ := hrel
        have HR2 := keepf hR2
        clear hR2 HR
        by_cases hkn : k < n
        · have hkl : k < ls.length := by have := HN.out; omega
          have hls := some_lenAt HM.out.2.2.1 hkl
          obtain ⟨nn, hnn⟩ : ∃ nn, nn = lenAt ls k := ⟨_, rfl⟩
          rw [← hnn] at hls
          have hc := (HR2.out.c.cell (p := ⟨b, off + k, none⟩) (by exact cell_lt (HC.out k _ (icells_get hls))) (fun h => h)).trans (HC.out k _ (icells_get hls))
          have hcs : ∀ j, cnt (ls.take (k + 1)) j = cnt (ls.take k) j + if j ≠ 0 ∧ (nn : Int) = j then 1 else 0 := fun j => by rw [take_snoc ls k _ hls, cnt_snoc]
          have HLS := keepf hls
          have HNN := keepf hnn
          have HCS := keepf hcs
          clear hls hnn hcs
          by_cases he : nn = m
          · subst he
            have hd : cd ls k = y := by
              rw [cd_eq (by omega) HLS.out, hY.out, rank, lenAt_some HLS.out]
            have hyl := cd_lt16 HM.out k
            rw [hd] at hyl
            have hco := HR2.out.o.cellAt k (by omega)
            rw [crow_get _ _ _ hkn] at hco
            have hfo := HR2.out.o.frozenAt k
            have HD := keepf hd
            clear hd
            have hn0 : nn ≠ 0 := by omega
            generalize (if 0 < lenAt ls k ∧ (lenAt ls k < nn ∨ lenAt ls k = nn ∧ k < k) then cd ls k else 0) = ov at hco
            go_wp2_with fail
            go_roundw
            case rel =>
              refine ⟨k + 1, y + 1, by omega, by omega, by go_num, by go_num, (by show y + 1 = _; rw [HCS.out]; simp [hn0]; have := hY.out; omega), (HR2.out.set k y).congr (fun i _ => ?_)⟩
              by_cases e : i = k
              · subst e
                rw [if_pos rfl, if_pos (by have := HNN.out; omega), HD.out]
              · rw [if_neg e]
                by_cases e2 : 0 < lenAt ls i ∧ (lenAt ls i < nn ∨ lenAt ls i = nn ∧ i < k)
                · rw [if_pos e2, if_pos (by omega)]
                · rw [if_neg e2, if_neg (by omega)]
            case measure => simp [intOf]; omega
          · have d1 : ((nn : Int) == (m : Int)) = false := by simp; omega
            go_wp2_with fail
            go_roundw
            case rel =>
              refine ⟨k + 1, y, by omega, by omega, by go_num, rfl, (by show y = _; rw [HCS.out, if_neg (by omega)]; have := hY.out; omega), HR2.out.congr (fun i _ => ?_)⟩
              by_cases e : i = k
              · subst e
                have := HNN.out
                by_cases e2 : 0 < lenAt ls i ∧ (lenAt ls i < m ∨ lenAt ls i = m ∧ i < i)
                · rw [if_pos e2, if_pos (by omega)]
                · rw [if_neg e2, if_neg (by omega)]
              · by_cases e2 : 0 < lenAt ls i ∧ (lenAt ls i < m ∨ lenAt ls i = m ∧ i < k)
                · rw [if_pos e2, if_pos (by omega)]
                · rw [if_neg e2, if_neg (by omega)]
            case measure => simp [intOf]; omega
        · obtain rfl : k = n := by omega
          go_wp2_with fail
          go_roundw
          case rel => exact ⟨m + 1, y, by omega, by omega, by omega, by go_num, rfl, by rw [hY.out, HN.out, List.take_length]; rfl, HR2.out.congr (fun i hi => by
            by_cases e2 : 0 < lenAt ls i ∧ (lenAt ls i < m ∨ lenAt ls i = m ∧ i < k)
            · rw [if_pos e2, if_pos (by omega)]
            · rw [if_neg e2, if_neg (by omega)])⟩
          case measure => simp [intOf]; omega
    · obtain rfl : m = 16 := by omega
      go_wp2_with fail
      go_ret2
      have h1 := HR.out.congr (g := cd ls) (fun i _ => by
        have := lenAt_le HM.out.2.2.1 i
        by_cases e : 0 < lenAt ls i
        · rw [if_pos ⟨e, by omega⟩]
        · rw [if_neg (by omega), cd, if_pos (by omega)])
      have hg := HGO.out
      refine ⟨some ⟨go, 0, none⟩, n, by rw [← HN.out]; rfl, ?_, h1.c, fun i hi he => ?_⟩
      · have := h1.o
        rw [← HN.out]
        show wr.ownsRow 0 _ 1 _ n (ccells (codesOf ls))
        rw [codesOf, ← HN.out]
        exact this
      · simp [Value.ownBlock] at he; omega
end Go.Proofs.YtmmilchmnimjoaaGreat
/- The document's own answer: the symbol with whose code bits begin. -/
namespace Go.Proofs.YtmmilchmnimjoaaGreat
open Go.RowKit
set_option linter.unusedVariables false
set_option linter.unusedSimpArgs false
def longer (ls : List Int) (k m : Nat) : Bool := (ls.take k).any (fun z => decide ((m : Int) ≤ z))
theorem longer_succ (ls : List Int) (k m : Nat) (z : Int) (h : ls[k]? = some z) : longer ls (k + 1) m = (longer ls k m || decide ((m : Int) ≤ z)) := by
  simp [longer, take_snoc ls k z h]
theorem longer_deep (ls : List Int) (hM : May ls) (m : Nat) (hm : m ≠ 0) : longer ls ls.length m = decide (m ≤ deepL ls) := by
  rw [longer, List.take_length, Bool.eq_iff_iff]
  simp only [List.any_eq_true, decide_eq_true_eq]
  constructor
  · rintro ⟨z, hz, hle⟩
    have h1 := hM.2.2.1 z hz
    obtain ⟨i, hi⟩ := List.getElem?_of_mem hz
    have := deepL_of hM.2.2.1 (s := i) (n := z.toNat) (by omega) (by rw [hi]; congr 1; omega)
    omega
  · intro h
    obtain ⟨s, hs⟩ := deepL_some (ls := ls) (by omega)
    exact ⟨_, List.mem_of_getElem? hs, by omega⟩
theorem vl_take (B : List Bool) (j : Nat) (b : Bool) (h : B[j]? = some b) : vl (B.take (j + 1)) = 2 * vl (B.take j) + b.toNat := by
  rw [List.take_add_one, h]
  exact vl_snoc _ _
set_option maxHeartbeats 4000000 in
set_option maxRecDepth 100000 in
theorem take_any (ls : List Int) (A A2 A3 : Option Addr) (c c2 c3 : Nat) (B : List Bool) (w : World) (hM : May ls) (hB : B.length ≤ 1000000)
    (hS : Src w 1 A ls.length c (icells ls)) (hS2 : Src w 1 A2 ls.length c2 (crow ls.length (cd ls))) (hS3 : Src w 1 A3 B.length c3 (tcells B)) :
    Calls Tryz.prog 83 #[.slice A ls.length c, .slice A2 ls.length c2, .slice A3 B.length c3] w fun e w' => (∃ (s n : Nat) (k : Int), e = .returned (.tuple #[.int .i64 s, .int .i64 n, .int .i64 k]) ∧ Out ls B s n k) ∧ w = w' := by
  have hlen := hM.1
  obtain ⟨b, off, rfl, hcell⟩ := hS.plain (by rw [icells_len]; omega)
  obtain ⟨b2, off2, rfl, hcell2⟩ := hS2.plain (by simp [crow, ccells]; omega)
  have HC := keepf hcell
  have HC2 := keepf hcell2
  have HS3 := keepf hS3
  have HM := keepf hM
  clear hS hS2 hS3 hM hcell hcell2
  obtain ⟨n, hn⟩ : ∃ n, n = ls.length := ⟨_, rfl⟩
  have HN := keepf hn
  have hn320 : n ≤ 320 := by have := HM.out.2.1; omega
  rw [← hn] at hlen HC2 ⊢
  clear hn
  go_enter Tryz.func83, Tryz.ntmps83
  go_wp2_with fail
  go_loop [9] (fun i => ∃ m : Nat, 1 ≤ m ∧ m ≤ 16 ∧ m ≤ deepL ls + 1 ∧ m ≤ B.length + 1 ∧ i = .int .i64 m ∧ Hid (∀ j q, j < m → ¬ Hit ls B j q)) (fun i => 16 - (intOf i).toNat)
  case atStart => exact ⟨1, by omega, by omega, by omega, by omega, rfl, fun j q h hh => hh.1 (by omega)⟩
  case round =>
    obtain ⟨m, hm1, hm16, hmd, hmB, rfl, hNo⟩ := hrel
    have HMD := keepf hmd
    clear hmd
    by_cases hlt : m < 16
    · go_wp2_with fail
      go_loop [10, 11] (fun v i => ∃ k : Nat, k ≤ n ∧ i = .int .i64 k ∧ v = .bool (longer ls k m)) (fun _ i => n - (intOf i).toNat)
      case atStart => exact ⟨0, Nat.zero_le _, rfl, by simp [longer]⟩
      case round =>
        obtain ⟨k, hk, rfl, rfl⟩ := hrel
        by_cases hkn : k < n
        · obtain ⟨z, hz⟩ : ∃ z, ls[k]? = some z := ⟨_, List.getElem?_eq_getElem (by have := HN.out; omega)⟩
          have hc := HC.out k _ (icells_get hz)
          have hls := longer_succ ls k m z hz
          have HZ := keepf hls
          clear hls hz
          cases hlo : longer ls k m
          · rw [hlo] at HZ
            go_wp2_with fail
            go_round
            case rel => exact ⟨k + 1, by omega, by go_num, by rw [HZ.out]; simp⟩
            case measure => simp [intOf]; omega
          · rw [hlo] at HZ
            go_wp2_with fail
            go_round
            case rel => exact ⟨k + 1, by omega, by go_num, by rw [HZ.out]; simp⟩
            case measure => simp [intOf]; omega
        · obtain rfl : n = k := by omega
          have hlo : longer ls n m = decide (m ≤ deepL ls) := by rw [HN.out]; exact longer_deep ls HM.out m (by omega)
          rw [hlo]
          by_cases hmd : m ≤ deepL ls
          · have d1 : decide (m ≤ deepL ls) = true := by simpa using hmd
            rw [d1]
            by_cases hBm : B.length < m
            · have d2 : (B.length : Int) < m := by omega
              clear d1 hlo
              go_wp2_with fail
              go_ret3
              obtain rfl : m = B.length + 1 := by omega
              have ho := Out.cut (ls := ls) (B := B) (by omega) (fun j q hh => hNo.out j q (by have := hh.2.1; omega) hh)
              exact ⟨⟨0, B.length, 10, (by congr 1; congr 1; simp), ho⟩, rfl⟩
            · have d2 : decide ((B.length : Int) < m) = false := by simp; omega
              obtain ⟨b3, off3, rfl, hcell3⟩ := HS3.out.plain (by rw [tcells_len]; omega)
              have HC3 := keepf hcell3
              clear d1 hlo hcell3
              go_wp2_with fail
              clear d2
              go_loop [12, 13] (fun v i => ∃ j x : Nat, j ≤ m ∧ x < 2 ^ j ∧ i = .int .i64 j ∧ v = .int .u32 x ∧ Hid (x = vl (B.take j))) (fun _ i => m - (intOf i).toNat)
              case atStart => exact ⟨0, 0, by omega, by simp, rfl, rfl, (by show 0 = _; simp [vl])⟩
              case round =>
                obtain ⟨j, x, hj, hx, rfl, rfl, hX⟩ := hrel
                have hp : 2 ^ j ≤ 2 ^ 15 := Nat.pow_le_pow_right (by decide) (by omega)
                have hx15 : x < 32768 := by omega
                have HXB := keepf hx
                clear hp hx
                by_cases hjm : j < m
                · obtain ⟨bb, hbb⟩ : ∃ bb, B[j]? = some bb := ⟨_, List.getElem?_eq_getElem (by omega)⟩
                  have hc3 := HC3.out j (.bool bb) (by simp [tcells, hbb])
                  have hv := vl_take B j bb hbb
                  rw [← hX.out] at hv
                  have HV := keepf hv
                  have HX2 := HXB.out
                  have hps : 2 ^ (j + 1) = 2 * 2 ^ j := by rw [Nat.pow_succ]; omega
                  have HPS := keepf hps
                  clear hbb hv HX2 hps
                  cases bb
                  · go_wp2_with fail
                    go_round
                    case rel => exact ⟨j + 1, 2 * x, by omega, by have := HXB.out; have := HPS.out; omega, by go_num, by go_num, (by show _ = _; rw [HV.out]; simp)⟩
                    case measure => simp [intOf]; omega
                  · go_wp2_with fail
                    go_round
                    case rel => exact ⟨j + 1, 2 * x + 1, by omega, by have := HXB.out; have := HPS.out; omega, by go_num, by go_num, (by show _ = _; rw [HV.out]; simp)⟩
                    case measure => simp [intOf]; omega
                · obtain rfl : m = j := by omega
                  go_wp2_with fail
                  go_loop [14] (fun i => ∃ k : Nat, k ≤ n ∧ i = .int .i64 k ∧ Hid (∀ q, q < k → ¬ Hit ls B m q)) (fun i => n - (intOf i).toNat)
                  case atStart => exact ⟨0, Nat.zero_le _, rfl, fun q h => absurd h (by omega)⟩
                  case round =>
                    obtain ⟨k, hk, rfl, hQ⟩ := hrel
                    by_cases hkn : k < n
                    · have hkl : k < ls.length := by have := HN.out; omega
                      have hz := some_lenAt HM.out.2.2.1 hkl
                      obtain ⟨z, hzz⟩ : ∃ z, z = lenAt ls k := ⟨_, rfl⟩
                      rw [← hzz] at hz
                      have hc := HC.out k _ (icells_get hz)
                      have hc2 := HC2.out k _ (crow_get n (cd ls) k hkn)
                      obtain ⟨y, hy⟩ : ∃ y, y = cd ls k := ⟨_, rfl⟩
                      rw [← hy] at hc2
                      have HZ := keepf hz
                      have HY := keepf hy
                      clear hz hzz hy
                      by_cases he : z = m
                      · have e1 : ((z : Int) == (m : Int)) = true := by simp; omega
                        by_cases hyx : y = x
                        · have e2 : ((y : Int) == (x : Int)) = true := by simp; omega
                          go_wp2_with fail
                          go_ret3
                          refine ⟨⟨k, m, 0, rfl, .ok m k ⟨by omega, by omega, by rw [HZ.out, he], by rw [← HY.out, hyx, hX.out]⟩ hNo.out⟩, rfl⟩
                        · have e2 : ((y : Int) == (x : Int)) = false := by simp; omega
                          go_wp2_with fail
                          go_round
                          case rel =>
                            refine ⟨k + 1, by omega, by go_num, fun q hq hh => ?_⟩
                            by_cases e : q = k
                            · subst e
                              exact hyx (by rw [HY.out, hX.out]; exact hh.2.2.2)
                            · exact hQ.out q (by omega) hh
                          case measure => simp [intOf]; omega
                      · have e1 : ((z : Int) == (m : Int)) = false := by simp; omega
                        go_wp2_with fail
                        go_round
                        case rel =>
                          refine ⟨k + 1, by omega, by go_num, fun q hq hh => ?_⟩
                          by_cases e : q = k
                          · subst e
                            have e2 : (z : Int) = (m : Int) := Option.some.inj (HZ.out.symm.trans hh.2.2.1)
                            exact he (by omega)
                          · exact hQ.out q (by omega) hh
                        case measure => simp [intOf]; omega
                    · obtain rfl : k = n := by omega
                      go_wp2_with fail
                      go_round
                      case rel =>
                        refine ⟨m + 1, by omega, by omega, by omega, by omega, by go_num, fun j q hj hh => ?_⟩
                        by_cases e : j = m
                        · subst e
                          have hql := (List.getElem?_eq_some_iff.1 hh.2.2.1).1
                          exact hQ.out q (by have := HN.out; omega) hh
                        · exact hNo.out j q (by omega) hh
                      case measure => simp [intOf]; omega
          · have d1 : decide (m ≤ deepL ls) = false := by simpa using hmd
            rw [d1]
            clear hlo
            go_wp2_with fail
            go_ret3
            have hd := HMD.out
            have hd2 : m - 1 = deepL ls := by omega
            have ho := Out.code (ls := ls) (B := B) (by omega) (fun j q hh => hNo.out j q (by have := deepL_of HM.out.2.2.1 hh.1 hh.2.2.1; omega) hh)
            exact ⟨⟨0, deepL ls, 13, (by rw [← hd2]; congr 1; congr 1; simp; omega), ho⟩, rfl⟩
    · obtain rfl : m = 16 := by omega
      go_wp2_with fail
      go_ret3
      have hd := HMD.out
      have hd2 := deepL_le ls
      have hd3 : deepL ls = 15 := by omega
      have ho := Out.code (ls := ls) (B := B) (by omega) (fun j q hh => hNo.out j q (by have := deepL_of HM.out.2.2.1 hh.1 hh.2.2.1; omega) hh)
      rw [hd3] at ho
      exact ⟨⟨0, 15, 13, rfl, ho⟩, rfl⟩
end Go.Proofs.YtmmilchmnimjoaaGreat
/- The document's own unpacking: its state, and what its small steps do where all goes well. -/
namespace Go.Proofs.YtmmilchmnimjoaaGreat
open Go.RowKit
set_option linter.unusedVariables false
set_option linter.unusedSimpArgs false
theorem own_apart {w : World} {b1 b2 s1 s2 n1 n2 : Nat} {e1 e2 : TypeId} {v1 v2 : Value} {x1 x2 : List Value} (h : w.ownsRow b1 e1 s1 v1 n1 x1) (k : w.ownsRow b2 e2 s2 v2 n2 x2) (hne : e1 ≠ e2) {i : Nat} (h1 : v1.ownBlock = some i) (h2 : v2.ownBlock = some i) : False := by
  rcases h.2 with ⟨rfl, _⟩ | ⟨g, c, cur, rfl, _, hh, _⟩
  · simp [Value.ownBlock] at h1
  · rcases k.2 with ⟨rfl, _⟩ | ⟨g', c', cur', rfl, _, hh', _⟩
    · simp [Value.ownBlock] at h2
    · have e1' : g = i := by simpa [Value.ownBlock] using h1
      have e2' : g' = i := by simpa [Value.ownBlock] using h2
      subst e1' e2'
      rw [hh] at hh'
      injection hh' with e
      injection e with _ e
      exact hne e
structure RS (w : World) (g : Nat) (bs : List Nat) (V : Value) (a : Nat) (out : List Nat) (So : Value) (most : Nat) : Prop where
  blk : Blk w g 61 #[V, .int .i64 a, .int .i64 0, So, .int .i64 most]
  bits : w.ownsRow 0 4 1 V (8 * bs.length) (tcells (allBits false bs))
  own : w.ownsRow 0 5 1 So out.length (ucells out)
  le : a ≤ 8 * bs.length
  len : bs.length ≤ 100000
  mst : most ≤ 16777216
  ole : out.length ≤ most
def RM (g : Nat) (w : World) (So : Value) (w' : World) (So' : Value) : Prop :=
  Chg (fun i => i = g ∨ So.ownBlock = some i) w w' ∧ ∀ i, i < w.heap.size → So'.ownBlock = some i → So.ownBlock = some i
theorem RM.refl (g : Nat) (w : World) (So : Value) : RM g w So w So := ⟨Chg.refl _ _, fun _ _ h => h⟩
theorem RM.trans {g : Nat} {w w' w2 : World} {So So' So2 : Value} (h : RM g w So w' So') (k : RM g w' So' w2 So2) : RM g w So w2 So2 := by
  refine ⟨h.1.trans k.1 ?_, fun i hi e => h.2 i hi (k.2 i (by have := h.1.size; omega) e)⟩
  rintro i hi (rfl | e)
  · exact .inl rfl
  · exact .inr (h.2 i hi e)
theorem RM.of {g : Nat} {w w' : World} {So : Value} (h : Chg (fun i => i = g ∨ So.ownBlock = some i) w w') : RM g w So w' So := ⟨h, fun _ _ h => h⟩
theorem RM.new {g : Nat} {w w' : World} (So : Value) (h : Chg NoS w w') : RM g w So w' So := .of (h.mono (fun _ _ e => e.elim))
theorem RM.news {g : Nat} {w w' w2 : World} {So So' : Value} (h : RM g w So w' So') (k : Chg NoS w' w2) : RM g w So w2 So' := h.trans (.new _ k)
theorem RM.drewN {g : Nat} {w w' : World} {So So' : Value} (h : RM g w So w' So') (n : Nat) : RM g w So (w'.drewN n) So' := ⟨h.1.drewN n, h.2⟩
section
variable {w w' : World} {g a most : Nat} {bs out : List Nat} {V So : Value}
theorem RS.no (h : RS w g bs V a out So most) (hc : Chg NoS w w') : RS w' g bs V a out So most :=
  ⟨h.blk.chg hc (fun h => h), own_chg h.bits hc (fun _ _ h => h), own_chg h.own hc (fun _ _ h => h), h.le, h.len, h.mst, h.ole⟩
theorem RS.drewN (h : RS w g bs V a out So most) (n : Nat) : RS (w.drewN n) g bs V a out So most := h.no ((Chg.refl _ _).drewN n)
theorem RS.keep (h : RS w g bs V a out So most) {So' : Value} (hm : RM g w So w' So') {base size n : Nat} {v : Value} {e : TypeId} {xs : List Value} (ho : w.ownsRow base e size v n xs) (h1 : e ≠ 61) (h2 : 5 ≠ e) : w'.ownsRow base e size v n xs := by
  refine own_chg ho hm.1 (fun i hi => ?_)
  rintro (e1 | e1)
  · subst e1; exact own_ne_blk ho h.blk h1 hi
  · exact own_apart h.own ho h2 e1 hi
theorem RS.at_ (h : RS w g bs V a out So most) {b : Nat} (hb : b ≤ 8 * bs.length) : RS (w.setCell ⟨g, 1, none⟩ (.int .i64 b)) g bs V b out So most ∧ RM g w So (w.setCell ⟨g, 1, none⟩ (.int .i64 b)) So := by
  have hc : Chg (fun i => i = g) w (w.setCell ⟨g, 1, none⟩ (.int .i64 b)) := (Chg.refl (fun i => i = g) w).setCell (p := ⟨g, 1, none⟩) (fun _ => rfl) _
  refine ⟨⟨?_, own_chg h.bits hc (fun i hi e => own_ne_blk h.bits h.blk (by decide) (by rw [hi, e])), own_chg h.own hc (fun i hi e => own_ne_blk h.own h.blk (by decide) (by rw [hi, e])), hb, h.len, h.mst, h.ole⟩, .of (hc.mono (fun _ _ e => .inl e))⟩
  have := h.blk.set_ 1 (.int .i64 b)
  simpa using this
end
def RTo (w : World) (g : Nat) (bs : List Nat) (V : Value) (a : Nat) (out : List Nat) (So : Value) (most : Nat) (v : Value) (e : Ending) (w' : World) : Prop :=
  e = .returned v ∧ RS w' g bs V a out So most ∧ RM g w So w' So
theorem rfail_ok (g a most : Nat) (bs out : List Nat) (V So : Value) (w : World) (h : RS w g bs V a out So most) :
    Calls Tryz.prog 39 #[.pointer (some ⟨g, 0, none⟩), .int .i64 0] w (RTo w g bs V a out So most (.tuple #[])) := by
  have c2 := h.blk.cell 2
  have f2 := h.blk.frozen 2
  simp at c2
  have H := keepf h
  clear h
  go_enter Tryz.func39, Tryz.ntmps39
  go_wp2_with fail
  go_end0
  have hc : Chg (fun i => i = g) w (w.setCell ⟨g, 2, none⟩ (.int .i64 0)) := (Chg.refl (fun i => i = g) w).setCell (p := ⟨g, 2, none⟩) (fun _ => rfl) _
  have hR := H.out
  refine ⟨rfl, ⟨?_, own_chg hR.bits hc (fun i hi e => own_ne_blk hR.bits hR.blk (by decide) (by rw [hi, e])), own_chg hR.own hc (fun i hi e => own_ne_blk hR.own hR.blk (by decide) (by rw [hi, e])), hR.le, hR.len, hR.mst, hR.ole⟩, .of (hc.mono (fun _ _ e => .inl e))⟩
  have := hR.blk.set_ 2 (.int .i64 0)
  simpa using this
theorem sub_bits {w : World} {gb cap a n N : Nat} {B : List Bool} (h : Src w 1 (some ⟨gb, 0, none⟩) N cap (tcells B)) (hB : B.length = N) (hn : a + n ≤ N) : Src w 1 (some ⟨gb, a, none⟩) n (cap - a) (tcells ((B.drop a).take n)) := by
  refine ⟨by simp [tcells, hB]; omega, fun h => (by cases h), fun ad hA j u hu => ?_⟩
  cases hA
  have hj : j < n := by
    have := (List.getElem?_eq_some_iff.1 hu).1
    rw [tcells_len, List.length_take] at this
    omega
  have hu2 : (tcells B)[a + j]? = some u := by
    rw [← hu]
    simp [tcells, List.getElem?_take, hj, List.getElem?_drop]
  have h1 := h.2.2 _ rfl (a + j) u hu2
  have e1 : (⟨gb, 0, none⟩ : Addr).add (a + j) = ⟨gb, a + j, none⟩ := by unfold Addr.add; split <;> simp_all
  have e2 : (⟨gb, a, none⟩ : Addr).add j = ⟨gb, a + j, none⟩ := by unfold Addr.add; split <;> simp_all
  rw [e2, ← e1]
  exact h1
set_option maxHeartbeats 1000000 in
theorem rnumber_ok (g a n most : Nat) (bs out : List Nat) (V So : Value) (w : World) (h : RS w g bs V a out So most) (hn : a + n ≤ 8 * bs.length) (hn32 : n ≤ 32) (hn0 : 0 < n) :
    Calls Tryz.prog 34 #[.pointer (some ⟨g, 0, none⟩), .int .i64 n] w (RTo w g bs V (a + n) out So most (.int .i64 (numAt false bs a n : Nat))) := by
  obtain ⟨gb, cap, hV, hc1, hc2⟩ := own_form h.bits (by omega)
  subst hV
  have c0 := h.blk.cell 0
  have c1 := h.blk.cell 1
  have c2 := h.blk.cell 2
  simp at c0 c1 c2
  have H := keepf h
  have hlen := h.len
  have hM : (((allBits false bs).drop a).take n).length = n := by rw [List.length_take, List.length_drop, allBits_length]; omega
  have HOF := keepf (fun (W : World) (hW : Src W 1 (some ⟨gb, 0, none⟩) (8 * bs.length) cap (tcells (allBits false bs))) => show Calls Tryz.prog 53 #[.slice (some ⟨gb, a, none⟩) n (cap - a), .bool false] W fun e w' => e = .returned (.int .u32 (numAt false bs a n : Nat)) ∧ W = w' by
    have h1 := refof_any false (((allBits false bs).drop a).take n) (some ⟨gb, a, none⟩) (cap - a) W (by rw [hM]; exact hn32) (by rw [hM]; exact sub_bits hW (allBits_length _ _) hn)
    rw [hM, ofPart_all false bs a n hn] at h1
    exact h1)
  obtain ⟨N, hN⟩ : ∃ N, N = 8 * bs.length := ⟨_, rfl⟩
  have HNN := keepf hN
  rw [← hN] at hn hc1 HOF c0
  obtain ⟨x, hx⟩ : ∃ x, numAt false bs a n = x := ⟨_, rfl⟩
  have hx32 : x < 4294967296 := by
    rw [← hx]
    exact Nat.lt_of_lt_of_le (obf_lt _ n) (Nat.pow_le_pow_right (by decide) hn32)
  rw [hx] at HOF ⊢
  have hN2 : N ≤ 800000 := by omega
  have d1 : decide ((N : Int) - a < n) = false := by simp; omega
  have w1 : IntKind.i64.wrap ((N : Int) - a) = (N : Int) - a := by rw [IntKind.wrap_i64]; omega
  have w2 : IntKind.i64.wrap ((a : Int) + n) = (a : Int) + n := by rw [IntKind.wrap_i64]; omega
  clear h hM hN hx hlen
  go_enter Tryz.func34, Tryz.ntmps34
  go_upto_region 3 with fail
  go_quiet (fail)
  clear d1
  obtain ⟨W, hW⟩ : ∃ W, W = w.drewN nq := ⟨_, rfl⟩
  have HW := keepf (show RS W g bs (.slice (some ⟨gb, 0, none⟩) (8 * bs.length) cap) a out So most by rw [hW]; exact H.out.drewN nq)
  have HRM := keepf (show RM g w So W So by rw [hW]; exact (RM.refl g w So).drewN nq)
  rw [← hW]
  clear hW c0 c1 c2
  have c0 := HW.out.blk.cell 0
  have c1 := HW.out.blk.cell 1
  have c2 := HW.out.blk.cell 2
  have f1 := HW.out.blk.frozen 1
  simp at c0 c1 c2
  rw [← HNN.out] at c0
  have HBS := keepf (show Src W 1 (some ⟨gb, 0, none⟩) N cap (tcells (allBits false bs)) by rw [HNN.out]; exact src_own HW.out.bits)
  have i1 : (0 : Int) ≤ (a : Int) + n := by omega
  have i2 : ((a : Int) + n).toNat = a + n := by omega
  have i3 : (a : Int) ≤ (a : Int) + n := by omega
  have i4 : (a : Int) + n ≤ cap := by omega
  have i5 : a ≤ a + n := by omega
  have i6 : a + n ≤ cap := by omega
  have i7 : ¬ a = cap := by omega
  have i8 : ¬ ((a : Int) = cap) := by omega
  have i9 : a + n - a = n := by omega
  go_upto_region 6 with fail
  go_quiet ((go_at_call 53; exact quiet_left (HOF.out _ HBS.out)))
  go_wp2_with fail
  go_ret
  have hd := HW.out.drewN nq
  obtain ⟨h1, h2⟩ := hd.at_ (b := a + n) (by rw [← HNN.out]; omega)
  refine ⟨rfl, ?_, ?_⟩
  · exact h1
  · exact (HRM.out.drewN nq).trans h2
def RTo2 (w : World) (g : Nat) (bs : List Nat) (V : Value) (a : Nat) (out : List Nat) (So : Value) (most : Nat) (v : Value) (e : Ending) (w' : World) : Prop :=
  ∃ So', e = .returned v ∧ RS w' g bs V a out So' most ∧ RM g w So w' So'
theorem rput_done {w w2 : World} {g a most x : Nat} {bs out : List Nat} {V So S2 : Value} {o : Obj} (h : RS w g bs V a out So most) (hlt : out.length < most)
    (ho : w2.ownsRow 0 5 1 S2 (out.length + 1) (ucells out ++ [.int .u8 (x : Nat)])) (hg : (w.alloc o).grownBy w2 So.ownBlock) (hat : S2.ownBlock = So.ownBlock ∨ S2.ownBlock = some (w.alloc o).heap.size) :
    RS (w2.setCell ⟨g, 3, none⟩ S2) g bs V a (out ++ [x]) S2 most ∧ RM g w So (w2.setCell ⟨g, 3, none⟩ S2) S2 := by
  have hsz : (w.alloc o).heap.size = w.heap.size + 1 := by simp
  have hlg := h.blk.lt
  have hne : some g ≠ So.ownBlock := fun e => own_ne_blk h.own h.blk (by decide) e.symm
  have hb2 : Blk w2 g 61 _ := (h.blk.alloc o).grown hg hne
  have hc1 : Chg (fun i => So.ownBlock = some i) w w2 := ((Chg.refl _ w).alloc o).grown hg (fun k e _ => e)
  have hc2 : Chg (fun i => i = g ∨ So.ownBlock = some i) w (w2.setCell ⟨g, 3, none⟩ S2) := (hc1.mono (fun _ _ e => .inr e)).setCell (p := ⟨g, 3, none⟩) (fun _ => .inl rfl) _
  have hne2 := own_ne_blk ho hb2 (by decide)
  refine ⟨⟨?_, own_chg h.bits hc2 ?_, ?_, h.le, h.len, h.mst, by simp; omega⟩, hc2, fun i hi e => ?_⟩
  · have h3 := hb2.set_ 3 S2
    simpa using h3
  · rintro i hi (e | e)
    · exact own_ne_blk h.bits h.blk (by decide) (by rw [hi, e])
    · exact own_apart h.bits h.own (by decide) hi e
  · have h3 := own_chg (S := fun i => i = g) ho ((Chg.refl (fun i => i = g) _).setCell (p := ⟨g, 3, none⟩) (fun _ => rfl) S2) (fun i hi e => hne2 (by rw [hi, e]))
    simpa [ucells] using h3
  · rcases hat with h3 | h3
    · rw [← h3]; exact e
    · rw [h3] at e; injection e with e; omega
theorem src_byte (w : World) (x : Nat) : Src (w.alloc (.cells #[.int .u8 (x : Nat)] 5)) 1 (some ⟨w.heap.size, 0, none⟩) 1 1 [.int .u8 (x : Nat)] :=
  ⟨rfl, fun h => (by cases h), fun ad had j u hu => by
    cases had
    match j, hu with
    | 0, hu => simp at hu; subst hu; simp [Addr.add]
    | j + 1, hu => simp at hu⟩
theorem info_ubyte : (Tryz.prog.info? 5).map (fun i => (i.zero, i.size, i.bytes)) = some (some (.int .u8 0), 1, 1) := by kernel_rfl
set_option maxHeartbeats 1000000 in
set_option maxRecDepth 100000 in
theorem rput_ok (g a x most : Nat) (bs out : List Nat) (V So : Value) (w : World) (h : RS w g bs V a out So most) (hx : x < 256) (hlt : out.length < most) :
    Calls Tryz.prog 54 #[.pointer (some ⟨g, 0, none⟩), .int .i64 x] w (RTo2 w g bs V a (out ++ [x]) So most (.tuple #[])) := by
  obtain ⟨A, cap, rfl, hA⟩ := own_slice h.own
  have c2 := h.blk.cell 2
  have c3 := h.blk.cell 3
  have c4 := h.blk.cell 4
  simp at c2 c3 c4
  have H := keepf h
  have HLT := keepf hlt
  have hmst := h.mst
  have HNE := keepf (show some g ≠ (Value.slice A out.length cap).ownBlock from fun e => own_ne_blk h.own h.blk (by decide) e.symm)
  have d1 : decide ((most : Int) ≤ out.length) = false := by simp; omega
  have d2 : decide (most ≤ out.length) = false := by simp; omega
  obtain ⟨i0, hi, hz0, hz1, hz2⟩ := info_parts info_ubyte
  clear h hA hlt
  go_enter Tryz.func54, Tryz.ntmps54
  go_upto_region 1 with fail
  go_quiet (fail)
  go_wp2_with (first
    | (at_builtin; refine wpList_append_src rfl (.tmp 25) (.tmp 28) 22 rfl 5 i0 (.int .u8 0) 1 1 Tryz.underlying22 hi hz0 hz1 hz2 rfl (by decide) (.slice A out.length cap) out.length (ucells out) rfl (own_chg (S := NoS) (own_drewN H.out.own nq) ((Chg.refl _ _).alloc _) (fun _ _ h => h)) _ _ _ [.int .u8 (x : Nat)] rfl (src_byte _ _) (by intro u hu; simp only [List.mem_singleton] at hu; subst hu; rfl) (by unfold maxLen; have := HLT.out; omega) (by have := HLT.out; omega) ?_
       intro S2 w2 hown2 hgr hat
       obtain ⟨A2, c5, rfl, hA2⟩ := own_slice hown2
       have hb2 := ((H.out.blk.drewN nq).alloc _).grown hgr HNE.out
       have q3 := hb2.frozen 3
       have e3 := hb2.cell 3
       have HG := keepf hgr
       have HO2 := keepf hown2
       have HA2 := keepf hat
       clear hgr hown2 hat hA2 hb2))
  go_end0
  obtain ⟨h1, h2⟩ := rput_done (H.out.drewN nq) HLT.out HO2.out HG.out HA2.out
  exact ⟨_, rfl, h1, ((RM.refl g w _).drewN nq).trans h2⟩
def LRow (w : World) (A : Option Addr) (c : Nat) (ls : List Int) : Prop := Src w 1 A ls.length c (icells ls)
def KRow (w : World) (A : Option Addr) (c : Nat) (ls : List Int) : Prop := Src w 1 A ls.length c (crow ls.length (cd ls))
theorem may_in64 {ls : List Int} (h : May ls) : in64 ls := fun z hz => by
  have := h.2.2.1 z hz
  omega
set_option maxHeartbeats 1000000 in
set_option maxRecDepth 100000 in
theorem rcodesR_ok (g a most : Nat) (bs out : List Nat) (V So : Value) (w : World) (ls : List Int) (A : Option Addr) (c : Nat) (h : RS w g bs V a out So most) (hM : May ls) (hS : LRow w A c ls) :
    Calls Tryz.prog 55 #[.pointer (some ⟨g, 0, none⟩), .slice A ls.length c] w fun e w' => ∃ B d, e = .returned (.slice B ls.length d) ∧ w'.ownsRow 0 42 1 (.slice B ls.length d) ls.length (crow ls.length (cd ls)) ∧ RS w' g bs V a out So most ∧ RM g w So w' So := by
  have c2 := h.blk.cell 2
  simp at c2
  have HK := keepf (rcodes_ok ls A c w hM (may_in64 hM) hS)
  have H := keepf h
  have hlen := hM.2.1
  have HCR := keepf (show ccells (codesOf ls) = crow ls.length (cd ls) from rfl)
  obtain ⟨n, hn⟩ : ∃ n, n = ls.length := ⟨_, rfl⟩
  unfold CodesTo at HK
  rw [← hn] at HK HCR ⊢
  clear h hM hS hn hlen
  go_enter Tryz.func55, Tryz.ntmps55
  go_wp2_with (first
    | (go_at_call 82; refine HK.out.mono ?_; rintro e w1 ⟨B, d, rfl, ho, hc, _⟩; have HO := keepf ho; have HR1 := keepf (H.out.no hc); have HM1 := keepf (RM.new (g := g) So hc); clear ho hc)
    | (go_at_call 39; refine (rfail_ok g a most bs out V So _ HR1.out).mono ?_; rintro e w2 ⟨rfl, hr2, hm2⟩; have HO2 := keepf (HR1.out.keep hm2 HO.out (by decide) (by decide)); have HR2 := keepf hr2; have HM2 := keepf (HM1.out.trans hm2); clear hr2 hm2))
  go_ret
  exact ⟨B, d, rfl, by rw [← HCR.out]; exact HO2.out, HR2.out, HM2.out⟩
end Go.Proofs.YtmmilchmnimjoaaGreat
/- The document's own unpacking: a symbol; a block of kind 0. -/
namespace Go.Proofs.YtmmilchmnimjoaaGreat
open Go.RowKit
set_option linter.unusedVariables false
set_option linter.unusedSimpArgs false
theorem out_le {ls : List Int} {bs : List Nat} {a s m : Nat} (h : Out ls (leftBits false bs a) s m 0) : 1 ≤ m ∧ a + m ≤ 8 * bs.length ∧ s < ls.length := by
  generalize hk : (0 : Int) = k at h
  cases h with
  | ok n s h h0 =>
    obtain ⟨h1, h2, h3, _⟩ := h
    rw [leftBits_len] at h2
    exact ⟨by omega, by omega, (List.getElem?_eq_some_iff.1 h3).1⟩
  | cut h h0 => cases hk
  | code h h0 => cases hk
set_option maxHeartbeats 1000000 in
set_option maxRecDepth 100000 in
theorem rsymbol_ok (g a most s m : Nat) (bs out : List Nat) (V So : Value) (w : World) (ls : List Int) (A A2 : Option Addr) (c c2 : Nat) (h : RS w g bs V a out So most) (hM : May ls) (hS : LRow w A c ls) (hK : KRow w A2 c2 ls) (hO : Out ls (leftBits false bs a) s m 0) :
    Calls Tryz.prog 56 #[.pointer (some ⟨g, 0, none⟩), .slice A ls.length c, .slice A2 ls.length c2] w (RTo w g bs V (a + m) out So most (.int .i64 s)) := by
  obtain ⟨hm1, ham, hsl⟩ := out_le hO
  obtain ⟨gb, cap, hV, hc1, hc2⟩ := own_form h.bits (by omega)
  subst hV
  have e0 := h.blk.cell 0
  have e1 := h.blk.cell 1
  have e2 := h.blk.cell 2
  simp at e0 e1 e2
  have H := keepf h
  have hlen := h.len
  obtain ⟨N, hN⟩ : ∃ N, N = 8 * bs.length := ⟨_, rfl⟩
  have HNN := keepf hN
  have HTK := keepf (fun (n : Nat) => show Calls Tryz.prog 83 #[.slice A ls.length c, .slice A2 ls.length c2, .slice (some ⟨gb, a, none⟩) (N - a) (cap - a)] (w.drewN n) fun e w' => e = .returned (.tuple #[.int .i64 s, .int .i64 m, .int .i64 0]) ∧ w.drewN n = w' by
    have hB : (leftBits false bs a).length = N - a := by rw [leftBits_len, hN]
    have hsub := sub_bits (a := a) (n := N - a) (src_own h.bits) (allBits_length _ _) (by omega)
    have htk : ((allBits false bs).drop a).take (N - a) = leftBits false bs a := by
      rw [List.take_of_length_le (by rw [List.length_drop, allBits_length]; omega)]
      rfl
    rw [htk] at hsub
    have h1 := take_any ls A A2 (some ⟨gb, a, none⟩) c c2 (cap - a) (leftBits false bs a) (w.drewN n) hM (by rw [hB]; omega) (Src.below (w0 := w) hS ((Chg.refl _ _).drewN n)) (Src.below (w0 := w) hK ((Chg.refl _ _).drewN n)) (by rw [hB]; exact Src.below (w0 := w) hsub ((Chg.refl _ _).drewN n))
    rw [hB] at h1
    refine h1.mono fun e w' ⟨⟨s', n', k, he, ho⟩, hw⟩ => ⟨?_, hw⟩
    obtain ⟨r1, r2, r3⟩ := hO.one ho
    rw [he, ← r1, ← r2, ← r3])
  obtain ⟨L, hL⟩ : ∃ L, L = ls.length := ⟨_, rfl⟩
  rw [← hN] at e0 hc1 ham
  rw [← hL] at HTK ⊢
  have hN2 : N ≤ 800000 := by omega
  have haN : a ≤ N := by omega
  have i7 : ¬ a = cap := by omega
  have i8 : ¬ ((a : Int) = cap) := by omega
  clear h hM hS hK hO hN hL hlen hsl
  go_enter Tryz.func56, Tryz.ntmps56
  go_upto_region 3 with fail
  go_quiet ((go_at_call 83; exact quiet_left (HTK.out _)))
  obtain ⟨W, hW⟩ : ∃ W, W = w.drewN nq := ⟨_, rfl⟩
  have HW := keepf (show RS W g bs (.slice (some ⟨gb, 0, none⟩) (8 * bs.length) cap) a out So most by rw [hW]; exact H.out.drewN nq)
  have HRM := keepf (show RM g w So W So by rw [hW]; exact (RM.refl g w So).drewN nq)
  rw [← hW]
  clear hW e0 e1 e2 i7 i8
  have e1 := HW.out.blk.cell 1
  have f1 := HW.out.blk.frozen 1
  simp at e1
  have hat := HW.out.at_ (b := a + m) (by rw [← HNN.out]; exact ham)
  have HA := keepf hat
  clear hat
  go_wp2_with (go_at_call 39; refine (rfail_ok g (a + m) most bs out _ So _ HA.out.1).mono ?_; rintro e w2 ⟨rfl, hr2, hm2⟩; have HR2 := keepf hr2; have HM2 := keepf ((HRM.out.trans HA.out.2).trans hm2); clear hr2 hm2)
  go_ret
  exact ⟨rfl, HR2.out, HM2.out⟩
end Go.Proofs.YtmmilchmnimjoaaGreat
/- The document's own unpacking: what a good end tells of a step; a block of kind 0. -/
namespace Go.Proofs.YtmmilchmnimjoaaGreat
open Go.RowKit
set_option linter.unusedVariables false
set_option linter.unusedSimpArgs false
theorem xor_comp (x : Nat) (hx : x < 65536) : x ^^^ 65535 = 65535 - x := by
  apply Nat.eq_of_testBit_eq
  intro i
  have h1 := Nat.testBit_two_pow_sub_succ (x := x) (n := 16) (by omega) i
  have h2 := Nat.testBit_two_pow_sub_one 16 i
  rw [show 65535 - x = 2 ^ 16 - (x + 1) from by omega, h1, Nat.testBit_xor, show (65535 : Nat) = 2 ^ 16 - 1 from rfl, h2]
  by_cases hi : i < 16
  · simp [hi]
  · have : x.testBit i = false := Nat.testBit_lt_two_pow (Nat.lt_of_lt_of_le hx (by rw [show (65536 : Nat) = 2 ^ 16 from rfl]; exact Nat.pow_le_pow_right (by decide) (by omega)))
    simp [hi, this]
section
variable {bs : List Nat} {most a last b : Nat} {out r : List Nat}
theorem runs_stored (h : Runs bs most ⟨a, out, .stored last⟩ (.ok r b)) :
    (a + 7) / 8 * 8 + 32 ≤ 8 * bs.length ∧ numAt false bs ((a + 7) / 8 * 8 + 16) 16 = numAt false bs ((a + 7) / 8 * 8) 16 ^^^ 65535 ∧ Runs bs most ⟨(a + 7) / 8 * 8 + 32, out, .plain (numAt false bs ((a + 7) / 8 * 8) 16) last⟩ (.ok r b) := by
  cases h with
  | stop h =>
    cases h with
    | stored e =>
      unfold stStored at e
      repeat' split at e
      all_goals cases e
  | go h k =>
    cases h with
    | stored e =>
      unfold stStored at e
      repeat' split at e
      · cases e
      · cases e
      · rename_i h1 h2
        injection e with e
        subst e
        exact ⟨by omega, by simpa using h2, k⟩
theorem runs_plain {k : Nat} (h : Runs bs most ⟨a, out, .plain (k + 1) last⟩ (.ok r b)) :
    a + 8 ≤ 8 * bs.length ∧ out.length < most ∧ Runs bs most ⟨a + 8, out ++ [numAt false bs a 8], .plain k last⟩ (.ok r b) := by
  cases h with
  | stop h =>
    cases h with
    | plain e =>
      unfold stPlain at e
      rw [if_neg (by omega)] at e
      repeat' split at e
      all_goals cases e
  | go h k =>
    cases h with
    | plain e =>
      unfold stPlain at e
      rw [if_neg (by omega)] at e
      repeat' split at e
      · cases e
      · cases e
      · rename_i h1 h2
        injection e with e
        subst e
        exact ⟨by omega, by omega, k⟩
theorem runs_end (h : Runs bs most ⟨a, out, .plain 0 last⟩ (.ok r b)) : (last = 0 ∧ Runs bs most ⟨a, out, .head⟩ (.ok r b)) ∨ (last ≠ 0 ∧ r = out ∧ b = a) := by
  cases h with
  | stop h =>
    cases h with
    | plain e =>
      unfold stPlain at e
      rw [if_pos rfl] at e
      split at e
      · cases e
      · injection e with e
        injection e with e1 e2
        exact .inr ⟨by assumption, e1.symm, e2.symm⟩
  | go h k =>
    cases h with
    | plain e =>
      unfold stPlain at e
      rw [if_pos rfl] at e
      split at e
      · injection e with e
        subst e
        exact .inl ⟨by assumption, k⟩
      · cases e
theorem runs_head (h : Runs bs most ⟨a, out, .head⟩ (.ok r b)) : a + 3 ≤ 8 * bs.length ∧
    ((numAt false bs (a + 1) 2 = 0 ∧ Runs bs most ⟨a + 3, out, .stored (numAt false bs a 1)⟩ (.ok r b)) ∨ (numAt false bs (a + 1) 2 = 1 ∧ Runs bs most ⟨a + 3, out, .coded fixS fixD (numAt false bs a 1)⟩ (.ok r b)) ∨
     (numAt false bs (a + 1) 2 = 2 ∧ Runs bs most ⟨a + 3, out, .own (numAt false bs a 1)⟩ (.ok r b))) := by
  cases h with
  | stop h =>
    cases h with
    | head e =>
      unfold stHead at e
      repeat' split at e
      all_goals cases e
  | go h k =>
    cases h with
    | head e =>
      unfold stHead at e
      repeat' split at e
      · cases e
      · injection e with e; subst e; exact ⟨by omega, .inl ⟨by assumption, k⟩⟩
      · injection e with e; subst e; exact ⟨by omega, .inr (.inl ⟨by assumption, k⟩)⟩
      · injection e with e; subst e; exact ⟨by omega, .inr (.inr ⟨by assumption, k⟩)⟩
      · cases e
end
def BlkTo (w : World) (g : Nat) (bs : List Nat) (V So : Value) (most last : Nat) (r : List Nat) (b a0 : Nat) (e : Ending) (w' : World) : Prop :=
  ∃ (a : Nat) (out : List Nat) (So' : Value), e = .returned (.tuple #[]) ∧ RS w' g bs V a out So' most ∧ RM g w So w' So' ∧ Runs bs most ⟨a, out, .plain 0 last⟩ (.ok r b) ∧ a0 ≤ a
set_option maxHeartbeats 1000000 in
set_option maxRecDepth 100000 in
theorem rstored_ok (g a most last b : Nat) (bs out r : List Nat) (V So : Value) (w : World) (h : RS w g bs V a out So most) (hr : Runs bs most ⟨a, out, .stored last⟩ (.ok r b)) :
    Calls Tryz.prog 35 #[.pointer (some ⟨g, 0, none⟩)] w (BlkTo w g bs V So most last r b a) := by
  obtain ⟨h1, h2, h3⟩ := runs_stored hr
  have hx := obf_lt (fun p => bitAt false bs ((a + 7) / 8 * 8 + (bif false then 16 - 1 - p else p))) 16
  have hx2 : numAt false bs ((a + 7) / 8 * 8) 16 < 65536 := hx
  rw [xor_comp _ hx2] at h2
  obtain ⟨A, hA⟩ : ∃ A, A = (a + 7) / 8 * 8 := ⟨_, rfl⟩
  have haA : a ≤ A := by omega
  have hlen := h.len
  have hle := h.le
  have hq : ((a : Int) + 7) / 8 * 8 = A := by omega
  rw [← hA] at h1 h2 h3 hx2
  obtain ⟨n, hn⟩ : ∃ n, n = numAt false bs A 16 := ⟨_, rfl⟩
  rw [← hn] at h2 h3 hx2
  have c1 := h.blk.cell 1
  have f1 := h.blk.frozen 1
  simp at c1
  have H := keepf h
  have HN := keepf hn
  have H2 := keepf h2
  have H3 := keepf h3
  have HA1 := keepf (h.at_ (b := A) (by omega))
  obtain ⟨z, hz⟩ : ∃ z, z = 65535 - n := ⟨_, rfl⟩
  have hzn : (65535 : Int) - n = z := by omega
  rw [← hz] at H2
  have hn16 : n < 65536 := hx2
  clear h hr h2 h3 hn hA hx hz hx2
  go_enter Tryz.func35, Tryz.ntmps35
  go_upto_region 1 with fail
  have HX1 := keepf (show Calls Tryz.prog 34 #[.pointer (some ⟨g, 0, none⟩), .int .i64 16] (w.setCell ⟨g, 1, none⟩ (.int .i64 A)) (RTo (w.setCell ⟨g, 1, none⟩ (.int .i64 A)) g bs V (A + 16) out So most (.int .i64 n)) by
    have h := rnumber_ok g A 16 most bs out V So _ HA1.out.1 (by omega) (by decide) (by decide)
    rw [← HN.out] at h
    exact h)
  have HX2 := keepf (fun (W : World) (h : RS W g bs V (A + 16) out So most) => show Calls Tryz.prog 34 #[.pointer (some ⟨g, 0, none⟩), .int .i64 16] W (RTo W g bs V (A + 32) out So most (.int .i64 z)) by
    have h := rnumber_ok g (A + 16) 16 most bs out V So _ h (by omega) (by decide) (by decide)
    rw [H2.out] at h
    exact h)
  clear c1 f1 hq
  go_upto_region 2 with (go_at_call 34; refine HX1.out.mono ?_; rintro e w2 ⟨rfl, hr2, hm2⟩; have HR2 := keepf hr2; have HM2 := keepf (HA1.out.2.trans hm2); clear hr2 hm2)
  go_upto_region 3 with (go_at_call 34; refine (HX2.out _ HR2.out).mono ?_; rintro e w3 ⟨rfl, hr3, hm3⟩; have HR3 := keepf hr3; have HM3 := keepf (HM2.out.trans hm3); have c2 := hr3.blk.cell 2; clear hr3 hm3)
  simp at c2
  go_wp2_with fail
  clear c2
  go_loopw [4] (fun vk wr => ∃ (k a1 : Nat) (out1 : List Nat) (So1 : Value), k ≤ n ∧ vk = .int .i64 k ∧ Hid (RS wr g bs V a1 out1 So1 most) ∧ Hid (RM g w So wr So1) ∧ Hid (Runs bs most ⟨a1, out1, .plain (n - k) last⟩ (.ok r b)) ∧ Hid (a ≤ a1)) (fun vk _ => n - (intOf vk).toNat)
  case atStart => exact ⟨0, A + 32, out, So, Nat.zero_le _, rfl, HR3.out, HM3.out, H3.out, keepf (by omega)⟩
  case round =>
    obtain ⟨k, a1, out1, So1, hk, rfl, HRW, HMW, HRN, HAA⟩ := hrel
    have c2 := HRW.out.blk.cell 2
    simp at c2
    by_cases hlt : k < n
    · have hrn := HRN.out
      rw [show n - k = (n - (k + 1)) + 1 from by omega] at hrn
      obtain ⟨q1, q2, q3⟩ := runs_plain hrn
      obtain ⟨x, hx⟩ : ∃ x, x = numAt false bs a1 8 := ⟨_, rfl⟩
      have hx2 : x < 256 := by rw [hx]; exact obf_lt _ 8
      have HN1 := keepf (rnumber_ok g a1 8 most bs out1 V So1 wr HRW.out q1 (by decide) (by decide))
      rw [← hx] at HN1 q3
      have HP1 := keepf (fun (W : World) (h : RS W g bs V (a1 + 8) out1 So1 most) => rput_ok g (a1 + 8) x most bs out1 V So1 W h hx2 q2)
      have HQ := keepf q3
      clear hrn q1 q2 q3 hx
      go_wp2_with (first
        | (go_at_call 34; refine HN1.out.mono ?_; rintro e w4 ⟨rfl, hr4, hm4⟩; have HR4 := keepf hr4; have HM4 := keepf (HMW.out.trans hm4); clear hr4 hm4)
        | (go_at_call 54; refine (HP1.out _ HR4.out).mono ?_; rintro e w5 ⟨So5, rfl, hr5, hm5⟩; have HR5 := keepf hr5; have HM5 := keepf (HM4.out.trans hm5); clear hr5 hm5))
      go_roundw
      case rel => exact ⟨k + 1, a1 + 8, out1 ++ [x], So5, by omega, by go_num, HR5.out, HM5.out, HQ.out, keepf (by have := HAA.out; omega)⟩
      case measure => simp [intOf]; omega
    · have HE := keepf (show n - k = 0 by omega)
      go_wp2_with fail
      go_end0
      have hf := HRN.out
      rw [HE.out] at hf
      exact ⟨a1, out1, So1, rfl, HRW.out, HMW.out, hf, HAA.out⟩
end Go.Proofs.YtmmilchmnimjoaaGreat
