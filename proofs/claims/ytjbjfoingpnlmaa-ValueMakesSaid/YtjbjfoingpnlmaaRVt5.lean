/- The document's own Find and Get. -/
import Derived.Test.YtjbjfoingpnlmaaRVt4
import Derived.Test.YtjbjfoingpnlmaaRVt2
namespace Go.Proofs.Ytjbjfoingpnlmaa
open Go.RowKit
set_option linter.unusedVariables false
set_option linter.unusedSimpArgs false

def hitT (key : ByteArray) (t : VT) : Prop := t.kind = 5 ∧ t.str = key
open Classical in
/-- Which pair has the name, the first one. -/
noncomputable def findL (key : ByteArray) : List VT → Option Nat
  | [] => none
  | [t] => if hitT key t then some 0 else none
  | t :: _ :: l => if hitT key t then some 0 else (findL key l).map (· + 1)
theorem findL_nil (key : ByteArray) : findL key [] = none := by rw [findL]
theorem findL_hit {key : ByteArray} {t : VT} {l : List VT} (h : hitT key t) : findL key (t :: l) = some 0 := by
  cases l with
  | nil => rw [findL, if_pos h]
  | cons u l => rw [findL, if_pos h]
theorem findL_no {key : ByteArray} {t : VT} {l : List VT} (h : ¬ hitT key t) : findL key (t :: l) = (findL key (l.drop 1)).map (· + 1) := by
  cases l with
  | nil => rw [findL, if_neg h, List.drop_nil, findL_nil]; rfl
  | cons u l => rw [findL, if_neg h, List.drop_succ_cons, List.drop_zero]
theorem findL_lt (key : ByteArray) : ∀ (N : Nat) (l : List VT), l.length ≤ N → ∀ j, findL key l = some j → 2 * j < l.length := by
  intro N
  induction N using Nat.strongRecOn with
  | _ N ih =>
    intro l hl j h
    cases l with
    | nil => rw [findL_nil] at h; cases h
    | cons t l =>
      by_cases ht : hitT key t
      · rw [findL_hit ht] at h; cases h; simp
      · rw [findL_no ht] at h
        cases hf : findL key (l.drop 1) with
        | none => rw [hf] at h; cases h
        | some i =>
          rw [hf] at h
          simp only [Option.map_some, Option.some.injEq] at h
          subst h
          rw [List.length_cons] at hl
          have h2 := ih (N - 1) (by omega) (l.drop 1) (by rw [List.length_drop]; omega) i hf
          rw [List.length_drop] at h2
          rw [List.length_cons]
          omega
theorem sizT_pos (t : VT) : 1 ≤ sizT t := by
  obtain ⟨k, n, s, l⟩ := t
  rw [sizT_mk]
  omega
theorem sizL_len : ∀ (l : List VT), l.length ≤ sizL l := by
  intro l
  induction l with
  | nil => exact Nat.zero_le _
  | cons t l ih =>
    rw [sizL_cons, List.length_cons]
    have := sizT_pos t
    omega
/-- Where a name stands, below 0: nowhere. -/
noncomputable def findI (k : Int) (l : List VT) (key : ByteArray) : Int := if k = 7 then (match findL key l with | some j => ((2 * j : Nat) : Int) | none => -1) else -1

set_option maxHeartbeats 4000000 in
set_option maxRecDepth 100000 in
theorem rfind_any (c : VC) (l : List VT) (key : ByteArray) (w : World) (hv : ValIs w (.mk c.k c.n c.s l) c) (hsz : sizL l ≤ 1000000000) :
    Calls Try.prog 42 #[c.val, .string key] w fun e w' => e = .returned (.int .i64 (findI c.k l key)) ∧ Chg NoS w w' := by
  obtain ⟨_, _, _, hg, hl, hr⟩ := hv.inv
  obtain ⟨k, n, s, A, len, cap⟩ := c
  simp only [] at hl hr
  have hcap := hg.cap
  have hlm := hg.len
  simp only [] at hcap hlm
  unfold maxLen at hlm
  unfold VC.val
  simp only []
  have HB := keepf (Blk.new w 24 #[.int .i64 k, .int .i64 n, .string s, .slice A len cap])
  have HC0 := keepf ((Chg.refl NoS w).alloc (.cells #[.int .i64 k, .int .i64 n, .string s, .slice A len cap] 24))
  obtain ⟨W0, hW⟩ : ∃ W0, W0 = w.alloc (.cells #[.int .i64 k, .int .i64 n, .string s, .slice A len cap] 24) := ⟨_, rfl⟩
  obtain ⟨g, hgg⟩ : ∃ g, g = w.heap.size := ⟨_, rfl⟩
  rw [← hW] at HB HC0
  rw [← hgg] at HB
  have p0 := HB.out.cell 0
  have p3 := HB.out.cell 3
  simp at p0 p3
  have hl9 : len ≤ 1000000000 := by have := sizL_len l; omega
  have HL := keepf hl
  have HR := keepf hr
  clear hv hg hl hr hsz hlm
  by_cases h7 : k = 7
  · subst h7
    have HF := keepf (show findI 7 l key = (match findL key l with | some j => ((2 * j : Nat) : Int) | none => -1) from if_pos rfl)
    go_enter Try.func42, Try.ntmps42
    go_upto_region 1 with fail
    rw [← hgg, ← hW]
    clear hgg hW
    go_upto_region 2 with fail
    go_loop [5] (fun vk => ∃ j : Nat, 2 * j ≤ len + 1 ∧ vk = .int .i64 ((2 * j : Nat) : Int) ∧ Hid (findL key l = (findL key (l.drop (2 * j))).map (· + j))) (fun vk => len + 1 - (intOf vk).toNat)
    case atStart => exact ⟨0, by omega, by go_num, by show _ = _; rw [Nat.mul_zero, List.drop_zero]; simp⟩
    case round =>
      obtain ⟨j, hj, rfl, HN⟩ := hrel
      obtain ⟨q, hq⟩ : ∃ q, q = 2 * j := ⟨_, rfl⟩
      rw [← hq] at hj HN ⊢
      have HQ := keepf hq
      clear hq
      by_cases h1 : q < len
      · obtain ⟨t, ht, hd⟩ := drop_vt (l := l) (k := q) (by rw [HL.out]; exact h1)
        obtain ⟨b, off, rfl⟩ : ∃ b off, A = some ⟨b, off, none⟩ := by
          have h := HR.out
          cases hll : l with
          | nil => rw [hll] at ht; simp at ht
          | cons t0 l0 => rw [hll] at h; exact h.start
        obtain ⟨eA, el, ec, c0, _, c2, _, _⟩ := HR.out.nth HC0.out ht
        have i1 : (q : Int) < len := by omega
        obtain ⟨tk, htk⟩ : ∃ tk, t.kind = tk := ⟨_, rfl⟩
        obtain ⟨ts, hts⟩ : ∃ ts, t.str = ts := ⟨_, rfl⟩
        rw [htk] at c0
        rw [hts] at c2
        have HDD := keepf hd
        by_cases hh : tk = 5 ∧ ts = key
        · obtain ⟨rfl, rfl⟩ := hh
          have HE : Hid (findI 7 l ts = (q : Int)) := by
            show _ = _
            rw [HF.out, HN.out, hd, findL_hit ⟨htk, hts⟩]
            show (((2 * (0 + j) : Nat) : Int)) = _
            rw [HQ.out, Nat.zero_add]
          clear ht htk hts hd HN
          go_wp2_with fail
          go_ret
          exact ⟨ret_v64 HE.out.symm, HC0.out⟩
        · have HNN : Hid (findL key l = (findL key (l.drop (q + 2))).map (· + (j + 1))) := by
            show _ = _
            rw [HN.out, hd, findL_no (fun h => hh ⟨by rw [← htk]; exact h.1, by rw [← hts]; exact h.2⟩), List.drop_drop, Option.map_map]
            congr 1
            funext x
            show x + 1 + j = x + (j + 1)
            omega
          by_cases h5 : tk = 5
          · subst h5
            have hsk : ¬ ts.toList = key.toList := str_ne11 (fun h => hh ⟨rfl, h⟩)
            have f1 : (ts.toList == key.toList) = false := by simpa using hsk
            clear ht htk hts hd HN hh
            go_wp2_with fail
            go_round
            case rel => exact ⟨j + 1, by have := HQ.out; omega, by have := HQ.out; first | (go_num; done) | (go_num; omega), by have h := HNN.out; rw [HQ.out] at h; exact h⟩
            case measure => simp [intOf]; omega
          · have e5 : (tk == 5) = false := by simpa using h5
            clear ht htk hts hd HN hh h5
            go_wp2_with fail
            go_round
            case rel => exact ⟨j + 1, by have := HQ.out; omega, by have := HQ.out; first | (go_num; done) | (go_num; omega), by have h := HNN.out; rw [HQ.out] at h; exact h⟩
            case measure => simp [intOf]; omega
      · have HE : Hid (findI 7 l key = -1) := by
          show _ = _
          rw [HF.out, HN.out, List.drop_of_length_le (by rw [HL.out]; omega), findL_nil]
          rfl
        have d1 : decide ((q : Int) < len) = false := by simp; omega
        have d1' : decide (q < len) = false := by simp; omega
        go_wp2_with fail
        go_ret
        exact ⟨ret_v64 HE.out.symm, HC0.out⟩
  · have e7 : (k == 7) = false := by simpa using h7
    have HE := keepf (show findI k l key = -1 from if_neg h7)
    clear h7
    go_enter Try.func42, Try.ntmps42
    go_upto_region 1 with fail
    rw [← hgg, ← hW]
    clear hgg hW
    go_upto_region 2 with fail
    go_loop [5] (fun vk => vk = .int .i64 0) (fun _ => 0)
    case atStart => rfl
    case round =>
      obtain rfl := hrel
      go_wp2_with fail
      go_ret
      exact ⟨ret_v64 HE.out.symm, HC0.out⟩
end Go.Proofs.Ytjbjfoingpnlmaa
