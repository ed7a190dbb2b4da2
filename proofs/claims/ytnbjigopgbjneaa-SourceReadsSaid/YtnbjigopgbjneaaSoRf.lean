/- The document's First, Read and Marks of pieces. -/
import Derived.Test.YtnbjigopgbjneaaSoPc
import Derived.Test.YtnbjigopgbjneaaSpansR
namespace Go.Proofs.Ytnbjigopgbjneaa
open Go.RowKit
set_option linter.unusedVariables false
set_option linter.unusedSimpArgs false

/-- The pieces know F, with the bytes that c tells. -/
structure Knows (n : Nat) (xs : List PcS) (F : List Sp) (c : Nat → Nat) : Prop where
  form : Form F
  le : ∀ y ∈ F, y.2 ≤ (n : Int)
  yes : ∀ q : Nat, Num F q → byteO xs q = some (c q)
  no : ∀ q : Nat, ¬ Num F q → byteO xs q = none

theorem Knows.in_ {n : Nat} {xs : List PcS} {F : List Sp} {c : Nat → Nat} (h : Knows n xs F c) {q : Nat} (hq : Num F q) : q < n := by
  obtain ⟨y, hy, h1⟩ := hq
  have := h.le y hy
  omega

/-- From a place on: all known up to q. -/
theorem firstP_at {n : Nat} {F : List Sp} (hF : Form F) {a : Int} {q : Nat} (h0 : max a 0 ≤ (q : Int)) (hall : ∀ r : Nat, max a 0 ≤ (r : Int) → r < q → Num F r) (hq : ¬ Num F q) (hn : q ≤ n) : firstP n F a = (q : Int) := by
  have h := upto_spec hF (max a 0)
  unfold firstP
  obtain ⟨u, hu⟩ : ∃ u : Nat, uptoL F (max a 0) = (u : Int) := ⟨(uptoL F (max a 0)).toNat, by omega⟩
  rw [hu] at h ⊢
  have h1 : u ≤ q := by
    rcases Nat.lt_or_ge q u with h2 | h2
    · exact absurd (h.2.1 q (by omega) (by omega)) hq
    · exact h2
  have h3 : q ≤ u := by
    rcases Nat.lt_or_ge u q with h2 | h2
    · exact absurd (hall u (by omega) h2) h.2.2
    · exact h2
  omega

theorem firstP_end {n : Nat} {F : List Sp} (hF : Form F) {a : Int} (hall : ∀ r : Nat, max a 0 ≤ (r : Int) → r < n → Num F r) : firstP n F a = (n : Int) := by
  have h := upto_spec hF (max a 0)
  unfold firstP
  obtain ⟨u, hu⟩ : ∃ u : Nat, uptoL F (max a 0) = (u : Int) := ⟨(uptoL F (max a 0)).toNat, by omega⟩
  rw [hu] at h ⊢
  rcases Nat.lt_or_ge u n with h1 | h1
  · exact absurd (hall u (by omega) h1) h.2.2
  · omega

set_option maxHeartbeats 4000000 in
theorem rfirst_neg (B : Option Addr) (m c n : Nat) (xs : List PcS) (F : List Sp) (cc : Nat → Nat) (a : Int) (w : World) (h : PcRow w B m c xs) (hK : Knows n xs F cc) (hn : n ≤ 200) (ha : a < 0) :
    Calls Try.prog 15 #[.int .i64 (n : Nat), .slice B m c, .int .i64 a] w (OnlyTo w (.int .i64 (firstP n F a))) := by
  have HR := keepf h
  have HK := keepf hK
  obtain ⟨s, hs⟩ : ∃ s : Nat, s = 0 := ⟨_, rfl⟩
  clear h hK
  go_enter Try.func15, Try.ntmps15
  go_wp2_with fail
  go_loopw [2] (fun v2 wr => ∃ q : Nat, s ≤ q ∧ v2 = .int .i64 q ∧ Hid (∀ r : Nat, s ≤ r → r < q → Num F r) ∧ Hid (Chg NoS w wr)) (fun v2 _ => n - (intOf v2).toNat)
  case atStart => exact ⟨0, by omega, rfl, fun r h1 h2 => by omega, Chg.refl _ _⟩
  case round =>
    obtain ⟨q, hsq, rfl, HA, HC⟩ := hrel
    by_cases hlt : q < n
    · have HB := keepf (byte16 B m c xs q wr (HR.out.no HC.out) (by omega))
      by_cases hnum : Num F q
      · rw [HK.out.yes q hnum] at HB
        simp only [byV] at HB
        have HNm := keepf hnum
        clear hnum
        go_wp2_with (go_at_call 29; refine HB.out.mono ?_; rintro e w2 ⟨rfl, hc2⟩; have HC2 := keepf hc2; clear hc2)
        go_roundw
        case rel => exact ⟨q + 1, by omega, by go_num, fun r h1 h2 => by
          by_cases h3 : r = q
          · subst h3; exact HNm.out
          · exact HA.out r h1 (by omega), HC.out.then_ HC2.out⟩
        case measure => simp [intOf]; omega
      · rw [HK.out.no q hnum] at HB
        simp only [byV] at HB
        have HF := keepf (firstP_at (n := n) HK.out.form (a := a) (q := q) (by omega) (fun r h1 h2 => HA.out r (by omega) h2) hnum (by omega))
        clear hnum
        go_wp2_with (go_at_call 29; refine HB.out.mono ?_; rintro e w2 ⟨rfl, hc2⟩; have HC2 := keepf hc2; clear hc2)
        go_ret
        exact ⟨ret_i64 HF.out.symm, HC.out.then_ HC2.out⟩
    · have HF := keepf (firstP_end (n := n) HK.out.form (a := a) (fun r h1 h2 => HA.out r (by omega) (by omega)))
      go_wp2_with fail
      go_ret
      exact ⟨ret_i64 HF.out.symm, HC.out⟩

set_option maxHeartbeats 4000000 in
theorem rfirst_nat (B : Option Addr) (m c n : Nat) (xs : List PcS) (F : List Sp) (cc : Nat → Nat) (s : Nat) (w : World) (h : PcRow w B m c xs) (hK : Knows n xs F cc) (hn : n ≤ 200) (ha : s ≤ 9223372036854775807) :
    Calls Try.prog 15 #[.int .i64 (n : Nat), .slice B m c, .int .i64 (s : Nat)] w (OnlyTo w (.int .i64 (firstP n F (s : Nat)))) := by
  have HR := keepf h
  have HK := keepf hK
  clear h hK
  go_enter Try.func15, Try.ntmps15
  go_wp2_with fail
  go_loopw [2] (fun v2 wr => ∃ q : Nat, s ≤ q ∧ v2 = .int .i64 q ∧ Hid (∀ r : Nat, s ≤ r → r < q → Num F r) ∧ Hid (Chg NoS w wr)) (fun v2 _ => n - (intOf v2).toNat)
  case atStart => exact ⟨s, Nat.le_refl _, rfl, fun r h1 h2 => by omega, Chg.refl _ _⟩
  case round =>
    obtain ⟨q, hsq, rfl, HA, HC⟩ := hrel
    by_cases hlt : q < n
    · have HB := keepf (byte16 B m c xs q wr (HR.out.no HC.out) (by omega))
      by_cases hnum : Num F q
      · rw [HK.out.yes q hnum] at HB
        simp only [byV] at HB
        have HNm := keepf hnum
        clear hnum
        go_wp2_with (go_at_call 29; refine HB.out.mono ?_; rintro e w2 ⟨rfl, hc2⟩; have HC2 := keepf hc2; clear hc2)
        go_roundw
        case rel => exact ⟨q + 1, by omega, by go_num, fun r h1 h2 => by
          by_cases h3 : r = q
          · subst h3; exact HNm.out
          · exact HA.out r h1 (by omega), HC.out.then_ HC2.out⟩
        case measure => simp [intOf]; omega
      · rw [HK.out.no q hnum] at HB
        simp only [byV] at HB
        have HF := keepf (firstP_at (n := n) HK.out.form (a := ((s : Nat) : Int)) (q := q) (by omega) (fun r h1 h2 => HA.out r (by omega) h2) hnum (by omega))
        clear hnum
        go_wp2_with (go_at_call 29; refine HB.out.mono ?_; rintro e w2 ⟨rfl, hc2⟩; have HC2 := keepf hc2; clear hc2)
        go_ret
        exact ⟨ret_i64 HF.out.symm, HC.out.then_ HC2.out⟩
    · have HF := keepf (firstP_end (n := n) HK.out.form (a := ((s : Nat) : Int)) (fun r h1 h2 => HA.out r (by omega) (by omega)))
      go_wp2_with fail
      go_ret
      exact ⟨ret_i64 HF.out.symm, HC.out⟩

theorem rfirst16 (B : Option Addr) (m c n : Nat) (xs : List PcS) (F : List Sp) (cc : Nat → Nat) (a : Int) (w : World) (h : PcRow w B m c xs) (hK : Knows n xs F cc) (hn : n ≤ 200) (ha : a ≤ 9223372036854775807) :
    Calls Try.prog 15 #[.int .i64 (n : Nat), .slice B m c, .int .i64 a] w (OnlyTo w (.int .i64 (firstP n F a))) := by
  by_cases h0 : a < 0
  · exact rfirst_neg B m c n xs F cc a w h hK hn h0
  · obtain ⟨s, rfl⟩ : ∃ s : Nat, a = s := ⟨a.toNat, by omega⟩
    exact rfirst_nat B m c n xs F cc s w h hK hn (by omega)

theorem marks_made (n : Nat) : (madeCells (Value.bool false).cells (n * 1)).toList = (List.range n).map fun _ => Value.bool false := by
  rw [Nat.mul_one]
  refine (toList_madeCells_one _ _).trans ?_
  apply List.ext_getElem
  · simp
  · intro i h1 h2; simp

set_option maxHeartbeats 4000000 in
theorem rmarks16 (B : Option Addr) (m c n : Nat) (xs : List PcS) (w : World) (h : PcRow w B m c xs) (hn : n ≤ 200) :
    Calls Try.prog 19 #[.int .i64 (n : Nat), .slice B m c] w (MarksTo w n (fun q => (byteO xs q).isSome)) := by
  have HR := keepf h
  clear h
  obtain ⟨i0, hi, hz0, hz1, hz2⟩ := info_parts info_bool
  go_enter Try.func19, Try.ntmps19
  go_wp2_with (first
    | (at_make; go_loud (refine wpList_make_full _ rfl (.tmp 7) (.tmp 7) 46 rfl 0 4 i0 (.bool false) 1 Try.underlying46 hi hz0 hz1 .i64 .i64 _ _ n rfl rfl rfl rfl (by rw [hz2]; omega) (by unfold maxLen; omega) (Nat.zero_le _) ?_); intro w2 hown2 hgr; have HO2 := keepf hown2; have HG2 := keepf hgr; clear hown2 hgr))
  obtain ⟨g, hg⟩ : ∃ g, g = w.heap.size := ⟨_, rfl⟩
  have hm2 : Mk w2 (.slice (some ⟨g, 0, none⟩) n n) n (fun i => decide (i < 0) && (byteO xs i).isSome) := by
    have h1 := HO2.out
    rw [marks_made, ← hg] at h1
    refine Mk.congr (f := fun _ => false) h1 (fun i _ => by simp)
  rw [← hg]
  have HM2 := keepf hm2
  have HGE := keepf hg
  have HC2 := keepf (show Chg NoS w w2 from (Chg.refl NoS w).grown HG2.out (fun _ e _ => by cases e))
  clear hm2 hg HO2 HG2
  go_loopw [6] (fun v6 wr => ∃ k : Nat, k ≤ n ∧ v6 = .int .i64 k ∧ Hid (Mk wr (.slice (some ⟨g, 0, none⟩) n n) n (fun i => decide (i < k) && (byteO xs i).isSome)) ∧ Hid (Chg NoS w wr)) (fun v6 _ => n - (intOf v6).toNat)
  case atStart => exact ⟨0, Nat.zero_le _, rfl, HM2.out, HC2.out⟩
  case round =>
    obtain ⟨k, hk, rfl, HM, HC⟩ := hrel
    by_cases hlt : k < n
    · obtain ⟨bb, hbb⟩ : ∃ bb, bb = (byteO xs k).isSome := ⟨_, rfl⟩
      have HBy : Hid (Calls Try.prog 29 #[.slice B m c, .int .i64 (k : Nat)] wr (fun e w' => (∃ x : Int, e = .returned (.tuple #[.int .u8 x, .bool bb])) ∧ Chg NoS wr w')) :=
        (byte16 B m c xs k wr (HR.out.no HC.out) (by omega)).mono fun e w' h => by
          refine ⟨?_, h.2⟩
          rw [h.1, hbb]
          cases byteO xs k with
          | none => exact ⟨0, rfl⟩
          | some x => exact ⟨x, rfl⟩
      have HBb := keepf hbb
      clear hbb
      go_wp2_with (go_at_call 29; refine HBy.out.mono ?_; rintro e w3 ⟨⟨x, rfl⟩, hc3⟩; have c0 := (HM.out.no hc3).cell hlt; obtain ⟨cs, hcs⟩ := (HM.out.no hc3).blk (by omega); have f0 := hcs.frozen k; have HC3 := keepf hc3; clear hc3 hcs)
      go_roundw
      case rel =>
        refine ⟨k + 1, by omega, by go_num, ((HM.out.no HC3.out).set_ k bb).congr (fun i hi => ?_), (HC.out.then_ HC3.out).setCell (fun h => by have h' : g < w.heap.size := h; have := HGE.out; omega) _⟩
        by_cases e : i = k
        · subst e
          rw [if_pos rfl, HBb.out]
          simp
        · rw [if_neg e]
          have : decide (i < k + 1) = decide (i < k) := by simp; omega
          rw [this]
      case measure => simp [intOf]; omega
    · obtain rfl : k = n := by omega
      go_wp2_with fail
      go_ret
      exact ⟨g, k, rfl, HM.out.congr (fun i hi => by simp [hi]), HC.out, by rw [HGE.out]; exact Nat.le_refl _⟩

theorem readN_eq {n : Nat} {F : List Sp} (hF : Form F) {p most k : Nat} (hall : ∀ r : Nat, p ≤ r → r < p + k → Num F r) (hk : k ≤ most) (hn : p + k ≤ n) (hend : k = most ∨ p + k = n ∨ ¬ Num F ((p + k : Nat) : Int)) : readN n F p (most : Int) = k := by
  have h := upto_spec hF (p : Int)
  have e : max (p : Int) 0 = (p : Int) := by omega
  unfold readN firstP
  rw [e]
  obtain ⟨u, hu⟩ : ∃ u : Nat, uptoL F (p : Int) = (u : Int) := ⟨(uptoL F (p : Int)).toNat, by omega⟩
  rw [hu] at h ⊢
  have h1 : p + k ≤ u := by
    rcases Nat.lt_or_ge u (p + k) with h2 | h2
    · exact absurd (hall u (by omega) h2) h.2.2
    · exact h2
  rcases hend with h2 | h2 | h2
  · omega
  · omega
  · have h3 : u ≤ p + k := by
      rcases Nat.lt_or_ge (p + k) u with h4 | h4
      · exact absurd (h.2.1 _ (by omega) (by omega)) h2
      · exact h4
    omega

/-- The document's Read, at a place that may be. -/
def RRdTo (w : World) (c : Nat → Nat) (n p k : Nat) (e : Ending) (w' : World) : Prop :=
  e = .returned (.tuple #[.string (sb (rngB c p k)), .bool (decide (p + k = n))]) ∧ Chg NoS w w'

set_option maxHeartbeats 4000000 in
theorem rread_no (B : Option Addr) (m c n : Nat) (p most : Int) (w : World) (h : hasP n p = false ∨ most < 0) :
    Calls Try.prog 13 #[.int .i64 (n : Nat), .slice B m c, .int .i64 p, .int .i64 most] w (fun e w' => e = .returned (.tuple #[.string ⟨#[]⟩, .bool false]) ∧ w = w') := by
  have hor : decide (p < 0) = true ∨ (decide (p < 0) = false ∧ decide ((n : Int) < p) = true) ∨ (decide (p < 0) = false ∧ decide ((n : Int) < p) = false ∧ decide (most < 0) = true) := by
    by_cases h0 : p < 0
    · exact .inl (by simpa using h0)
    · by_cases h1 : (n : Int) < p
      · exact .inr (.inl ⟨by simpa using h0, by simpa using h1⟩)
      · refine .inr (.inr ⟨by simpa using h0, by simpa using h1, ?_⟩)
        rcases h with h | h
        · simp [hasP] at h; omega
        · simpa using h
  clear h
  rcases hor with h1 | ⟨h1, h2⟩ | ⟨h1, h2, h3⟩
  all_goals
    go_enter Try.func13, Try.ntmps13
    go_wp2_with fail
    go_ret2
    exact ⟨rfl, rfl⟩

set_option maxHeartbeats 4000000 in
theorem rread_ok (B : Option Addr) (m c n : Nat) (xs : List PcS) (F : List Sp) (cc : Nat → Nat) (p most : Nat) (w : World) (h : PcRow w B m c xs) (hK : Knows n xs F cc) (hn : n ≤ 200) (hp : p ≤ n) (hmost : most ≤ 9223372036854775807) :
    Calls Try.prog 13 #[.int .i64 (n : Nat), .slice B m c, .int .i64 (p : Nat), .int .i64 (most : Nat)] w (RRdTo w cc n p (readN n F p most)) := by
  have HR := keepf h
  have HK := keepf hK
  have d1 : decide ((p : Int) < 0) = false := by simp
  have d2 : decide ((n : Int) < (p : Int)) = false := by simp; omega
  have d3 : decide ((most : Int) < 0) = false := by simp
  have d4 : decide (n < p) = false := by simp; omega
  clear h hK
  go_enter Try.func13, Try.ntmps13
  go_wp2_with fail
  go_loopw [10] (fun v wr => ∃ (k : Nat) (A2 : Option Addr) (c2 : Nat), k ≤ most ∧ p + k ≤ n ∧ v = .slice A2 k c2 ∧ Hid (∀ r : Nat, p ≤ r → r < p + k → Num F r) ∧ Hid (GR 5 w wr (lcells (rngB cc p k)) k A2 c2)) (fun v _ => n - slLen v)
  case atStart => exact ⟨0, none, 0, by omega, by omega, rfl, fun r h1 h2 => by omega, GR.start w⟩
  case round =>
    obtain ⟨k, A2, c2, hkm, hkn, rfl, HA, HG⟩ := hrel
    have hcv := conv_l (src_own HG.out.own)
    by_cases hlt : k < most ∧ p + k < n
    · obtain ⟨hl1, hl2⟩ := hlt
      obtain ⟨T, hT⟩ : ∃ T, T = p + k := ⟨_, rfl⟩
      have hTT : (p : Int) + (k : Int) = (T : Int) := by omega
      have hTn : T < n := by omega
      have e1 : decide (k < most) = true := by simp; omega
      have e2 : decide (T < n) = true := by simp; omega
      have HT := keepf hT
      have HB := keepf (byte16 B m c xs T wr (HR.out.no HG.out.chg) (by omega))
      by_cases hnum : Num F ((p + k : Nat) : Int)
      · rw [hT, HK.out.yes _ hnum, ← hT] at HB
        simp only [byV] at HB
        obtain ⟨x, hx⟩ : ∃ x, x = cc T := ⟨_, rfl⟩
        rw [← hx] at HB
        have HX := keepf hx
        have HNm := keepf hnum
        clear hnum hT hx hl1 hl2
        go_wp2_with (first
          | (go_at_call 29; refine HB.out.mono ?_; rintro e w2 ⟨rfl, hc2⟩; have HC2 := keepf hc2; clear hc2)
          | (at_builtin; refine app8 (w := w) (wr := wr) (out := rngB cc p k) (y := x) rfl (.tmp 49) (.tmp 51) rfl rfl rfl HG.out (by omega) (HC2.out.alloc _) (by simp) ?_; intro A3 c3 w3 hg3; have HG3 := keepf hg3; clear hg3))
        go_roundw
        case rel => exact ⟨k + 1, A3, c3, by have := of_decide_eq_true e1; omega, by have := HT.out; omega, rfl, fun r h1 h2 => by
          by_cases h3 : r = p + k
          · subst h3; exact HNm.out
          · exact HA.out r h1 (by omega), by
            have h4 := HG3.out
            have e3 : rngB cc p k ++ [x] = rngB cc p (k + 1) := by
              rw [rngB_add, HX.out, HT.out]; rfl
            rw [e3] at h4
            exact h4⟩
        case measure => simp [slLen]; have := HT.out; omega
      · rw [hT, HK.out.no _ hnum, ← hT] at HB
        simp only [byV] at HB
        have HE := keepf (readN_eq HK.out.form HA.out hkm hkn (.inr (.inr hnum)))
        have HDn := keepf (show decide (p + k = n) = false by simp; omega)
        clear hnum hT hl1 hl2
        go_wp2_with (first
          | (go_at_call 29; refine HB.out.mono ?_; rintro e w2 ⟨rfl, hc2⟩; have hcv2 := conv_l (src_no (src_own HG.out.own) hc2); have HC2 := keepf hc2; clear hc2))
        go_ret2
        refine ⟨?_, HG.out.chg.then_ HC2.out⟩
        rw [HE.out, HDn.out]
        rfl
    · have HE := keepf (readN_eq HK.out.form HA.out hkm hkn (by omega))
      have hor : decide (k < most) = false ∨ (decide (k < most) = true ∧ p + k = n) := by
        by_cases h1 : k < most
        · exact .inr ⟨by simpa using h1, by omega⟩
        · exact .inl (by simpa using h1)
      have hpk : IntKind.i64.wrap ((p : Int) + (k : Int)) = (p : Int) + (k : Int) := by rw [IntKind.wrap_i64]; omega
      clear hlt
      rcases hor with h1 | ⟨h1, h2⟩
      · have hk2 : ((k : Int) < (most : Int)) = False := by simp at h1; simp; omega
        go_wp2_with fail
        go_ret2
        refine ⟨?_, HG.out.chg⟩
        rw [HE.out]
        refine ret_bool2 ?_
        rw [Bool.eq_iff_iff]; simp; omega
      · have e3 : decide ((p : Int) + (k : Int) < (n : Int)) = false := by simp; omega
        have HPN := keepf h2
        clear h2
        go_wp2_with fail
        go_ret2
        refine ⟨?_, HG.out.chg⟩
        rw [HE.out]
        refine ret_bool2 ?_
        rw [Bool.eq_iff_iff]; simp; omega

end Go.Proofs.Ytnbjigopgbjneaa
