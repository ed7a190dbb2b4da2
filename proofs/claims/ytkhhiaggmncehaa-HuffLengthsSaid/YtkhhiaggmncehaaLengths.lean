/- Lengths. -/
import Derived.Test.YtkhhiaggmncehaaLensOf
namespace Go.Proofs.Ytkhhiaggmncehaa
open Go.RowKit
set_option linter.unusedVariables false
set_option linter.unusedSimpArgs false

/-- Are there lengths? -/
def Fine (cs : List Int) (most : Int) : Prop := cntOk cs = true ∧ 1 ≤ most ∧ most ≤ 15 ∧ (usedTo cs cs.length).length ≤ 2 ^ most.toNat
theorem w64_pow (k : Nat) (h : k ≤ 15) : wrap64 ((2 : Int) ^ k) = ((2 ^ k : Nat) : Int) := by
  have h2 : 2 ^ k ≤ 2 ^ 15 := Nat.pow_le_pow_right (by omega) h
  have e : ((2 : Int)) ^ k = ((2 ^ k : Nat) : Int) := by simp
  rw [e]
  obtain ⟨p, hp⟩ : ∃ p : Nat, p = 2 ^ k := ⟨_, rfl⟩
  rw [← hp] at h2 ⊢
  have h3 : p ≤ 32768 := h2
  unfold wrap64
  omega
def LenBad (w : World) (e : Ending) (w' : World) : Prop := e = .returned (.tuple #[.slice none 0 0, .int .i64 2]) ∧ Chg NoS w w'
def LenTo (w : World) (cs : List Int) (most : Nat) (e : Ending) (w' : World) : Prop :=
  ∃ A c d D, e = .returned (.tuple #[.slice A D.length c, .int .i64 0]) ∧ w'.ownsRow 0 3 1 (.slice A D.length c) D.length (icells D) ∧ UsedIs cs d ∧ LensOk cs most d D ∧ Chg NoS w w'

set_option maxHeartbeats 4000000 in
set_option maxRecDepth 100000 in
theorem lengths_no (cs : List Int) (A : Option Addr) (c : Nat) (most : Int) (w : World) (hL : cs.length ≤ 1000) (hm64 : -9223372036854775808 ≤ most ∧ most ≤ 9223372036854775807) (hS : Src w 1 A cs.length c (icells cs)) (hF : ¬ Fine cs most) :
    Calls Try.prog 24 #[.slice A cs.length c, .int .i64 most] w (LenBad w) := by
  have HS := keepf hS
  have HF := keepf hF
  have HMC := keepf (mayCount_any cs A c w hL hS)
  obtain ⟨ok, hok⟩ : ∃ ok, ok = cntOk cs := ⟨_, rfl⟩
  rw [← hok] at HMC
  have HOK := keepf hok
  clear hF hS hok
  by_cases h1 : most < 1
  · have d1 : decide (most < 1) = true := by simpa using h1
    go_enter Try.func24, Try.ntmps24
    go_wp2_with fail
    go_ret2
    exact ⟨rfl, Chg.refl _ _⟩
  · have d1 : decide (most < 1) = false := by simpa using h1
    by_cases h2 : 15 < most
    · have d2 : decide (15 < most) = true := by simpa using h2
      go_enter Try.func24, Try.ntmps24
      go_wp2_with fail
      go_ret2
      exact ⟨rfl, Chg.refl _ _⟩
    · have d2 : decide (15 < most) = false := by simpa using h2
      rcases ok with _ | _
      · go_enter Try.func24, Try.ntmps24
        go_wp2_with (go_at_call 37; refine HMC.out.mono ?_; rintro e w' ⟨rfl, rfl⟩)
        go_ret2
        exact ⟨rfl, Chg.refl _ _⟩
      · have hl1 : 1 ≤ cs.length := by
          have h3 := of_decide_eq_true HOK.out.symm
          exact h3.1
        have HFI := keepf (first_any cs A c w hl1 hL HS.out)
        obtain ⟨k, rfl⟩ := Int.eq_ofNat_of_zero_le (show 0 ≤ most by omega)
        have HBIG : Hid (∀ d, UsedIs cs d → 2 ^ k < d.length) := fun d hd => by
          refine Nat.lt_of_not_le (fun hle => HF.out ⟨HOK.out.symm, by omega, by omega, ?_⟩)
          rw [← hd.perm.length_eq, Int.toNat_natCast]
          exact hle
        go_enter Try.func24, Try.ntmps24
        go_wp2_with (first
          | (go_at_call 37; refine HMC.out.mono ?_; rintro e w' ⟨rfl, rfl⟩)
          | (go_at_call 38; refine HFI.out.mono ?_; rintro e w2 ⟨A2, c2, d, rfl, ho2, hu2, hc2, hf2⟩; have HO2 := keepf ho2; have HU2 := keepf hu2; have HC2 := keepf hc2; have d3 : decide (wrap64 ((2 : Int) ^ k) < (d.length : Int)) = true := (by have := HBIG.out d hu2; rw [w64_pow k (by omega)]; exact decide_eq_true (by omega)); clear ho2 hu2 hc2 hf2))
        go_ret2
        exact ⟨rfl, HC2.out⟩

set_option maxHeartbeats 4000000 in
set_option maxRecDepth 100000 in
theorem lengths_ok (cs : List Int) (A : Option Addr) (c : Nat) (k : Nat) (w : World) (hL : cs.length ≤ 1000) (hS : Src w 1 A cs.length c (icells cs)) (hF : Fine cs k) :
    Calls Try.prog 24 #[.slice A cs.length c, .int .i64 k] w (LenTo w cs k) := by
  obtain ⟨hok, hk1, hk2, hle⟩ := hF
  rw [Int.toNat_natCast] at hle
  have hc3 := of_decide_eq_true hok
  have HS := keepf hS
  have HK := keepf hc3.2.2
  have HMC := keepf (mayCount_any cs A c w hL hS)
  rw [hok] at HMC
  have HFI := keepf (first_any cs A c w hc3.1 hL hS)
  have HLE : Hid (∀ d, UsedIs cs d → d.length ≤ 2 ^ k) := fun d hd => by rw [hd.perm.length_eq]; exact hle
  have hn1 : 1 ≤ cs.length := hc3.1
  have d1 : decide ((k : Int) < 1) = false := by simp; omega
  have d2 : decide ((15 : Int) < k) = false := by simp; omega
  obtain ⟨i0, hi, hz0, hz1, hz2⟩ := info_parts info_int
  clear hS hc3 hok hle
  go_enter Try.func24, Try.ntmps24
  go_upto_region 7 with (first
    | (go_at_call 37; refine HMC.out.mono ?_; rintro e w' ⟨rfl, rfl⟩)
    | (go_at_call 38; refine HFI.out.mono ?_; rintro e w2 ⟨A2, c2, d, rfl, ho2, hu2, hc2, hf2⟩; have HO2 := keepf ho2; have HU2 := keepf hu2; have HC2 := keepf hc2; have HF2 := keepf hf2; have d3 : decide (wrap64 ((2 : Int) ^ k) < (d.length : Int)) = false := (by have := HLE.out d hu2; rw [w64_pow k (by omega)]; exact decide_eq_false (by omega)); clear ho2 hu2 hc2 hf2)
    | (at_make; go_loud (refine wpList_make_full _ rfl (.tmp 27) (.tmp 27) 22 rfl 0 3 i0 (.int .i64 0) 1 Try.underlying22 hi hz0 hz1 .i64 .i64 _ _ cs.length rfl rfl rfl rfl (by rw [hz2]; omega) (by unfold maxLen; omega) (Nat.zero_le _) ?_); intro w3 hown3 hgr; have HO3 := keepf hown3; have HG3 := keepf hgr; clear hown3 hgr))
  have hz : (madeCells (Value.int .i64 0).cells (cs.length * 1)).toList = icells (List.replicate cs.length 0) := by
    rw [Nat.mul_one]
    exact (toList_madeCells_one _ _).trans (by simp [icells])
  have hRow : Row w3 w2.heap.size cs.length (List.replicate cs.length 0) := by
    show w3.ownsRow _ _ _ (.slice _ (List.replicate cs.length (0 : Int)).length _) (List.replicate cs.length (0 : Int)).length _
    rw [List.length_replicate, ← hz]
    exact HO3.out
  have hC3 : Chg NoS w2 w3 := (Chg.refl NoS w2).grown HG3.out (fun _ e _ => by cases e)
  have HR := keepf hRow
  have HC3 := keepf (HC2.out.trans hC3 (fun _ _ h => h))
  have HO23 := keepf (own_chg (S := NoS) HO2.out hC3 (fun _ _ h => h))
  have hs2 := HC2.out.size
  have hrep : ∀ y, (List.replicate cs.length (0 : Int)).getD y 0 = 0 := fun y => by
    rw [List.getD_eq_getElem?_getD, List.getElem?_replicate]
    split <;> rfl
  have HREP := keepf hrep
  have hlow : ∀ a, A2 = some a → a.block ≠ w2.heap.size := by
    rintro a rfl
    have := own_lt HO2.out rfl
    omega
  have HLOW := keepf hlow
  clear hz hRow hC3 hrep hlow
  by_cases hd0 : d.length = 0
  · obtain rfl : d = [] := List.eq_nil_of_length_eq_zero hd0
    simp only [List.length_nil]
    go_wp2_with fail
    go_ret2
    refine ⟨some ⟨w2.heap.size, 0, none⟩, cs.length, [], List.replicate cs.length 0, ?_, HR.out, HU2.out, ⟨List.length_replicate, fun y _ => HREP.out y, fun x hx => (by cases hx), fun e => (by cases e), fun x hx => (by cases hx), ?_, fun e => (by simp at e)⟩, HC3.out⟩
    · simp
    · rw [rmOf_zero _ (fun y _ => HREP.out y)]; omega
  · have hgd : Good cs.length d := fun x hx => by
      have h1 := (usedTo_mem cs cs.length x).1 (HU2.out.perm.mem_iff.1 hx)
      exact ⟨h1.1, h1.2.1⟩
    obtain ⟨bd, cd, hA, hcd, _⟩ := own_form HO2.out (by omega)
    injection hA with hA1 hA2 hA3
    subst hA1
    subst hA3
    clear hA2
    by_cases hd1 : d.length = 1
    · obtain ⟨x, rfl⟩ : ∃ x, d = [x] := List.length_eq_one_iff.1 hd1
      have hx := hgd x (List.mem_singleton.2 rfl)
      obtain ⟨x, rfl⟩ := Int.eq_ofNat_of_zero_le hx.1
      have c1 : w3.cell? ⟨bd, 0, none⟩ = some (.int .i64 x) := World.ownsRow.cellAt HO23.out 0 (by simp)
      have c2 := HR.out.cell x (by rw [List.length_replicate]; omega)
      have f2 := HR.out.frozen x
      have j1 : (0 : Int) ≤ x := by omega
      have j2 : (x : Int) < cs.length := by omega
      simp only [List.length_singleton] at d3 ⊢
      clear hgd hx hd0 hd1
      go_wp2_with fail
      go_ret2
      have hrow := HR.out.set x 1
      refine ⟨some ⟨w2.heap.size, 0, none⟩, cs.length, [(x : Int)], (List.replicate cs.length 0).set x 1, ?_, hrow, HU2.out, ?_, HC3.out.setCell (fun h => absurd h (by simp; omega)) _⟩
      · simp
      · have hxl : x < cs.length := by omega
        have hat : ((List.replicate cs.length (0 : Int)).set x 1).getD x 0 = 1 := by
          rw [List.getD_eq_getElem?_getD, List.getElem?_set, if_pos rfl, if_pos (by simp; omega)]
          rfl
        have hrm := rmOf_set 1 (List.replicate cs.length 0) x (by simp; omega)
        rw [HREP.out, rmOf_zero _ (fun y _ => HREP.out y)] at hrm
        have e1 : rm1 0 = 0 := rfl
        have e2 : rm1 1 = 16384 := rfl
        refine ⟨by simp, fun y hy => ?_, fun z hz => ?_, fun _ z hz => ?_, fun z hz y hy hlt => ?_, by omega, fun e => by simp at e⟩
        · rw [List.getD_eq_getElem?_getD, List.getElem?_set, if_neg (by rintro rfl; exact hy (List.mem_singleton.2 rfl)), ← List.getD_eq_getElem?_getD]
          exact HREP.out y
        · rw [List.mem_singleton] at hz
          subst hz
          rw [Int.toNat_natCast, hat]
          omega
        · rw [List.mem_singleton] at hz
          subst hz
          rw [Int.toNat_natCast, hat]
        · rw [List.mem_singleton] at hz hy
          subst hz
          subst hy
          omega
    · have hN : 2 ≤ d.length := by omega
      have hdl : d.length ≤ 1000 := by
        have h1 := HU2.out.perm.length_eq
        have h2 := usedTo_len cs cs.length
        omega
      have HLV := keepf (levels_any cs d A (some ⟨bd, 0, none⟩) c c2 k w3 (HS.out.below (w0 := w) HC3.out) (src_own HO23.out) (by omega) hdl hgd HK.out (by omega) (by omega))
      have hnd : d.Nodup := HU2.out.perm.nodup_iff.2 (usedTo_nodup cs cs.length)
      have hle := HLE.out d HU2.out
      have hf : ∀ x ∈ leaves cs d, x.2 = false := fun x hx => by
        obtain ⟨v, _, rfl⟩ := List.mem_map.1 hx
        rfl
      have hup : Up (leaves cs d) := by
        refine List.pairwise_iff_getElem.2 (fun i j hi hj hij => ?_)
        have h1 := HU2.out.sorted i j (Nat.zero_le _) hij (by simpa [leaves] using hj)
        have hi2 : i < d.length := by simpa [leaves] using hi
        have hj2 : j < d.length := by simpa [leaves] using hj
        simp only [List.getD_eq_getElem?_getD, List.getElem?_eq_getElem hi2, List.getElem?_eq_getElem hj2, Option.getD_some] at h1
        simpa [leaves] using h1
      have hSl : (leaves cs d).length = d.length := by simp [leaves]
      have hk1n : 1 ≤ k := by omega
      have hk2n : k ≤ 15 := by omega
      have hT : 2 * d.length - 2 ≤ (levelOf (leaves cs d) (k - 1)).length := by
        obtain ⟨M, rfl⟩ : ∃ M, k = M + 1 := ⟨k - 1, by omega⟩
        have hlong := level_long (leaves cs d) M 2 (by rw [hSl]; rw [Nat.pow_succ] at hle; omega)
        rw [hSl] at hlong
        rw [Nat.add_sub_cancel]
        omega
      have HSH : Hid (∀ g5 c5 Ls w5, Ls.length = k → LevsAt w3 w5 (leaves cs d) (some ⟨g5, 0, none⟩) c5 Ls → Calls Try.prog 39 #[.slice (some ⟨w2.heap.size, 0, none⟩) cs.length cs.length, .slice (some ⟨g5, 0, none⟩) k c5, .slice (some ⟨bd, 0, none⟩) d.length c2] w5 fun e w' =>
          e = .returned (.tuple #[]) ∧ ∃ D, Row w' w2.heap.size cs.length D ∧ LenIs D cs.length d (depth (leavesOf (leaves cs d) (k - 1) (2 * d.length - 2))) ∧ Chg (fun i => i = w2.heap.size) w5 w') := by
        intro g5 c5 Ls w5 hl5 hv5
        have ho := hv5.o
        rw [hl5] at ho
        refine callsIn_wide.1 (share_in w2.heap.size cs.length cs.length g5 c5 k d (some ⟨bd, 0, none⟩) c2 (leaves cs d) Ls (List.replicate cs.length 0) w5 (HR.out.chg hv5.c (fun h => h)) List.length_replicate ((src_own HO23.out).below (w0 := w3) hv5.c) HLOW.out hN hdl hgd hnd hcd hSl hf hup hl5 hk1n hk2n hT ho hv5.l ⟨List.length_replicate, fun i x _ => HREP.out _, fun y _ => HREP.out y⟩)
      have HOK := keepf (fun D h => lens_ok (D := D) HU2.out hN hk1n hk2n hle HK.out h)
      have e0 : ((d.length : Int) == 0) = false := beq_eq_false_iff_ne.2 (by omega)
      have e1 : ((d.length : Int) == 1) = false := beq_eq_false_iff_ne.2 (by omega)
      clear hgd hnd hle hf hup hSl hT hN hdl hd0 hd1 hcd
      go_wp2_with (first
        | (go_at_call 40; refine HLV.out.mono ?_; rintro e w5 ⟨A5, c5, Ls, rfl, hl5, hv5⟩; obtain ⟨g5, cg5, hA5, _, _⟩ := own_form hv5.o (by omega); injection hA5 with hA51 hA52 hA53; subst hA51; subst hA53; clear hA52; have HL5 := keepf hl5; have HV5 := keepf hv5; rw [hl5]; clear hl5 hv5)
        | (go_at_call 39; go_loud (refine (HSH.out _ _ _ _ HL5.out HV5.out).mono ?_); rintro e w6 ⟨rfl, D, hr6, hl6, hc6⟩; have HR6 := keepf hr6; have HL6 := keepf hl6; have HC6 := keepf hc6; clear hr6 hl6 hc6))
      have hD := HL6.out.len
      have hr := HR6.out
      go_ret2
      refine ⟨some ⟨w2.heap.size, 0, none⟩, cs.length, d, D, ?_, hr, HU2.out, HOK.out D HL6.out, ((HC3.out.trans HV5.out.c (fun _ _ h => h)).trans HC6.out (fun i h1 h2 => by omega))⟩
      simp [hD]
end Go.Proofs.Ytkhhiaggmncehaa
