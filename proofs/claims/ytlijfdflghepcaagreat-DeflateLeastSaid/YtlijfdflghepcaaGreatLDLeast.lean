/- 'DeflateLeast': for every input the statement's function returns true: what is asked to be least is no more than each kind, and than the bound. Conditions: none. -/
import Derived.Test.YtlijfdflghepcaaGreatM19
import Derived.Test.YtlijfdflghepcaaGreatM27
import Derived.Test.YtlijfdflghepcaaGreatRows
import Derived.OpenShut
import Derived.ChangeOld
import Derived.Lib.SmallJoins
import Derived.BigQuiet
namespace Go.Proofs.YtlijfdflghepcaaGreat.dleast
open Go.RowKit Go.ChangeShapes Go.WideShapes Go.ChangeAt
set_option linter.unusedVariables false

theorem own : ownKnob Tryz.prog.godebug = none := by kernel_rfl
theorem laidOut : laidOutB Tryz.prog = true := by kernel_rfl

set_option maxHeartbeats 4000000 in
set_option maxRecDepth 100000 in
theorem walk (A : Option Addr) (len cap : Nat) (bs : List Nat) (z : Int) (w : World) (hl : bs.length = len) (hm : len ≤ maxLen) (hS : Src w 1 A len cap (bs.flatMap encU)) (hg : ∀ b ∈ bs, b < 256) (hc : len ≤ cap) (wz : (Lit.int .i64 z).wf = true) :
    Calls Tryz.prog 4 #[.slice A len cap, .int .i64 z] w fun e w' => e = .returned (.bool true) ∧ Below w.heap.size w w' := by
  have bz := bounds_i64 wz
  unfold maxLen at hm
  rw [flat_bytesU] at hS
  subst hl
  have HBZ := keepf (fun W => bound_ok z bz.1 bz.2 W)
  have HRZ := keepf (fun W => rbound_ok z bz.1 bz.2 W)
  by_cases hle : bs.length ≤ 1500
  · have d1 : decide ((1500 : Int) < bs.length) = false := by simp; omega
    have HD3 := keepf (deflate_ok bs A cap 3 w hS hc hg (by omega) (by omega))
    have HDK := keepf (fun (k : Nat) (W : World) (hS : Src W 1 A bs.length cap (ucells bs)) (hk : k ≤ 3) => deflate_ok bs A cap k W hS hc hg (by omega) hk)
    have HRB := keepf (fun W => rbound_ok (bs.length : Nat) (by omega) (by omega) W)
    have HS := keepf hS
    have HALL := keepf (fun L h => least_all (bs := bs) (L := L) hle h)
    have HBN := keepf (show (0 : Int) ≤ boundN (bs.length : Nat) ∧ boundN (bs.length : Nat) ≤ 2000 by unfold boundN; rw [if_neg (by omega)]; omega)
    obtain ⟨bz0, hbz0⟩ : ∃ b0, b0 = boundN z := ⟨_, rfl⟩
    rw [← hbz0] at HBZ HRZ
    obtain ⟨bn, hbn⟩ : ∃ bn, bn = boundN (bs.length : Nat) := ⟨_, rfl⟩
    rw [← hbn] at HRB HALL HBN
    obtain ⟨n, hn⟩ : ∃ n, n = bs.length := ⟨_, rfl⟩
    rw [← hn] at d1 HD3 HDK HRB HS hc hm hle ⊢
    clear hS hg hbz0 hbn hn bz wz
    have d2 : (bz0 == bz0) = true := by simp
    go_enter Tryz.func4, Tryz.ntmps4
    go_upto_region 4 with (first
      | (go_at_call 13; refine (HBZ.out _).mono ?_; rintro e w' ⟨rfl, rfl⟩)
      | (go_at_call 14; refine (HRZ.out _).mono ?_; rintro e w' ⟨rfl, rfl⟩)
      | (go_at_call 9; refine HD3.out.mono ?_; rintro e w1 ⟨L, hL, A1, c1, rfl, ho1, hc1⟩; have HA1 := keepf (HALL.out L hL); have HC1 := keepf hc1; obtain ⟨m1, hm1⟩ : ∃ m1, m1 = (bytesOf false L).length := ⟨_, rfl⟩; rw [← hm1] at HA1 ⊢; clear hL ho1 hc1 hm1))
    have d3 : decide (bn < (m1 : Int)) = false := by have := HA1.out.1; simp; omega
    go_wp2_with (go_at_call 14; refine (HRB.out _).mono ?_; rintro e w' ⟨rfl, rfl⟩)
    go_loopw [7] (fun vk wr => ∃ k : Nat, k ≤ 3 ∧ vk = .int .i64 (k : Nat) ∧ Hid (Chg NoS w wr)) (fun vk _ => 3 - (intOf vk).toNat)
    case atStart => exact ⟨0, by omega, by go_num, HC1.out⟩
    case round =>
      obtain ⟨k, hk, rfl, HCH⟩ := hrel
      by_cases hlt : k < 3
      · have HD := keepf (HDK.out k wr (HS.out.below (w0 := w) HCH.out) (by omega))
        by_cases h0 : k = 0
        · subst h0
          go_upto_region 10 with (go_at_call 9; refine HD.out.mono ?_; rintro e w2 ⟨L2, hL2, A2, c2, rfl, ho2, hc2⟩; have HA2 := keepf (And.intro (HA1.out.2 0 hlt L2 hL2).1 ((HA1.out.2 0 hlt L2 hL2).2 rfl)); have HC2 := keepf (HCH.out.trans hc2 (fun _ _ h => h)); obtain ⟨m2, hm2⟩ : ∃ m2, m2 = (bytesOf false L2).length := ⟨_, rfl⟩; rw [← hm2] at HA2 ⊢; clear hL2 ho2 hc2 hm2)
          have d4 : decide ((m2 : Int) < (m1 : Int)) = false := by have := HA2.out.1; simp; omega
          have d4' : decide (m2 < m1) = false := by have := HA2.out.1; simp; omega
          have d5 : decide (bn < (m2 : Int)) = false := by have := HA2.out.2; simp; omega
          go_wp2_with (go_at_call 14; refine (HRB.out _).mono ?_; rintro e w' ⟨rfl, rfl⟩)
          go_roundw
          case rel => exact ⟨1, by omega, by go_num, HC2.out⟩
          case measure => simp [intOf]
        · have e0 : ((k : Int) == 0) = false := by simp; omega
          go_upto_region 10 with (go_at_call 9; refine HD.out.mono ?_; rintro e w2 ⟨L2, hL2, A2, c2, rfl, ho2, hc2⟩; have HA2 := keepf (HA1.out.2 k hlt L2 hL2); have HC2 := keepf (HCH.out.trans hc2 (fun _ _ h => h)); obtain ⟨m2, hm2⟩ : ∃ m2, m2 = (bytesOf false L2).length := ⟨_, rfl⟩; rw [← hm2] at HA2 ⊢; clear hL2 ho2 hc2 hm2)
          have d4 : decide ((m2 : Int) < (m1 : Int)) = false := by have := HA2.out.1; simp; omega
          have d4' : decide (m2 < m1) = false := by have := HA2.out.1; simp; omega
          go_wp2_with fail
          go_roundw
          case rel => exact ⟨k + 1, by omega, by go_num, HC2.out⟩
          case measure => simp [intOf]; omega
      · obtain rfl : k = 3 := by omega
        go_wp2_with (go_at_call 8; refine (works_any7 _).mono ?_; rintro e wz ⟨rfl, hcz⟩; have HCz := keepf (HCH.out.trans hcz (fun _ _ h => h)); clear hcz)
        go_ret
        exact ⟨rfl, HCz.out.no_below⟩
  · have d1 : decide ((1500 : Int) < bs.length) = true := by simp; omega
    obtain ⟨n, hn⟩ : ∃ n, n = bs.length := ⟨_, rfl⟩
    rw [← hn] at d1 hm hle hc ⊢
    clear hS hg hn
    go_enter Tryz.func4, Tryz.ntmps4
    go_wp2_with (go_at_call 8; refine (works_any7 _).mono ?_; rintro e wz ⟨rfl, hcz⟩; have HCz := keepf hcz; clear hcz)
    go_ret
    exact ⟨rfl, HCz.out.no_below⟩


set_option maxRecDepth 100000 in
theorem lifted (os : Os) (started : os.Started) (H : Type) (enc : TypeId × Value → H) :
    ReturnsInHanded {} Tryz.checked os 4 .any (Rows.deflateLeastSpec.pre6 enc Tryz.prog Tryz.f4 Rows.deflateLeastRow.domain false) (Rows.deflateLeastSpec.post enc Tryz.prog Tryz.f4 false true false false) := by
  refine returnsInHanded_of_change (C := Tryz.checked) own started (by kernel_rfl) Tryz.func4
    (ChangeSpec.witness6 (enc := enc) (C := Tryz.checked) false ⟨#[], #[.slice none 0 0, .int .i64 0], []⟩ 8 (by kernel_rfl) (by kernel_rfl) (by kernel_rfl) (by kernel_rfl)) ?_
  intro W base args ds gs before hval0 hW hcnd _
  have hval : ∀ (j : Nat) t v, Tryz.f4.params[j]? = some t → args[j]? = some v → Value.okWide Tryz.prog W .any base t v := hval0
  have hW' := hW
  obtain ⟨p, q, hA0, hV, rfl, hfz, hnd⟩ := hW
  have hA : DataW.TrodAll enc Tryz.prog W 0 (fun _ => true) true Tryz.f4.params.toList args.toList ds p := hA0
  rw [Tryz.params4] at hA hval
  obtain ⟨v0, vs0, d0, ds0, p0, q0, hargs, rfl, rfl, h0, r0⟩ := trodAll_cons hA
  obtain ⟨v1, vs1, d1, ds1, p1, q1, rfl, rfl, rfl, h1, r1⟩ := trodAll_cons r0
  obtain ⟨rfl, rfl, rfl⟩ := trodAll_nil r1
  obtain rfl : args = #[v0, v1] := by cases args; simp_all
  obtain ⟨rfl, rfl⟩ := trodVars_none hV
  obtain ⟨a0, len0, cap0, rfl⟩ := okWide_slice Tryz.underlying22 (hval 0 22 v0 rfl rfl)
  have k0 := h0
  have lt0 : ∀ x ∈ p0, x.block < W.heap.size := by obtain ⟨m, hm⟩ := k0; exact DataW.trod_lt m _ _ _ hm
  obtain ⟨hm0, xs0, hl0, hS0, hg0⟩ : len0 ≤ maxLen ∧ ∃ xs : List Nat, xs.length = len0 ∧ Src W 1 a0 len0 cap0 (xs.flatMap encU) ∧ ∀ b ∈ xs, (fun p : Nat => p < 256) b := by
    obtain ⟨fuel, hf⟩ := h0
    exact open_rows encU (fun p : Nat => p < 256) 1 Tryz.underlying22 (by kernel_rfl) (fun _ => rfl) (fun n cs y h _ => byte_elU h) (by simpa [Value.cells] using hf)
  have hc0 : len0 ≤ cap0 := by
    obtain ⟨fuel, hf⟩ := h0
    exact open_cap Tryz.underlying22 (by simpa [Value.cells] using hf)
  obtain ⟨a1, rfl, rfl, rfl, w1⟩ := open_int Tryz.underlying3 (hval 1 3 v1 rfl rfl) h1
  clear hA0 hval0
  refine (walk a0 len0 cap0 xs0 a1 W hl0 hm0 hS0 hg0 hc0 w1).mono fun e W' ⟨he, bel⟩ => ?_
  subst he
  exact ⟨_, rfl, _, _, _, [], _, [], hW', trodAll_mk1 (shut_bool Tryz.underlying4 _), (trodAll_cons_mk (Below.trod laidOut (by kernel_rfl) (of_decide_eq_true (by kernel_rfl)) k0 bel lt0) (trodAll_cons_mk (shut_int Tryz.underlying3 w1) trodAll_mk0)), rfl, bel.frame _, fun h => by cases h⟩

theorem over : Rows.deflateLeastRow.holds Tryz.pinned (OpenSpec.ofChange Rows.deflateLeastSpec) :=
  OpenClaim.holds_of_wide 4 Tryz.f4 rfl rfl rfl rfl rfl rfl rfl ⟨rfl, rfl, rfl, rfl, rfl⟩ rfl rfl rfl rfl rfl (by kernel_rfl) Tryz.func4 (by kernel_rfl)
    (of_decide_eq_true (by kernel_rfl)) (by unfold Func.isWrapper; first | (rw [if_pos (by decide +kernel)]; kernel_rfl) | (rw [if_neg (by decide +kernel)]; exact ⟨rfl, rfl⟩))
    (fun os started H enc _ => lifted os started H enc)

theorem proved : Rows.DeflateLeastSaid := over
#print axioms proved
end Go.Proofs.YtlijfdflghepcaaGreat.dleast
