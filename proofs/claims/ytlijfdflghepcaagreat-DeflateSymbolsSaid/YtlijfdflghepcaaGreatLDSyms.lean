/- 'DeflateSymbols': for every input the statement's function returns true: the symbol of any length, and of any distance, is as the document says, and comes back. Conditions: none. -/
import Derived.Test.YtlijfdflghepcaaGreatM17
import Derived.Test.YtlijfdflghepcaaGreatM18
import Derived.Test.YtlijfdflghepcaaGreatRows
import Derived.OpenShut
import Derived.ChangeOld
import Derived.Lib.SmallJoins
namespace Go.Proofs.YtlijfdflghepcaaGreat.dsyms
open Go.RowKit Go.ChangeShapes Go.WideShapes Go.ChangeAt
set_option linter.unusedVariables false

theorem own : ownKnob Tryz.prog.godebug = none := by kernel_rfl
theorem laidOut : laidOutB Tryz.prog = true := by kernel_rfl

/-- What both tell of a length, and how it comes back. -/
structure SymBoth (z s l b x n : Int) (ok : Bool) : Prop where
  p : ∀ w, Calls Tryz.prog 16 #[.int .i64 z] w fun e w' => e = .returned (.tuple #[.int .i64 s, .int .i64 l, .int .i64 b]) ∧ Chg NoS w w'
  r : ∀ w, Calls Tryz.prog 17 #[.int .i64 z] w fun e w' => e = .returned (.tuple #[.int .i64 s, .int .i64 l, .int .i64 b]) ∧ w = w'
  c : ∀ w, Calls Tryz.prog 20 #[.int .i64 s] w fun e w' => e = .returned (.tuple #[.int .i64 x, .int .i64 n, .bool ok]) ∧ w = w'
  g : (ok = true ∧ 3 ≤ z ∧ z ≤ 258 ∧ x + l = z ∧ n = b) ∨ (ok = false ∧ (z < 3 ∨ 258 < z))
theorem symBoth (z : Int) (h0 : -9223372036854775808 ≤ z) (h1 : z ≤ 9223372036854775807) : ∃ s l b x n ok, SymBoth z s l b x n ok := by
  by_cases h : z < 3 ∨ 258 < z
  · exact ⟨0, 0, 0, 0, 0, false, fun w => symbol_no z w h0 h1 h, fun w => rsymbol_no z w h0 h1 h, fun w => rlength_no 0 w (by decide) (by decide) (by decide), .inr ⟨rfl, h⟩⟩
  · obtain ⟨x, rfl⟩ := Int.eq_ofNat_of_zero_le (show 0 ≤ z by omega)
    obtain ⟨a1, a2, a3, _⟩ := lsym_ok (x := x) (by omega) (by omega)
    refine ⟨_, _, _, numL (lsym x), bitL (lsym x), true, fun w => symbol_ok x w (by omega) (by omega), fun w => rsymbol_ok x w (by omega) (by omega), fun w => ?_, .inl ⟨rfl, by omega, by omega, by omega, rfl⟩⟩
    have := rlength_ok (257 + lsym x) (numL (lsym x)) (bitL (lsym x)) w (numL_all _ a1).1
    rw [show ((257 + lsym x : Nat) : Int) = (257 : Int) + lsym x from by omega] at this
    exact this
/-- .. and of a distance. -/
structure FarBoth (z s l b x n : Int) (ok : Bool) : Prop where
  p : ∀ w, Calls Tryz.prog 18 #[.int .i64 z] w fun e w' => e = .returned (.tuple #[.int .i64 s, .int .i64 l, .int .i64 b]) ∧ Chg NoS w w'
  r : ∀ w, Calls Tryz.prog 19 #[.int .i64 z] w fun e w' => e = .returned (.tuple #[.int .i64 s, .int .i64 l, .int .i64 b]) ∧ w = w'
  c : ∀ w, Calls Tryz.prog 21 #[.int .i64 s] w fun e w' => e = .returned (.tuple #[.int .i64 x, .int .i64 n, .bool ok]) ∧ w = w'
  g : (ok = true ∧ 1 ≤ z ∧ z ≤ 32768 ∧ x + l = z ∧ n = b) ∨ (ok = false ∧ (z < 1 ∨ 32768 < z))
theorem farBoth (z : Int) (h0 : -9223372036854775808 ≤ z) (h1 : z ≤ 9223372036854775807) : ∃ s l b x n ok, FarBoth z s l b x n ok := by
  by_cases h : z < 1 ∨ 32768 < z
  · exact ⟨-1, 0, 0, 0, 0, false, fun w => far_no z w h0 h1 h, fun w => rfar_no z w h0 h1 h, fun w => rdistance_no (-1) w (by decide) (by decide) (by decide), .inr ⟨rfl, h⟩⟩
  · obtain ⟨x, rfl⟩ := Int.eq_ofNat_of_zero_le (show 0 ≤ z by omega)
    obtain ⟨a1, a2, a3, _⟩ := dsym_ok (x := x) (by omega) (by omega)
    exact ⟨_, _, _, numD (dsym x), bitD (dsym x), true, fun w => far_ok x w (by omega) (by omega), fun w => rfar_ok x w (by omega) (by omega), fun w => rdistance_ok (dsym x) (numD (dsym x)) (bitD (dsym x)) w (numD_all _ a1).1, .inl ⟨rfl, by omega, by omega, by omega, rfl⟩⟩

set_option maxHeartbeats 400000 in
set_option maxRecDepth 100000 in
theorem walk (z y : Int) (w : World) (wz : (Lit.int .i64 z).wf = true) (wy : (Lit.int .i64 y).wf = true) :
    Calls Tryz.prog 6 #[.int .i64 z, .int .i64 y] w fun e w' => e = .returned (.bool true) ∧ Below w.heap.size w w' := by
  have b1 := bounds_i64 wz
  have b2 := bounds_i64 wy
  obtain ⟨s, l, b, x, n, ok, hS⟩ := symBoth z b1.1 b1.2
  obtain ⟨s2, l2, b3, x2, n2, ok2, hF⟩ := farBoth y b2.1 b2.2
  have HS := keepf hS
  have HF := keepf hF
  clear hS hF wz wy
  have u1 : ∀ k : Int, (k != k) = false := fun k => by simp
  have q1 := u1 s
  have q2 := u1 l
  have q3 := u1 b
  have q4 := u1 s2
  have q5 := u1 l2
  have q6 := u1 b3
  clear u1
  go_enter Tryz.func6, Tryz.ntmps6
  go_upto_region 8 with (first
    | (go_at_call 16; refine (HS.out.p _).mono ?_; rintro e w2 ⟨rfl, hc2⟩; have HC2 := keepf hc2; clear hc2)
    | (go_at_call 17; refine (HS.out.r _).mono ?_; rintro e w3 ⟨rfl, rfl⟩)
    | (go_at_call 18; refine (HF.out.p _).mono ?_; rintro e w4 ⟨rfl, hc4⟩; have HC4 := keepf (HC2.out.trans hc4 (fun _ _ e => e)); clear hc4)
    | (go_at_call 19; refine (HF.out.r _).mono ?_; rintro e w5 ⟨rfl, rfl⟩)
    | (go_at_call 20; refine (HS.out.c _).mono ?_; rintro e w6 ⟨rfl, rfl⟩))
  have hg := HS.out.g
  have HG := keepf hg
  have HF2 := keepf HF.out.g
  have HFC := keepf HF.out.c
  clear hg HS HF q1 q2 q4 q5
  go_cut [103] from 76 to 136 (fun v wx => v = .bool false ∧ w4 = wx)
  case first =>
    rcases HG.out with ⟨hk, g1, g2, g3, g4⟩ | ⟨hk, g⟩
    · subst hk g4
      have d1 : decide ((3 : Int) ≤ z) = true := by simpa using g1
      have d2 : decide (z ≤ (258 : Int)) = true := by simpa using g2
      have d3 : (z != z) = false := by simp
      clear HG HF2 HFC
      go_wp2_with fail
      go_meet
      exact ⟨rfl, rfl⟩
    · subst hk
      rcases g with g | g
      · have d1 : decide ((3 : Int) ≤ z) = false := by simp; omega
        clear HG HF2 HFC
        go_wp2_with fail
        go_meet
        exact ⟨rfl, rfl⟩
      · have d1 : decide ((3 : Int) ≤ z) = true := by simp; omega
        have d2 : decide (z ≤ (258 : Int)) = false := by simp; omega
        clear HG HF2 HFC
        go_wp2_with fail
        go_meet
        exact ⟨rfl, rfl⟩
  case rest =>
    obtain ⟨rfl, rfl⟩ := hcut
    go_upto_region 11 with (go_at_call 21; refine (HFC.out _).mono ?_; rintro e w6 ⟨rfl, rfl⟩)
    rcases HF2.out with ⟨hk, g1, g2, g3, g4⟩ | ⟨hk, g⟩
    · subst hk g4
      have d1 : decide ((1 : Int) ≤ y) = true := by simpa using g1
      have d2 : decide (y ≤ (32768 : Int)) = true := by simpa using g2
      have d3 : (y == y) = true := by simp
      have d4 : (n2 == n2) = true := by simp
      clear HG HF2 HFC
      go_wp2_with (go_at_call 8; refine (works_any7 _).mono ?_; rintro e wz ⟨rfl, hcz⟩; have HCz := keepf hcz; clear hcz)
      go_ret
      exact ⟨rfl, (HC4.out.trans HCz.out (fun _ _ h => h)).no_below⟩
    · subst hk
      rcases g with g | g
      · have d1 : decide ((1 : Int) ≤ y) = false := by simp; omega
        clear HG HF2 HFC
        go_wp2_with (go_at_call 8; refine (works_any7 _).mono ?_; rintro e wz ⟨rfl, hcz⟩; have HCz := keepf hcz; clear hcz)
        go_ret
        exact ⟨rfl, (HC4.out.trans HCz.out (fun _ _ h => h)).no_below⟩
      · have d1 : decide ((1 : Int) ≤ y) = true := by simp; omega
        have d2 : decide (y ≤ (32768 : Int)) = false := by simp; omega
        clear HG HF2 HFC
        go_wp2_with (go_at_call 8; refine (works_any7 _).mono ?_; rintro e wz ⟨rfl, hcz⟩; have HCz := keepf hcz; clear hcz)
        go_ret
        exact ⟨rfl, (HC4.out.trans HCz.out (fun _ _ h => h)).no_below⟩


set_option maxRecDepth 100000 in
theorem lifted (os : Os) (started : os.Started) (H : Type) (enc : TypeId × Value → H) :
    ReturnsInHanded {} Tryz.checked os 6 .any (Rows.deflateSymbolsSpec.pre6 enc Tryz.prog Tryz.f6 Rows.deflateSymbolsRow.domain false) (Rows.deflateSymbolsSpec.post enc Tryz.prog Tryz.f6 false true false false) := by
  refine returnsInHanded_of_change (C := Tryz.checked) own started (by kernel_rfl) Tryz.func6
    (ChangeSpec.witness6 (enc := enc) (C := Tryz.checked) false ⟨#[], #[.int .i64 0, .int .i64 0], []⟩ 8 (by kernel_rfl) (by kernel_rfl) (by kernel_rfl) (by kernel_rfl)) ?_
  intro W base args ds gs before hval0 hW hcnd _
  have hval : ∀ (j : Nat) t v, Tryz.f6.params[j]? = some t → args[j]? = some v → Value.okWide Tryz.prog W .any base t v := hval0
  have hW' := hW
  obtain ⟨p, q, hA0, hV, rfl, hfz, hnd⟩ := hW
  have hA : DataW.TrodAll enc Tryz.prog W 0 (fun _ => true) true Tryz.f6.params.toList args.toList ds p := hA0
  rw [Tryz.params6] at hA hval
  obtain ⟨v0, vs0, d0, ds0, p0, q0, hargs, rfl, rfl, h0, r0⟩ := trodAll_cons hA
  obtain ⟨v1, vs1, d1, ds1, p1, q1, rfl, rfl, rfl, h1, r1⟩ := trodAll_cons r0
  obtain ⟨rfl, rfl, rfl⟩ := trodAll_nil r1
  obtain rfl : args = #[v0, v1] := by cases args; simp_all
  obtain ⟨rfl, rfl⟩ := trodVars_none hV
  obtain ⟨a0, rfl, rfl, rfl, w0⟩ := open_int Tryz.underlying3 (hval 0 3 v0 rfl rfl) h0
  obtain ⟨a1, rfl, rfl, rfl, w1⟩ := open_int Tryz.underlying3 (hval 1 3 v1 rfl rfl) h1
  clear hA0 hval0
  refine (walk a0 a1 W w0 w1).mono fun e W' ⟨he, bel⟩ => ?_
  subst he
  exact ⟨_, rfl, _, _, _, [], _, [], hW', trodAll_mk1 (shut_bool Tryz.underlying4 _), (trodAll_cons_mk (shut_int Tryz.underlying3 w0) (trodAll_cons_mk (shut_int Tryz.underlying3 w1) trodAll_mk0)), rfl, bel.frame _, fun h => by cases h⟩

theorem over : Rows.deflateSymbolsRow.holds Tryz.pinned (OpenSpec.ofChange Rows.deflateSymbolsSpec) :=
  OpenClaim.holds_of_wide 6 Tryz.f6 rfl rfl rfl rfl rfl rfl rfl ⟨rfl, rfl, rfl, rfl, rfl⟩ rfl rfl rfl rfl rfl (by kernel_rfl) Tryz.func6 (by kernel_rfl)
    (of_decide_eq_true (by kernel_rfl)) (by unfold Func.isWrapper; first | (rw [if_pos (by decide +kernel)]; kernel_rfl) | (rw [if_neg (by decide +kernel)]; exact ⟨rfl, rfl⟩))
    (fun os started H enc _ => lifted os started H enc)

theorem proved : Rows.DeflateSymbolsSaid := over
#print axioms proved
end Go.Proofs.YtlijfdflghepcaaGreat.dsyms
