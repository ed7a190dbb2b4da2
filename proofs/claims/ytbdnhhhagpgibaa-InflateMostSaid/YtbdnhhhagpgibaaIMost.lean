/- 'InflateMost': for every input the statement's function returns true: with a greater most the same comes, or, where there was too much, more does, or another error; never more than most. Conditions: none. -/
import Derived.Test.YtbdnhhhagpgibaaInfIn
import Derived.Test.YtbdnhhhagpgibaaRows
import Derived.OpenShut
import Derived.ChangeOld
import Derived.Lib.SmallJoins
import Derived.BigQuiet
namespace Go.Proofs.Ytbdnhhhagpgibaa.imost
open Go.RowKit Go.ChangeShapes Go.WideShapes Go.ChangeAt
set_option linter.unusedVariables false

theorem own : ownKnob Try.prog.godebug = none := by kernel_rfl
theorem laidOut : laidOutB Try.prog = true := by kernel_rfl

set_option maxHeartbeats 4000000 in
set_option maxRecDepth 100000 in
theorem walk (A : Option Addr) (len cap : Nat) (bs : List Nat) (a c : Int) (w : World)
    (hl : bs.length = len) (hm : len ≤ maxLen) (hS : Src w 1 A len cap (bs.flatMap encU)) (hg : ∀ p ∈ bs, p < 256) (wa : (Lit.int .u16 a).wf = true) (wc : (Lit.int .u16 c).wf = true) :
    Calls Try.prog 6 #[.slice A len cap, .int .u16 a, .int .u16 c] w fun e w' => e = .returned (.bool true) ∧ Below w.heap.size w w' := by
  unfold maxLen at hm
  rw [flat_bytesU] at hS
  subst hl
  have b1 := bounds_u16 wa
  have b2 := bounds_u16 wc
  obtain ⟨a, rfl⟩ := Int.eq_ofNat_of_zero_le b1.1
  obtain ⟨c, rfl⟩ := Int.eq_ofNat_of_zero_le b2.1
  clear wa wc
  have HS := keepf hS
  have HG := keepf hg
  clear hS hg
  by_cases hle : bs.length ≤ 300
  · have d1 : decide ((300 : Int) < bs.length) = false := by simp; omega
    by_cases hac : a ≤ c
    · have d2 : decide ((c : Int) < a) = false := by simp; omega
      have d2' : decide (c < a) = false := by simp; omega
      by_cases hc2 : c ≤ 2000
      · have d3 : decide ((2000 : Int) < c) = false := by simp; omega
        have d3' : decide (2000 < c) = false := by simp; omega
        have HI1 := keepf (inflate_any bs A cap a w HS.out (by omega) HG.out (by omega))
        have HI2 := keepf (fun W (h : Chg NoS w W) => inflate_any bs A cap c W (HS.out.below (w0 := w) h) (by omega) HG.out (by omega))
        go_enter Try.func6, Try.ntmps6
        go_upto_region 4 with (go_at_call 8; refine HI1.out.mono ?_; rintro e w2 ⟨A2, c2, n2, k2, out2, rfl, hch2, ho2, hb2, hle2, hr2⟩; have HC2 := keepf hch2; have HO2 := keepf ho2; have HLE2 := keepf hle2; have HR2 := keepf hr2; clear hch2 ho2 hb2 hle2 hr2)
        go_upto_region 5 with (go_at_call 8; refine (HI2.out _ HC2.out).mono ?_; rintro e w3 ⟨A3, c3, n3, k3, out3, rfl, hch3, ho3, hb3, hle3, hr3⟩; have HC3 := keepf hch3; have HO3 := keepf ho3; have HLE3 := keepf hle3; have HR3 := keepf hr3; clear hch3 ho3 hb3 hle3 hr3)
        have e1 : decide ((a : Int) < out2.length) = false := by have := HLE2.out; simp; omega
        have e1' : decide (a < out2.length) = false := by have := HLE2.out; simp; omega
        have e2 : decide ((c : Int) < out3.length) = false := by have := HLE3.out; simp; omega
        have e2' : decide (c < out3.length) = false := by have := HLE3.out; simp; omega
        have HALL := keepf (HC2.out.trans HC3.out (fun _ _ h => h))
        have hlen2 : out2.length ≤ 2000 := by have := HLE2.out; omega
        have hlen3 : out3.length ≤ 2000 := by have := HLE3.out; omega
        by_cases h3 : k2 = 3
        · subst h3
          have hr : Runs bs a st0 (.err 3) := by
            rcases HR2.out with ⟨h, _⟩ | ⟨_, _, _, h⟩
            · omega
            · exact h
          by_cases h0 : k3 = 0
          · subst h0
            have hgt : a < out3.length := by
              rcases HR3.out with ⟨_, b, _, _, hr3⟩ | ⟨h, _⟩
              · rcases Nat.lt_or_ge a out3.length with h | h
                · exact h
                · have h1 := (hr3.less h hac).one hr
                  cases h1
              · exact absurd rfl h
            have e3 : decide ((a : Int) < out3.length) = true := by simp; omega
            have e3' : decide (a < out3.length) = true := by simp; omega
            clear hr hgt
            go_wp2_with (go_at_call 7; refine (works_any5 _).mono ?_; rintro e wz ⟨rfl, hcz⟩; have HCz := keepf hcz; clear hcz)
            go_ret
            exact ⟨rfl, (HALL.out.trans HCz.out (fun _ _ h => h)).no_below⟩
          · have e3 : (k3 == 0) = false := by simpa using h0
            clear hr
            go_wp2_with (go_at_call 7; refine (works_any5 _).mono ?_; rintro e wz ⟨rfl, hcz⟩; have HCz := keepf hcz; clear hcz)
            go_ret
            exact ⟨rfl, (HALL.out.trans HCz.out (fun _ _ h => h)).no_below⟩
        · have e3 : (k2 == 3) = false := by simpa using h3
          have hsame : k3 = k2 ∧ n3 = n2 ∧ out3 = out2 := by
            rcases HR2.out with ⟨rfl, b, _, rfl, hr2⟩ | ⟨hk, rfl, rfl, hr2⟩
            · have h1 := hr2.more hac (fun h => by cases h)
              rcases HR3.out with ⟨rfl, b3, _, rfl, hr3⟩ | ⟨_, _, _, hr3⟩
              · have h2 := h1.one hr3
                injection h2 with h2 h4
                subst h2 h4
                exact ⟨rfl, rfl, rfl⟩
              · cases h1.one hr3
            · have h1 := hr2.more hac (fun h => by injection h with h; exact h3 h)
              rcases HR3.out with ⟨_, b3, _, _, hr3⟩ | ⟨_, rfl, rfl, hr3⟩
              · cases h1.one hr3
              · have h2 := h1.one hr3
                injection h2 with h2
                exact ⟨h2.symm, rfl, rfl⟩
          obtain ⟨rfl, rfl, rfl⟩ := hsame
          have hcv2 := convert_own (own_chg HO2.out HC3.out (fun _ _ h => h))
          have hcv3 := convert_own HO3.out
          obtain ⟨s, hs⟩ : ∃ s, s = bstr out3 := ⟨_, rfl⟩
          rw [← hs] at hcv2 hcv3
          clear hs
          go_wp2_with (go_at_call 7; refine (works_any5 _).mono ?_; rintro e wz ⟨rfl, hcz⟩; have HCz := keepf hcz; clear hcz)
          go_ret
          exact ⟨rfl, (HALL.out.trans HCz.out (fun _ _ h => h)).no_below⟩
      · have d3 : decide ((2000 : Int) < c) = true := by simp; omega
        have d3' : decide (2000 < c) = true := by simp; omega
        go_enter Try.func6, Try.ntmps6
        go_wp2_with (go_at_call 7; refine (works_any5 _).mono ?_; rintro e wz ⟨rfl, hcz⟩; have HCz := keepf hcz; clear hcz)
        go_ret
        exact ⟨rfl, HCz.out.no_below⟩
    · have d2 : decide ((c : Int) < a) = true := by simp; omega
      have d2' : decide (c < a) = true := by simp; omega
      go_enter Try.func6, Try.ntmps6
      go_wp2_with (go_at_call 7; refine (works_any5 _).mono ?_; rintro e wz ⟨rfl, hcz⟩; have HCz := keepf hcz; clear hcz)
      go_ret
      exact ⟨rfl, HCz.out.no_below⟩
  · have d1 : decide ((300 : Int) < bs.length) = true := by simp; omega
    have d1' : decide (300 < bs.length) = true := by simp; omega
    go_enter Try.func6, Try.ntmps6
    go_wp2_with (go_at_call 7; refine (works_any5 _).mono ?_; rintro e wz ⟨rfl, hcz⟩; have HCz := keepf hcz; clear hcz)
    go_ret
    exact ⟨rfl, HCz.out.no_below⟩


set_option maxRecDepth 100000 in
theorem lifted (os : Os) (started : os.Started) (H : Type) (enc : TypeId × Value → H) :
    ReturnsInHanded {} Try.checked os 6 .any (Rows.inflateMostSpec.pre6 enc Try.prog Try.f6 Rows.inflateMostRow.domain false) (Rows.inflateMostSpec.post enc Try.prog Try.f6 false true false false) := by
  refine returnsInHanded_of_change (C := Try.checked) own started (by kernel_rfl) Try.func6
    (ChangeSpec.witness6 (enc := enc) (C := Try.checked) false ⟨#[], #[.slice none 0 0, .int .u16 0, .int .u16 0], []⟩ 8 (by kernel_rfl) (by kernel_rfl) (by kernel_rfl) (by kernel_rfl)) ?_
  intro W base args ds gs before hval0 hW hcnd _
  have hval : ∀ (j : Nat) t v, Try.f6.params[j]? = some t → args[j]? = some v → Value.okWide Try.prog W .any base t v := hval0
  have hW' := hW
  obtain ⟨p, q, hA0, hV, rfl, hfz, hnd⟩ := hW
  have hA : DataW.TrodAll enc Try.prog W 0 (fun _ => true) true Try.f6.params.toList args.toList ds p := hA0
  rw [Try.params6] at hA hval
  obtain ⟨v0, vs0, d0, ds0, p0, q0, hargs, rfl, rfl, h0, r0⟩ := trodAll_cons hA
  obtain ⟨v1, vs1, d1, ds1, p1, q1, rfl, rfl, rfl, h1, r1⟩ := trodAll_cons r0
  obtain ⟨v2, vs2, d2, ds2, p2, q2, rfl, rfl, rfl, h2, r2⟩ := trodAll_cons r1
  obtain ⟨rfl, rfl, rfl⟩ := trodAll_nil r2
  obtain rfl : args = #[v0, v1, v2] := by cases args; simp_all
  obtain ⟨rfl, rfl⟩ := trodVars_none hV
  obtain ⟨a0, len0, cap0, rfl⟩ := okWide_slice Try.underlying22 (hval 0 22 v0 rfl rfl)
  have k0 := h0
  have lt0 : ∀ x ∈ p0, x.block < W.heap.size := by obtain ⟨m, hm⟩ := k0; exact DataW.trod_lt m _ _ _ hm
  obtain ⟨hm0, xs0, hl0, hS0, hg0⟩ : len0 ≤ maxLen ∧ ∃ xs : List Nat, xs.length = len0 ∧ Src W 1 a0 len0 cap0 (xs.flatMap encU) ∧ ∀ b ∈ xs, (fun p : Nat => p < 256) b := by
    obtain ⟨fuel, hf⟩ := h0
    exact open_rows encU (fun p : Nat => p < 256) 1 Try.underlying22 (by kernel_rfl) (fun _ => rfl) (fun n cs y h _ => byte_elU h) (by simpa [Value.cells] using hf)
  obtain ⟨a1, rfl, rfl, rfl, w1⟩ := open_int Try.underlying38 (hval 1 38 v1 rfl rfl) h1
  obtain ⟨a2, rfl, rfl, rfl, w2⟩ := open_int Try.underlying38 (hval 2 38 v2 rfl rfl) h2
  clear hA0 hval0
  refine (walk a0 len0 cap0 xs0 a1 a2 W hl0 hm0 hS0 hg0 w1 w2).mono fun e W' ⟨he, bel⟩ => ?_
  subst he
  exact ⟨_, rfl, _, _, _, [], _, [], hW', trodAll_mk1 (shut_bool Try.underlying4 _), (trodAll_cons_mk (Below.trod laidOut (by kernel_rfl) (of_decide_eq_true (by kernel_rfl)) k0 bel lt0) (trodAll_cons_mk (shut_int Try.underlying38 w1) (trodAll_cons_mk (shut_int Try.underlying38 w2) trodAll_mk0))), rfl, bel.frame _, fun h => by cases h⟩

theorem over : Rows.inflateMostRow.holds Try.pinned (OpenSpec.ofChange Rows.inflateMostSpec) :=
  OpenClaim.holds_of_wide 6 Try.f6 rfl rfl rfl rfl rfl rfl rfl ⟨rfl, rfl, rfl, rfl, rfl⟩ rfl rfl rfl rfl rfl (by kernel_rfl) Try.func6 (by kernel_rfl)
    (of_decide_eq_true (by kernel_rfl)) (by unfold Func.isWrapper; first | (rw [if_pos (by decide +kernel)]; kernel_rfl) | (rw [if_neg (by decide +kernel)]; exact ⟨rfl, rfl⟩))
    (fun os started H enc _ => lifted os started H enc)

theorem proved : Rows.InflateMostSaid := over
#print axioms proved
end Go.Proofs.Ytbdnhhhagpgibaa.imost
