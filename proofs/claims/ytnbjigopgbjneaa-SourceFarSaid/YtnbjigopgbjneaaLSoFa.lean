/- 'SourceFar': for every input the statement's function returns true: into any file, at any place, bytes are put, and read, or the error is told. Conditions: none. -/
import Derived.Test.YtnbjigopgbjneaaSoFw
import Derived.Test.YtnbjigopgbjneaaLexIn
import Derived.Test.YtnbjigopgbjneaaRows
import Derived.OpenShut
import Derived.ChangeOld
import Derived.Lib.SmallJoins
namespace Go.Proofs.Ytnbjigopgbjneaa.sofar
open Go.RowKit Go.ChangeShapes Go.WideShapes Go.ChangeAt
set_option linter.unusedVariables false

theorem own : ownKnob Try.prog.godebug = none := by kernel_rfl

theorem laidOut : laidOutB Try.prog = true := by kernel_rfl

theorem walk (n p : Int) (A : Option Addr) (len cap : Nat) (bs : List Nat) (w : World) (wn : (Lit.int .i64 n).wf = true) (wp : (Lit.int .i64 p).wf = true) (hl : bs.length = len) (hm : len ≤ maxLen) (hS : Src w 1 A len cap (bs.flatMap encL)) (hg : ∀ b ∈ bs, b < 256) (hc : len ≤ cap) :
    Calls Try.prog 5 #[.int .i64 n, .int .i64 p, .slice A len cap] w fun e w' => e = .returned (.bool true) ∧ Below w.heap.size w w' := by
  rw [flat_bytesL] at hS
  suffices h : Calls Try.prog 5 #[.int .i64 n, .int .i64 p, .slice A len cap] w (OnlyTo w (.bool true)) from h.mono fun e w' h => ⟨h.1, h.2.no_below⟩
  by_cases h0 : n < 0 ∨ 2147483647 < n
  · exact far_none A len cap n p w h0
  · obtain ⟨m, rfl⟩ : ∃ m : Nat, n = m := ⟨n.toNat, by omega⟩
    by_cases h1 : 10000 < len
    · exact far_great A len cap m p w (by omega) h1
    · cases h2 : hasP m p with
      | false => exact far_arg A len cap m p w (by omega) (by omega) h2
      | true =>
        simp [hasP] at h2
        obtain ⟨x, rfl⟩ : ∃ x : Nat, p = x := ⟨p.toNat, by omega⟩
        by_cases h3 : m < x + len
        · exact far_rng A len cap m x w (by omega) (by omega) (by omega) h3
        · exact far_ok A len cap m x bs w hS hl hc (by omega) (by omega) (by omega)


set_option maxRecDepth 100000 in
theorem lifted (os : Os) (started : os.Started) (H : Type) (enc : TypeId × Value → H) :
    ReturnsInHanded {} Try.checked os 5 .any (Rows.sourceFarSpec.pre6 enc Try.prog Try.f5 Rows.sourceFarRow.domain false) (Rows.sourceFarSpec.post enc Try.prog Try.f5 false true false false) := by
  refine returnsInHanded_of_change (C := Try.checked) own started (by kernel_rfl) Try.func5
    (ChangeSpec.witness6 (enc := enc) (C := Try.checked) false ⟨#[], #[.int .i64 0, .int .i64 0, .slice none 0 0], []⟩ 8 (by kernel_rfl) (by kernel_rfl) (by kernel_rfl) (by kernel_rfl)) ?_
  intro W base args ds gs before hval0 hW hcnd _
  have hval : ∀ (j : Nat) t v, Try.f5.params[j]? = some t → args[j]? = some v → Value.okWide Try.prog W .any base t v := hval0
  have hW' := hW
  obtain ⟨p, q, hA0, hV, rfl, hfz, hnd⟩ := hW
  have hA : DataW.TrodAll enc Try.prog W 0 (fun _ => true) true Try.f5.params.toList args.toList ds p := hA0
  rw [Try.params5] at hA hval
  obtain ⟨v0, vs0, d0, ds0, p0, q0, hargs, rfl, rfl, h0, r0⟩ := trodAll_cons hA
  obtain ⟨v1, vs1, d1, ds1, p1, q1, rfl, rfl, rfl, h1, r1⟩ := trodAll_cons r0
  obtain ⟨v2, vs2, d2, ds2, p2, q2, rfl, rfl, rfl, h2, r2⟩ := trodAll_cons r1
  obtain ⟨rfl, rfl, rfl⟩ := trodAll_nil r2
  obtain rfl : args = #[v0, v1, v2] := by cases args; simp_all
  obtain ⟨rfl, rfl⟩ := trodVars_none hV
  obtain ⟨a0, rfl, rfl, rfl, w0⟩ := open_int Try.underlying3 (hval 0 3 v0 rfl rfl) h0
  obtain ⟨a1, rfl, rfl, rfl, w1⟩ := open_int Try.underlying3 (hval 1 3 v1 rfl rfl) h1
  obtain ⟨a2, len2, cap2, rfl⟩ := okWide_slice Try.underlying30 (hval 2 30 v2 rfl rfl)
  have k2 := h2
  have lt2 : ∀ x ∈ p2, x.block < W.heap.size := by obtain ⟨m, hm⟩ := k2; exact DataW.trod_lt m _ _ _ hm
  obtain ⟨hm2, xs2, hl2, hS2, hg2⟩ : len2 ≤ maxLen ∧ ∃ xs : List Nat, xs.length = len2 ∧ Src W 1 a2 len2 cap2 (xs.flatMap encL) ∧ ∀ b ∈ xs, (fun p : Nat => p < 256) b := by
    obtain ⟨fuel, hf⟩ := h2
    exact open_rows encL (fun p : Nat => p < 256) 1 Try.underlying30 (by kernel_rfl) (fun _ => rfl) (fun n cs y h _ => byte_elL h) (by simpa [Value.cells] using hf)
  have hc2 : len2 ≤ cap2 := by
    obtain ⟨fuel, hf⟩ := h2
    exact open_capL Try.underlying30 (by simpa [Value.cells] using hf)
  clear hA0 hval0
  refine (walk a0 a1 a2 len2 cap2 xs2 W w0 w1 hl2 hm2 hS2 hg2 hc2).mono fun e W' ⟨he, bel⟩ => ?_
  subst he
  exact ⟨_, rfl, _, _, _, [], _, [], hW', trodAll_mk1 (shut_bool Try.underlying4 _), (trodAll_cons_mk (shut_int Try.underlying3 w0) (trodAll_cons_mk (shut_int Try.underlying3 w1) (trodAll_cons_mk (Below.trod laidOut (by kernel_rfl) (of_decide_eq_true (by kernel_rfl)) k2 bel lt2) trodAll_mk0))), rfl, bel.frame _, fun h => by cases h⟩

theorem over : Rows.sourceFarRow.holds Try.pinned (OpenSpec.ofChange Rows.sourceFarSpec) :=
  OpenClaim.holds_of_wide 5 Try.f5 rfl rfl rfl rfl rfl rfl rfl ⟨rfl, rfl, rfl, rfl, rfl⟩ rfl rfl rfl rfl rfl (by kernel_rfl) Try.func5 (by kernel_rfl)
    (of_decide_eq_true (by kernel_rfl)) (by unfold Func.isWrapper; first | (rw [if_pos (by decide +kernel)]; kernel_rfl) | (rw [if_neg (by decide +kernel)]; exact ⟨rfl, rfl⟩))
    (fun os started H enc _ => lifted os started H enc)

theorem proved : Rows.SourceFarSaid := over
#print axioms proved

end Go.Proofs.Ytnbjigopgbjneaa.sofar
