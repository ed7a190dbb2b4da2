/- 'SourceReads': for every input the statement's function returns true: whatever is put into a file, step by step, what is known, and what is read, is as the document says. Conditions: none. -/
import Derived.Test.YtnbjigopgbjneaaSoRw
import Derived.Test.YtnbjigopgbjneaaLexIn
import Derived.Test.YtnbjigopgbjneaaRows
import Derived.OpenShut
import Derived.ChangeOld
import Derived.Lib.SmallJoins
namespace Go.Proofs.Ytnbjigopgbjneaa.soreads
open Go.RowKit Go.ChangeShapes Go.WideShapes Go.ChangeAt
set_option linter.unusedVariables false

theorem own : ownKnob Try.prog.godebug = none := by kernel_rfl

theorem laidOut : laidOutB Try.prog = true := by kernel_rfl

theorem walk (n : Int) (B : Option Addr) (nl cl : Nat) (xs : List StS) (w : World) (wn : (Lit.int .i64 n).wf = true) (hxl : xs.length = nl) (hxm : nl ≤ maxLen) (hX : Src w 4 B nl cl (xs.flatMap encSt)) (hxa : ∀ x ∈ xs, StAt w x) :
    Calls Try.prog 3 #[.int .i64 n, .slice B nl cl] w fun e w' => e = .returned (.bool true) ∧ Below w.heap.size w w' := by
  suffices h : Calls Try.prog 3 #[.int .i64 n, .slice B nl cl] w (OnlyTo w (.bool true)) from h.mono fun e w' h => ⟨h.1, h.2.no_below⟩
  by_cases h0 : n < 0 ∨ 2147483647 < n
  · exact reads_none B nl cl n w h0
  · obtain ⟨m, rfl⟩ : ∃ m : Nat, n = m := ⟨n.toNat, by omega⟩
    by_cases h1 : 200 < m ∨ 30 < nl
    · exact reads_great B nl cl m w (by omega) h1
    · exact reads_ok B nl cl m xs w hX hxl hxa (by omega) (by omega)


set_option maxRecDepth 100000 in
theorem lifted (os : Os) (started : os.Started) (H : Type) (enc : TypeId × Value → H) :
    ReturnsInHanded {} Try.checked os 3 .any (Rows.sourceReadsSpec.pre6 enc Try.prog Try.f3 Rows.sourceReadsRow.domain false) (Rows.sourceReadsSpec.post enc Try.prog Try.f3 false true false false) := by
  refine returnsInHanded_of_change (C := Try.checked) own started (by kernel_rfl) Try.func3
    (ChangeSpec.witness6 (enc := enc) (C := Try.checked) false ⟨#[], #[.int .i64 0, .slice none 0 0], []⟩ 8 (by kernel_rfl) (by kernel_rfl) (by kernel_rfl) (by kernel_rfl)) ?_
  intro W base args ds gs before hval0 hW hcnd _
  have hval : ∀ (j : Nat) t v, Try.f3.params[j]? = some t → args[j]? = some v → Value.okWide Try.prog W .any base t v := hval0
  have hW' := hW
  obtain ⟨p, q, hA0, hV, rfl, hfz, hnd⟩ := hW
  have hA : DataW.TrodAll enc Try.prog W 0 (fun _ => true) true Try.f3.params.toList args.toList ds p := hA0
  rw [Try.params3] at hA hval
  obtain ⟨v0, vs0, d0, ds0, p0, q0, hargs, rfl, rfl, h0, r0⟩ := trodAll_cons hA
  obtain ⟨v1, vs1, d1, ds1, p1, q1, rfl, rfl, rfl, h1, r1⟩ := trodAll_cons r0
  obtain ⟨rfl, rfl, rfl⟩ := trodAll_nil r1
  obtain rfl : args = #[v0, v1] := by cases args; simp_all
  obtain ⟨rfl, rfl⟩ := trodVars_none hV
  obtain ⟨a0, rfl, rfl, rfl, w0⟩ := open_int Try.underlying3 (hval 0 3 v0 rfl rfl) h0
  obtain ⟨a1, len1, cap1, rfl⟩ := okWide_slice Try.underlying22 (hval 1 22 v1 rfl rfl)
  have k1 := h1
  have lt1 : ∀ x ∈ p1, x.block < W.heap.size := by obtain ⟨m, hm⟩ := k1; exact DataW.trod_lt m _ _ _ hm
  obtain ⟨hm1, xs1, hl1, hS1, hg1⟩ : len1 ≤ maxLen ∧ ∃ xs : List StS, xs.length = len1 ∧ Src W 4 a1 len1 cap1 (xs.flatMap encSt) ∧ ∀ b ∈ xs, (fun x : StS => StAt W x) b := by
    obtain ⟨fuel, hf⟩ := h1
    exact open_rows encSt (fun x : StS => StAt W x) 4 Try.underlying22 (by kernel_rfl) (fun _ => rfl) (fun n cs y h _ => step_el h) (by simpa [Value.cells] using hf)
  clear hA0 hval0
  refine (walk a0 a1 len1 cap1 xs1 W w0 hl1 hm1 hS1 hg1).mono fun e W' ⟨he, bel⟩ => ?_
  subst he
  exact ⟨_, rfl, _, _, _, [], _, [], hW', trodAll_mk1 (shut_bool Try.underlying4 _), (trodAll_cons_mk (shut_int Try.underlying3 w0) (trodAll_cons_mk (Below.trod laidOut (by kernel_rfl) (of_decide_eq_true (by kernel_rfl)) k1 bel lt1) trodAll_mk0)), rfl, bel.frame _, fun h => by cases h⟩

theorem over : Rows.sourceReadsRow.holds Try.pinned (OpenSpec.ofChange Rows.sourceReadsSpec) :=
  OpenClaim.holds_of_wide 3 Try.f3 rfl rfl rfl rfl rfl rfl rfl ⟨rfl, rfl, rfl, rfl, rfl⟩ rfl rfl rfl rfl rfl (by kernel_rfl) Try.func3 (by kernel_rfl)
    (of_decide_eq_true (by kernel_rfl)) (by unfold Func.isWrapper; first | (rw [if_pos (by decide +kernel)]; kernel_rfl) | (rw [if_neg (by decide +kernel)]; exact ⟨rfl, rfl⟩))
    (fun os started H enc _ => lifted os started H enc)

theorem proved : Rows.SourceReadsSaid := over
#print axioms proved

end Go.Proofs.Ytnbjigopgbjneaa.soreads
