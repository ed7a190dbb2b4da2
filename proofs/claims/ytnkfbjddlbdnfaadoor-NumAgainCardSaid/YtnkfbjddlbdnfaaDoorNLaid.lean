/- What the library reads of the world holds where the row's list is met and the world has its shape. -/
import Derived.Test.YtnkfbjddlbdnfaaDoorNLib
import Derived.Test.YtnkfbjddlbdnfaaDoorShelf
import Derived.Test.YtnkfbjddlbdnfaaDoorRows
import Derived.Lib.LaidTab
import Derived.MakeChecks
namespace Go.Proofs.YtnkfbjddlbdnfaaDoor
open Go.RowKit Go.Lib
set_option linter.unusedVariables false

theorem tab_of_reads {P : Program} {W : World} {name : String} {k : IntKind} {zs : List Int} {g : Nat} {t e : TypeId} {n : Nat}
    (hg : P.globalNamed name = some g) (hty : (P.globals[g]?).map (·.type) = some t) (ht : P.underlying t = some (.array n e)) (he : P.underlying e = some (.int k)) (hce : P.cellsOf e = 1) (hct : P.cellsOf t = n)
    (h : ∃ g' t' cs fuel p, P.globalNamed name = some g' ∧ (P.globals[g']?).map (·.type) = some t' ∧ W.var? P name = some cs ∧ DataW.trod (fun _ => ()) P W 0 (fun _ => true) false fuel t' cs.toList = some (tabData k zs, p)) : TabIs P W name k zs := by
  obtain ⟨g', t', cs, fuel, p, hg', ht', hvar, hd⟩ := h
  obtain rfl := Option.some.inj (hg.symm.trans hg')
  obtain rfl := Option.some.inj (hty.symm.trans ht')
  unfold TabIs
  rw [hvar, ← cells_of_tab ht he hce hct hd]

theorem lib_ok {W : World} (hL : laidMetH Tryd.prog Rows.numParsesRow.laid W) (hsh : W.ShapedOpen Tryd.prog) : LibOk W := by
  rw [MakeChecks.laidMetH_plain _ _ _ (by kernel_rfl)] at hL
  obtain ⟨ps, hv, _⟩ := hL
  obtain ⟨_, _, _, _, _, _, _, _, _, _, hv, _⟩ := hv
  obtain ⟨_, _, _, _, _, _, _, _, _, _, hv, _⟩ := hv
  obtain ⟨g, t, cs, fuel, p, q, h1, h2, h3, h4, _⟩ := hv
  have hr : ∃ g' t' cs fuel p, Tryd.prog.globalNamed "internal/strconv.uint64pow10" = some g' ∧ (Tryd.prog.globals[g']?).map (·.type) = some t' ∧ W.var? Tryd.prog "internal/strconv.uint64pow10" = some cs ∧ DataW.trod (fun _ => ()) Tryd.prog W 0 (fun _ => true) false fuel t' cs.toList = some (tabData .u64 pow10Tab, p) := ⟨g, t, cs, fuel, p, h1, h2, h3, h4⟩
  exact ⟨tab_of_reads (g := 1) (t := 103) (e := 86) (n := 20) (by kernel_rfl) (by kernel_rfl) Tryd.underlying103 Tryd.underlying86 (by kernel_rfl) (by kernel_rfl) hr, Go.Proofs.Tryd.laysM145.s1_3 W hsh⟩
end Go.Proofs.YtnkfbjddlbdnfaaDoor
