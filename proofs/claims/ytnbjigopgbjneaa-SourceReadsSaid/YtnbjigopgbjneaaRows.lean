/-
  No cell of these rows narrows 'for every input' (looked for: loops, veiled, ifaces, maps, wideKeys, modest, calm, conditions, laid).
  DERIVED. THE GIVEN ROWS OF THIS SEAT. 4 by the template 'for every input the law returns true; each argument reads behind the call as it read before'; 0 by the template 'total and deterministic' (their statements: YtnbjigopgbjneaaTotals.lean).
  GIVEN WITH THE SEED: the statements are not yours to turn. If you find one false, say at which input.
  Laid BY PROGRAM, IN A SANDBOX (cutbox-rows.mjs): the forced cells as the released guide's own fill.sh prints them over the translation d827151bbea85bbc… (all of the seat's roots in one cut). By AI agents, Wed Nov 11 2026. No macro, syntax, notation, axiom, sorry.
-/
import Derived.Test.YtnbjigopgbjneaaChecked
import GoSem.Claim
import GoSem.ClaimJoined
import GoSem.ClaimMapViews
import Derived.JoinedTies
import Derived.KernelRfl
namespace Go.Proofs.Ytnbjigopgbjneaa
/- THE CELL 'sum', in the pinned program and in every row, IS THE sha256 OF THE DUMP (.gsa) THAT YtnbjigopgbjneaaProg.lean LOADS. Nothing in Lean hashes anything: it is a label: what it is worth is what the hold of that sum in a sandbox is worth. -/
noncomputable def Try.pinned : Pinned := { name := "ytnbjigopgbjneaa", sum := "d827151bbea85bbcb1b7de6cbe0551ae4878c272a5b05a6a65de173e7550ce4c", checked := Try.checked }
namespace Rows
def none {H : Type} : Left H := { results := [], args := [] }

/-- 'catchwordlaw16.SourceReads': WHATEVER THE INPUT: true; the input reads as it did. -/
def sourceReadsSpec : ChangeSpec := { name := "sourceReads", fn := fun _ => fun
  | [d1, d2] => { results := [.lit (.bool true)], args := [d1, d2] }
  | _ => none }
def sourceReadsRow : OpenClaim := { program := "ytnbjigopgbjneaa", sum := "d827151bbea85bbcb1b7de6cbe0551ae4878c272a5b05a6a65de173e7550ce4c", func := "catchword/catchwordlaw16.SourceReads", spec := "sourceReads", unfollowed := true, recurses := true, apart := false }
def SourceReadsSaid : Prop := sourceReadsRow.holds Try.pinned (OpenSpec.ofChange sourceReadsSpec)

/-- ITS FALSE NEIGHBOUR: 'it returns false'. Refute it at one input. -/
def sourceReadsWrong : ChangeSpec := { name := "sourceReads", fn := fun _ => fun
  | [d1, d2] => { results := [.lit (.bool false)], args := [d1, d2] }
  | _ => none }
def SourceReadsWrongFalsely : Prop := sourceReadsRow.holds Try.pinned (OpenSpec.ofChange sourceReadsWrong)

/-- 'catchwordlaw16.SourceWhole': WHATEVER THE INPUT: true; the input reads as it did. -/
def sourceWholeSpec : ChangeSpec := { name := "sourceWhole", fn := fun _ => fun
  | [d1, d2, d3] => { results := [.lit (.bool true)], args := [d1, d2, d3] }
  | _ => none }
def sourceWholeRow : OpenClaim := { program := "ytnbjigopgbjneaa", sum := "d827151bbea85bbcb1b7de6cbe0551ae4878c272a5b05a6a65de173e7550ce4c", func := "catchword/catchwordlaw16.SourceWhole", spec := "sourceWhole", unfollowed := true, recurses := true, apart := false }
def SourceWholeSaid : Prop := sourceWholeRow.holds Try.pinned (OpenSpec.ofChange sourceWholeSpec)

/-- ITS FALSE NEIGHBOUR: 'it returns false'. Refute it at one input. -/
def sourceWholeWrong : ChangeSpec := { name := "sourceWhole", fn := fun _ => fun
  | [d1, d2, d3] => { results := [.lit (.bool false)], args := [d1, d2, d3] }
  | _ => none }
def SourceWholeWrongFalsely : Prop := sourceWholeRow.holds Try.pinned (OpenSpec.ofChange sourceWholeWrong)

/-- 'catchwordlaw16.SourceFar': WHATEVER THE INPUT: true; the input reads as it did. -/
def sourceFarSpec : ChangeSpec := { name := "sourceFar", fn := fun _ => fun
  | [d1, d2, d3] => { results := [.lit (.bool true)], args := [d1, d2, d3] }
  | _ => none }
def sourceFarRow : OpenClaim := { program := "ytnbjigopgbjneaa", sum := "d827151bbea85bbcb1b7de6cbe0551ae4878c272a5b05a6a65de173e7550ce4c", func := "catchword/catchwordlaw16.SourceFar", spec := "sourceFar", unfollowed := true, recurses := true, apart := false }
def SourceFarSaid : Prop := sourceFarRow.holds Try.pinned (OpenSpec.ofChange sourceFarSpec)

/-- ITS FALSE NEIGHBOUR: 'it returns false'. Refute it at one input. -/
def sourceFarWrong : ChangeSpec := { name := "sourceFar", fn := fun _ => fun
  | [d1, d2, d3] => { results := [.lit (.bool false)], args := [d1, d2, d3] }
  | _ => none }
def SourceFarWrongFalsely : Prop := sourceFarRow.holds Try.pinned (OpenSpec.ofChange sourceFarWrong)

/-- 'catchwordlaw16.SourceOrder': WHATEVER THE INPUT: true; the input reads as it did. -/
def sourceOrderSpec : ChangeSpec := { name := "sourceOrder", fn := fun _ => fun
  | [d1, d2, d3] => { results := [.lit (.bool true)], args := [d1, d2, d3] }
  | _ => none }
def sourceOrderRow : OpenClaim := { program := "ytnbjigopgbjneaa", sum := "d827151bbea85bbcb1b7de6cbe0551ae4878c272a5b05a6a65de173e7550ce4c", func := "catchword/catchwordlaw16.SourceOrder", spec := "sourceOrder", unfollowed := true, recurses := true, apart := false }
def SourceOrderSaid : Prop := sourceOrderRow.holds Try.pinned (OpenSpec.ofChange sourceOrderSpec)

/-- ITS FALSE NEIGHBOUR: 'it returns false'. Refute it at one input. -/
def sourceOrderWrong : ChangeSpec := { name := "sourceOrder", fn := fun _ => fun
  | [d1, d2, d3] => { results := [.lit (.bool false)], args := [d1, d2, d3] }
  | _ => none }
def SourceOrderWrongFalsely : Prop := sourceOrderRow.holds Try.pinned (OpenSpec.ofChange sourceOrderWrong)

/- THE SECOND FORM. 'bulk': how many values and letters a reading holds, each counted each time it is reached (what is shared counts as often as it is met; a slice's spare places count too). A statement '..UptoSaid' is the law's where the arguments, and the package variables that the reading takes, are together of bulk at most 1048576: NARROWER than '..Said'. Prove '..Said' where nothing that the law and all that it calls make is longer than what came in: it says more and counts as full. Else prove '..UptoSaid'. A law counts once. -/
mutual
def uptoBulk {H : Type} : DataW H → Nat
  | .lit (.string bytes) => bytes.length + 1
  | .lit _ => 1
  | .nil => 1
  | .ptr d => uptoBulk d + 1
  | .slice elems spare => uptoBulkAll elems + uptoBulkAll spare + 1
  | .agg parts => uptoBulkAll parts + 1
  | .iface _ d => uptoBulk d + 1
  | .map entries => uptoBulkEntries entries + 1
  | .held _ => 1
def uptoBulkAll {H : Type} : List (DataW H) → Nat
  | [] => 0
  | d :: r => uptoBulk d + uptoBulkAll r
def uptoBulkEntries {H : Type} : List (Lit × DataW H) → Nat
  | [] => 0
  | x :: r => uptoBulkEntry x + uptoBulkEntries r
def uptoBulkEntry {H : Type} : Lit × DataW H → Nat
  | (.string bytes, d) => bytes.length + uptoBulk d + 1
  | (_, d) => uptoBulk d + 1
 end
def uptoSmall : (H : Type) → List (DataW H) → Bool := fun _ ds => decide (uptoBulkAll ds ≤ 1048576)
def OpenSpec.upto (s : _root_.Go.ChangeSpec) : _root_.Go.OpenSpec := { _root_.Go.OpenSpec.ofChange s with cond := some uptoSmall }

/-- 'catchwordlaw16.SourceReads', WHERE WHAT IT READS IS OF BULK AT MOST 1048576: true; the input reads as it did. -/
def sourceReadsUptoRow : OpenClaim := { program := "ytnbjigopgbjneaa", sum := "d827151bbea85bbcb1b7de6cbe0551ae4878c272a5b05a6a65de173e7550ce4c", func := "catchword/catchwordlaw16.SourceReads", spec := "sourceReads", unfollowed := true, recurses := true, apart := false, narrowed := true }
def SourceReadsUptoSaid : Prop := sourceReadsUptoRow.holds Try.pinned (OpenSpec.upto sourceReadsSpec)

/-- 'catchwordlaw16.SourceWhole', WHERE WHAT IT READS IS OF BULK AT MOST 1048576: true; the input reads as it did. -/
def sourceWholeUptoRow : OpenClaim := { program := "ytnbjigopgbjneaa", sum := "d827151bbea85bbcb1b7de6cbe0551ae4878c272a5b05a6a65de173e7550ce4c", func := "catchword/catchwordlaw16.SourceWhole", spec := "sourceWhole", unfollowed := true, recurses := true, apart := false, narrowed := true }
def SourceWholeUptoSaid : Prop := sourceWholeUptoRow.holds Try.pinned (OpenSpec.upto sourceWholeSpec)

/-- 'catchwordlaw16.SourceFar', WHERE WHAT IT READS IS OF BULK AT MOST 1048576: true; the input reads as it did. -/
def sourceFarUptoRow : OpenClaim := { program := "ytnbjigopgbjneaa", sum := "d827151bbea85bbcb1b7de6cbe0551ae4878c272a5b05a6a65de173e7550ce4c", func := "catchword/catchwordlaw16.SourceFar", spec := "sourceFar", unfollowed := true, recurses := true, apart := false, narrowed := true }
def SourceFarUptoSaid : Prop := sourceFarUptoRow.holds Try.pinned (OpenSpec.upto sourceFarSpec)

/-- 'catchwordlaw16.SourceOrder', WHERE WHAT IT READS IS OF BULK AT MOST 1048576: true; the input reads as it did. -/
def sourceOrderUptoRow : OpenClaim := { program := "ytnbjigopgbjneaa", sum := "d827151bbea85bbcb1b7de6cbe0551ae4878c272a5b05a6a65de173e7550ce4c", func := "catchword/catchwordlaw16.SourceOrder", spec := "sourceOrder", unfollowed := true, recurses := true, apart := false, narrowed := true }
def SourceOrderUptoSaid : Prop := sourceOrderUptoRow.holds Try.pinned (OpenSpec.upto sourceOrderSpec)

end Rows
end Go.Proofs.Ytnbjigopgbjneaa
