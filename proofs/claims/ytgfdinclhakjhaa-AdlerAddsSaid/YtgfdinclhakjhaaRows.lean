/-
  No cell of these rows narrows 'for every input' (looked for: loops, veiled, ifaces, maps, wideKeys, modest, calm, conditions, laid).
  DERIVED. THE GIVEN ROWS OF THIS SEAT. 4 by the template 'for every input the law returns true; each argument reads behind the call as it read before'; 0 by the template 'total and deterministic' (their statements: YtgfdinclhakjhaaTotals.lean).
  GIVEN WITH THE SEED: the statements are not yours to turn. If you find one false, say at which input.
  Laid BY PROGRAM, IN A SANDBOX (cutbox-rows.mjs): the forced cells as the released guide's own fill.sh prints them over the translation c8976d0e8d4b70dd… (all of the seat's roots in one cut). By AI agents, Wed Nov 11 2026. No macro, syntax, notation, axiom, sorry.
-/
import Derived.Test.YtgfdinclhakjhaaChecked
import GoSem.Claim
import GoSem.ClaimJoined
import GoSem.ClaimMapViews
import Derived.JoinedTies
import Derived.KernelRfl
namespace Go.Proofs.Ytgfdinclhakjhaa
/- THE CELL 'sum', in the pinned program and in every row, IS THE sha256 OF THE DUMP (.gsa) THAT YtgfdinclhakjhaaProg.lean LOADS. Nothing in Lean hashes anything: it is a label: what it is worth is what the hold of that sum in a sandbox is worth. -/
noncomputable def Try.pinned : Pinned := { name := "ytgfdinclhakjhaa", sum := "c8976d0e8d4b70ddb2da18fdf51fb91ec74d61f0578a5b880a03bc234c580057", checked := Try.checked }
namespace Rows
def none {H : Type} : Left H := { results := [], args := [] }

/-- 'catchwordlaw03.AdlerSums': WHATEVER THE INPUT: true; the input reads as it did. -/
def adlerSumsSpec : ChangeSpec := { name := "adlerSums", fn := fun _ => fun
  | [d] => { results := [.lit (.bool true)], args := [d] }
  | _ => none }
def adlerSumsRow : OpenClaim := { program := "ytgfdinclhakjhaa", sum := "c8976d0e8d4b70ddb2da18fdf51fb91ec74d61f0578a5b880a03bc234c580057", func := "catchword/catchwordlaw03.AdlerSums", spec := "adlerSums", unfollowed := true, recurses := true, apart := false }
def AdlerSumsSaid : Prop := adlerSumsRow.holds Try.pinned (OpenSpec.ofChange adlerSumsSpec)

/-- ITS FALSE NEIGHBOUR: 'it returns false'. Refute it at one input. -/
def adlerSumsWrong : ChangeSpec := { name := "adlerSums", fn := fun _ => fun
  | [d] => { results := [.lit (.bool false)], args := [d] }
  | _ => none }
def AdlerSumsWrongFalsely : Prop := adlerSumsRow.holds Try.pinned (OpenSpec.ofChange adlerSumsWrong)

/-- 'catchwordlaw03.AdlerAdds': WHATEVER THE INPUT: true; the input reads as it did. -/
def adlerAddsSpec : ChangeSpec := { name := "adlerAdds", fn := fun _ => fun
  | [d] => { results := [.lit (.bool true)], args := [d] }
  | _ => none }
def adlerAddsRow : OpenClaim := { program := "ytgfdinclhakjhaa", sum := "c8976d0e8d4b70ddb2da18fdf51fb91ec74d61f0578a5b880a03bc234c580057", func := "catchword/catchwordlaw03.AdlerAdds", spec := "adlerAdds", unfollowed := true, recurses := true, apart := false }
def AdlerAddsSaid : Prop := adlerAddsRow.holds Try.pinned (OpenSpec.ofChange adlerAddsSpec)

/-- ITS FALSE NEIGHBOUR: 'it returns false'. Refute it at one input. -/
def adlerAddsWrong : ChangeSpec := { name := "adlerAdds", fn := fun _ => fun
  | [d] => { results := [.lit (.bool false)], args := [d] }
  | _ => none }
def AdlerAddsWrongFalsely : Prop := adlerAddsRow.holds Try.pinned (OpenSpec.ofChange adlerAddsWrong)

/-- 'catchwordlaw03.AdlerBytes': WHATEVER THE INPUT: true; the input reads as it did. -/
def adlerBytesSpec : ChangeSpec := { name := "adlerBytes", fn := fun _ => fun
  | [d1, d2] => { results := [.lit (.bool true)], args := [d1, d2] }
  | _ => none }
def adlerBytesRow : OpenClaim := { program := "ytgfdinclhakjhaa", sum := "c8976d0e8d4b70ddb2da18fdf51fb91ec74d61f0578a5b880a03bc234c580057", func := "catchword/catchwordlaw03.AdlerBytes", spec := "adlerBytes", unfollowed := true, recurses := true, apart := false }
def AdlerBytesSaid : Prop := adlerBytesRow.holds Try.pinned (OpenSpec.ofChange adlerBytesSpec)

/-- ITS FALSE NEIGHBOUR: 'it returns false'. Refute it at one input. -/
def adlerBytesWrong : ChangeSpec := { name := "adlerBytes", fn := fun _ => fun
  | [d1, d2] => { results := [.lit (.bool false)], args := [d1, d2] }
  | _ => none }
def AdlerBytesWrongFalsely : Prop := adlerBytesRow.holds Try.pinned (OpenSpec.ofChange adlerBytesWrong)

/-- 'catchwordlaw03.AdlerSees': WHATEVER THE INPUT: true; the input reads as it did. -/
def adlerSeesSpec : ChangeSpec := { name := "adlerSees", fn := fun _ => fun
  | [d1, d2, d3] => { results := [.lit (.bool true)], args := [d1, d2, d3] }
  | _ => none }
def adlerSeesRow : OpenClaim := { program := "ytgfdinclhakjhaa", sum := "c8976d0e8d4b70ddb2da18fdf51fb91ec74d61f0578a5b880a03bc234c580057", func := "catchword/catchwordlaw03.AdlerSees", spec := "adlerSees", unfollowed := true, recurses := true, apart := false }
def AdlerSeesSaid : Prop := adlerSeesRow.holds Try.pinned (OpenSpec.ofChange adlerSeesSpec)

/-- ITS FALSE NEIGHBOUR: 'it returns false'. Refute it at one input. -/
def adlerSeesWrong : ChangeSpec := { name := "adlerSees", fn := fun _ => fun
  | [d1, d2, d3] => { results := [.lit (.bool false)], args := [d1, d2, d3] }
  | _ => none }
def AdlerSeesWrongFalsely : Prop := adlerSeesRow.holds Try.pinned (OpenSpec.ofChange adlerSeesWrong)

/- THE SECOND FORM. 'bulk': how many values and letters a reading holds, each counted each time it is reached (what is shared counts as often as it is met; a slice's spare places count too). A statement '..UptoSaid' is the law's where the arguments, and the package variables that the reading takes, are together of bulk at most 1048576: NARROWER than '..Said'. Prove '..Said' where nothing that the law and all that it calls make is longer than what came in: it says more and counts as full. Else prove '..UptoSaid'. A law counts once. -/
mutual
def uptoBulk {H : Type} : DataW H → Nat
  | .lit (.string bytes) => bytes.length + 1
  | .lit _ => 1
  | .nil => 1
  | .ptr d => uptoBulk d + 1
  | .slice elems spare => uptoBulkAll elems + uptoBulkAll spare + 1
  | .agg parts => uptoBulkAll parts + 1
  | .iface _ d => uptoBulk d + 1
  | .map entries => uptoBulkEntries entries + 1
  | .held _ => 1
def uptoBulkAll {H : Type} : List (DataW H) → Nat
  | [] => 0
  | d :: r => uptoBulk d + uptoBulkAll r
def uptoBulkEntries {H : Type} : List (Lit × DataW H) → Nat
  | [] => 0
  | x :: r => uptoBulkEntry x + uptoBulkEntries r
def uptoBulkEntry {H : Type} : Lit × DataW H → Nat
  | (.string bytes, d) => bytes.length + uptoBulk d + 1
  | (_, d) => uptoBulk d + 1
 end
def uptoSmall : (H : Type) → List (DataW H) → Bool := fun _ ds => decide (uptoBulkAll ds ≤ 1048576)
def OpenSpec.upto (s : _root_.Go.ChangeSpec) : _root_.Go.OpenSpec := { _root_.Go.OpenSpec.ofChange s with cond := some uptoSmall }

/-- 'catchwordlaw03.AdlerSums', WHERE WHAT IT READS IS OF BULK AT MOST 1048576: true; the input reads as it did. -/
def adlerSumsUptoRow : OpenClaim := { program := "ytgfdinclhakjhaa", sum := "c8976d0e8d4b70ddb2da18fdf51fb91ec74d61f0578a5b880a03bc234c580057", func := "catchword/catchwordlaw03.AdlerSums", spec := "adlerSums", unfollowed := true, recurses := true, apart := false, narrowed := true }
def AdlerSumsUptoSaid : Prop := adlerSumsUptoRow.holds Try.pinned (OpenSpec.upto adlerSumsSpec)

/-- 'catchwordlaw03.AdlerAdds', WHERE WHAT IT READS IS OF BULK AT MOST 1048576: true; the input reads as it did. -/
def adlerAddsUptoRow : OpenClaim := { program := "ytgfdinclhakjhaa", sum := "c8976d0e8d4b70ddb2da18fdf51fb91ec74d61f0578a5b880a03bc234c580057", func := "catchword/catchwordlaw03.AdlerAdds", spec := "adlerAdds", unfollowed := true, recurses := true, apart := false, narrowed := true }
def AdlerAddsUptoSaid : Prop := adlerAddsUptoRow.holds Try.pinned (OpenSpec.upto adlerAddsSpec)

/-- 'catchwordlaw03.AdlerBytes', WHERE WHAT IT READS IS OF BULK AT MOST 1048576: true; the input reads as it did. -/
def adlerBytesUptoRow : OpenClaim := { program := "ytgfdinclhakjhaa", sum := "c8976d0e8d4b70ddb2da18fdf51fb91ec74d61f0578a5b880a03bc234c580057", func := "catchword/catchwordlaw03.AdlerBytes", spec := "adlerBytes", unfollowed := true, recurses := true, apart := false, narrowed := true }
def AdlerBytesUptoSaid : Prop := adlerBytesUptoRow.holds Try.pinned (OpenSpec.upto adlerBytesSpec)

/-- 'catchwordlaw03.AdlerSees', WHERE WHAT IT READS IS OF BULK AT MOST 1048576: true; the input reads as it did. -/
def adlerSeesUptoRow : OpenClaim := { program := "ytgfdinclhakjhaa", sum := "c8976d0e8d4b70ddb2da18fdf51fb91ec74d61f0578a5b880a03bc234c580057", func := "catchword/catchwordlaw03.AdlerSees", spec := "adlerSees", unfollowed := true, recurses := true, apart := false, narrowed := true }
def AdlerSeesUptoSaid : Prop := adlerSeesUptoRow.holds Try.pinned (OpenSpec.upto adlerSeesSpec)

end Rows
end Go.Proofs.Ytgfdinclhakjhaa
