/- Merged by program: ConvS. -/
import Derived.Test.YtmmilchmnimjoaaGreatN17
/- A slice of bytes read as a string. -/
namespace Go.Proofs.YtmmilchmnimjoaaGreat
open Go.RowKit
set_option linter.unusedVariables false
abbrev Cs (A : Option Addr) (n c : Nat) (s : ByteArray) (W : World) : Prop := (convert 22 9 (.slice A n c)).run Tryz.prog W = .ok (.string s) W
theorem conv_src {w : World} {A : Option Addr} {n c : Nat} {bs : List Nat} (h : Src w 1 A n c (ucells bs)) : Cs A n c (bstr bs) w := by
  unfold Cs
  have hlen : bs.length = n := by
    have := h.1
    simpa [ucells] using this
  rcases Nat.eq_zero_or_pos n with h0 | h0
  · subst h0
    have hb : bs = [] := List.eq_nil_of_length_eq_zero hlen
    subst hb
    rcases A with _ | a
    · have := (h.2.1 rfl).2
      subst this
      exact run_convert_bytes_nil w 22 5 Tryz.underlying22 Tryz.underlying5 _ _ 9 Tryz.underlying9
    · have hl : (loadCells a 0).run Tryz.prog w = .ok #[] w := by simpa using run_loadCells_list (P := Tryz.prog) w a [] (fun j v hj => by simp at hj)
      rw [run_convert_bytes_string w 22 9 5 _ 0 c Tryz.underlying22 Tryz.underlying5 Tryz.underlying9]
      simp [Conv.bytesToString, hl, Result.andThen]
      rfl
  · obtain ⟨b, off, rfl, hcell⟩ := h.plain (by rw [ucells_len]; omega)
    refine run_convert_bytes_arg w 22 5 Tryz.underlying22 Tryz.underlying5 b off n c (bs.map fun b : Nat => (b : Int)) (by simpa using hlen) (fun i hi => ?_) 9 Tryz.underlying9
    have hc := hcell i (.int .u8 (bs.getD i 0 : Nat)) (ucells_get (by rw [List.getD_eq_getElem?_getD, List.getElem?_eq_getElem (by omega)]; rfl))
    rw [hc]
    simp [hlen, hi]
end Go.Proofs.YtmmilchmnimjoaaGreat
