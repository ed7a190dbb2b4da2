/- Bytes read as a string; a value's four cells. -/
import Derived.Test.YtnbjigopgbjneaaLexB
import Derived.Test.YtnbjigopgbjneaaStr9
import Derived.Laws.BytesArg
namespace Go.Proofs.Ytnbjigopgbjneaa
open Go.RowKit
set_option linter.unusedVariables false
set_option linter.unusedSimpArgs false

theorem strOfNums_sb (bs : List Nat) : strOfNums (bs.map fun b : Nat => (b : Int)) = sb bs := by
  unfold strOfNums sb
  rw [List.map_map]
  congr 2

theorem conv_l {w : World} {A : Option Addr} {n c : Nat} {bs : List Nat} (h : Src w 1 A n c (lcells bs)) :
    (convert 30 9 (.slice A n c)).run Try.prog w = .ok (.string (sb bs)) w := by
  have hlen : bs.length = n := by
    have := h.1
    simpa [lcells] using this
  rw [← strOfNums_sb]
  rcases Nat.eq_zero_or_pos n with h0 | h0
  · subst h0
    have hb : bs = [] := List.eq_nil_of_length_eq_zero hlen
    subst hb
    rcases A with _ | a
    · have := (h.2.1 rfl).2
      subst this
      exact run_convert_bytes_nil w 30 5 Try.underlying30 Try.underlying5 _ _ 9 Try.underlying9
    · have hl : (loadCells a 0).run Try.prog w = .ok #[] w := by simpa using run_loadCells_list (P := Try.prog) w a [] (fun j v hj => by simp at hj)
      rw [run_convert_bytes_string w 30 9 5 _ 0 c Try.underlying30 Try.underlying5 Try.underlying9]
      simp [Conv.bytesToString, hl, Result.andThen]
      rfl
  · obtain ⟨b, off, rfl, hcell⟩ := h.plain (by rw [lcells_len]; omega)
    refine run_convert_bytes_arg w 30 5 Try.underlying30 Try.underlying5 b off n c (bs.map fun b : Nat => (b : Int)) (by simpa using hlen) (fun i hi => ?_) 9 Try.underlying9
    have hc := hcell i (.int .u8 (bs.getD i 0 : Nat)) (lcells_at (by rw [List.getD_eq_getElem?_getD, List.getElem?_eq_getElem (by omega)]; rfl))
    rw [hc]
    simp [hlen, hi]

/-- A block of four cells that is stored over whole. -/
theorem Blk.four {w : World} {g : Nat} {t : TypeId} {x0 x1 x2 x3 : Value} (h : Blk w g t #[x0, x1, x2, x3]) (a b c d : Value) : Blk ((((w.setCell ⟨g, 0, none⟩ a).setCell ⟨g, 1, none⟩ b).setCell ⟨g, 2, none⟩ c).setCell ⟨g, 3, none⟩ d) g t #[a, b, c, d] := by
  have h1 : Blk (w.setCell ⟨g, 0, none⟩ a) g t #[a, x1, x2, x3] := by simpa using h.set_ 0 a
  have h2 : Blk ((w.setCell ⟨g, 0, none⟩ a).setCell ⟨g, 1, none⟩ b) g t #[a, b, x2, x3] := by simpa using h1.set_ 1 b
  have h3 : Blk (((w.setCell ⟨g, 0, none⟩ a).setCell ⟨g, 1, none⟩ b).setCell ⟨g, 2, none⟩ c) g t #[a, b, c, x3] := by simpa using h2.set_ 2 c
  simpa using h3.set_ 3 d

theorem Chg.four {w W : World} {g : Nat} (h : Chg NoS w W) (hg : w.heap.size ≤ g) (a b c d : Value) : Chg NoS w ((((W.setCell ⟨g, 0, none⟩ a).setCell ⟨g, 1, none⟩ b).setCell ⟨g, 2, none⟩ c).setCell ⟨g, 3, none⟩ d) :=
  (((h.setCell (p := ⟨g, 0, none⟩) (fun e => absurd e (Nat.not_lt.2 hg)) a).setCell (p := ⟨g, 1, none⟩) (fun e => absurd e (Nat.not_lt.2 hg)) b).setCell (p := ⟨g, 2, none⟩) (fun e => absurd e (Nat.not_lt.2 hg)) c).setCell (p := ⟨g, 3, none⟩) (fun e => absurd e (Nat.not_lt.2 hg)) d

end Go.Proofs.Ytnbjigopgbjneaa
