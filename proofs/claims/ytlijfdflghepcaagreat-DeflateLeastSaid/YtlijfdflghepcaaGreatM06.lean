/- Merged by program: Works. -/
import Derived.Test.YtlijfdflghepcaaGreatM00
import Derived.Laws.BytesArg
/- The small question that every statement asks first: three bits, written and read back. -/
namespace Go.Proofs.YtlijfdflghepcaaGreat
open Go.RowKit
set_option linter.unusedVariables false

/-- The string of bytes. -/
def bstr (bs : List Nat) : ByteArray := strOfNums (bs.map fun b : Nat => (b : Int))

theorem convert_own {w : World} {A : Option Addr} {n c : Nat} {bs : List Nat} (h : w.ownsRow 0 5 1 (.slice A n c) n (ucells bs)) :
    (convert 22 9 (.slice A n c)).run Tryz.prog w = .ok (.string (bstr bs)) w := by
  rcases Nat.eq_zero_or_pos n with h0 | h0
  · subst h0
    have hb : bs = [] := by
      have := h.1
      simp [ucells] at this
      exact this
    subst hb
    rcases A with _ | a
    · exact run_convert_bytes_nil w 22 5 Tryz.underlying22 Tryz.underlying5 _ _ 9 Tryz.underlying9
    · rcases h.2 with ⟨h', _⟩ | ⟨g, cap, cur, h', _⟩
      · simp at h'
      · simp only [Value.slice.injEq, Option.some.injEq] at h'
        obtain ⟨rfl, _, rfl⟩ := h'
        exact run_convert_bytes_arg w 22 5 Tryz.underlying22 Tryz.underlying5 g 0 0 c [] rfl (fun i hi => absurd hi (by omega)) 9 Tryz.underlying9
  · obtain ⟨g, cap, hv, _, _⟩ := own_form h h0
    simp only [Value.slice.injEq] at hv
    obtain ⟨rfl, _, rfl⟩ := hv
    have hlen : bs.length = n := by
      have := h.1
      simpa [ucells] using this
    refine run_convert_bytes_arg w 22 5 Tryz.underlying22 Tryz.underlying5 g 0 n c (bs.map fun b : Nat => (b : Int)) (by simpa using hlen) (fun i hi => ?_) 9 Tryz.underlying9
    have hc := h.cellAt i (by omega)
    rw [Nat.zero_add, hc]
    simp [ucells, hlen, hi]

theorem ucells_bytes (high : Bool) (L : List Bool) : bcells high L = ucells (bytesOf high L) := rfl

theorem work1 : bytesOf true (numBits true 5 3) = [160] := by decide
theorem work2 : bytesOf false (numBits false 5 3) = [5] := by decide
theorem work3 : numAt true [160] 0 3 = 5 := by decide
theorem work4 : bstr [160] = ⟨#[160]⟩ := rfl
theorem work5 : bstr [5] = ⟨#[5]⟩ := rfl
theorem work7 : nby (([] : List Bool) ++ numBits true 5 3).length = 1 := by decide
theorem work8 : nby (([] : List Bool) ++ numBits false 5 3).length = 1 := by decide
theorem work6 : Lib.bitLen 5 = 3 := by decide
end Go.Proofs.YtlijfdflghepcaaGreat

