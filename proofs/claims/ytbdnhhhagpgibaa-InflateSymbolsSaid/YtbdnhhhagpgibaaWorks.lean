/- The small question that every statement asks first: three bits, written and read back. -/
import Derived.Test.YtbdnhhhagpgibaaGet
import Derived.Laws.BytesArg
namespace Go.Proofs.Ytbdnhhhagpgibaa
open Go.RowKit
set_option linter.unusedVariables false

/-- The string of bytes. -/
def bstr (bs : List Nat) : ByteArray := strOfNums (bs.map fun b : Nat => (b : Int))

theorem convert_own {w : World} {A : Option Addr} {n c : Nat} {bs : List Nat} (h : w.ownsRow 0 5 1 (.slice A n c) n (ucells bs)) :
    (convert 22 9 (.slice A n c)).run Try.prog w = .ok (.string (bstr bs)) w := by
  rcases Nat.eq_zero_or_pos n with h0 | h0
  · subst h0
    have hb : bs = [] := by
      have := h.1
      simp [ucells] at this
      exact this
    subst hb
    rcases A with _ | a
    · exact run_convert_bytes_nil w 22 5 Try.underlying22 Try.underlying5 _ _ 9 Try.underlying9
    · rcases h.2 with ⟨h', _⟩ | ⟨g, cap, cur, h', _⟩
      · simp at h'
      · simp only [Value.slice.injEq, Option.some.injEq] at h'
        obtain ⟨rfl, _, rfl⟩ := h'
        exact run_convert_bytes_arg w 22 5 Try.underlying22 Try.underlying5 g 0 0 c [] rfl (fun i hi => absurd hi (by omega)) 9 Try.underlying9
  · obtain ⟨g, cap, hv, _, _⟩ := own_form h h0
    simp only [Value.slice.injEq] at hv
    obtain ⟨rfl, _, rfl⟩ := hv
    have hlen : bs.length = n := by
      have := h.1
      simpa [ucells] using this
    refine run_convert_bytes_arg w 22 5 Try.underlying22 Try.underlying5 g 0 n c (bs.map fun b : Nat => (b : Int)) (by simpa using hlen) (fun i hi => ?_) 9 Try.underlying9
    have hc := h.cellAt i (by omega)
    rw [Nat.zero_add, hc]
    simp [ucells, hlen, hi]

theorem ucells_bytes (high : Bool) (L : List Bool) : bcells high L = ucells (bytesOf high L) := rfl
end Go.Proofs.Ytbdnhhhagpgibaa
