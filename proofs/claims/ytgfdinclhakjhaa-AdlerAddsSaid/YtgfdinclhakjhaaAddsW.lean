/- Rows of slices of bytes that come in; a piece in two halves; a sum and a row that grow together. -/
import Derived.Test.YtgfdinclhakjhaaBytesIn
namespace Go.Proofs.Ytgfdinclhakjhaa
open Go.RowKit Go.Deep Go.ChangeShapes Go.WideShapes
set_option linter.unusedVariables false

def encP (p : Piece) : List Value := [p.cell]

/-- An element that is a slice of bytes. -/
theorem piece_el {H : Type} {en : TypeId × Value → H} {w : World} {base n : Nat} {spare : Nat → Bool} {held : Bool} {cs : List Value} {y : DataW H × List MemPlace}
    (h : DataW.trod en Try.prog w base spare held n 22 cs = some y) : ∃ p : Piece, cs = encP p ∧ p.At w NoS := by
  have hform : ∃ A len cap, cs = [.slice A len cap] := by
    rcases open_slice Try.underlying22 h with ⟨h0, _⟩ | ⟨a, len', cap', m, n, D, Pl, hcs, _⟩
    · exact ⟨_, _, _, h0⟩
    · exact ⟨_, _, _, hcs⟩
  obtain ⟨A, len, cap, rfl⟩ := hform
  have hc := open_cap Try.underlying22 h
  obtain ⟨_, bs, hl, hS, hg⟩ := open_rows encB (fun b : Nat => b < 256) 1 Try.underlying22 (by kernel_rfl) (fun _ => rfl) (fun n cs y h _ => byte_el h) h
  exact ⟨⟨A, len, cap, bs⟩, rfl, piece_in hl hS hg hc⟩

theorem flat_pieces (ps : List Piece) : ps.flatMap encP = ps.map Piece.cell := by
  induction ps with
  | nil => rfl
  | cons p ps ih => rw [List.flatMap_cons, ih]; rfl

/-- The beginning of a piece, and its end. -/
theorem Piece.At.first {w : World} {S : Nat → Prop} {b off len cap m : Nat} {bs : List Nat} (h : Piece.At ⟨some ⟨b, off, none⟩, len, cap, bs⟩ w S) (hm : m ≤ len) (h0 : 0 < len) : Piece.At ⟨some ⟨b, off, none⟩, m, cap, bs.take m⟩ w S := by
  have hl : bs.length = len := h.len
  have hc : len ≤ cap := h.cap
  refine ⟨⟨by simp [ucells, hl]; omega, fun e => (by cases e), fun ad had j u hu => h.src.2.2 ad had j u ?_⟩, by simp [hl]; omega, Nat.le_trans hm hc, fun x hx => h.bytes x (List.mem_of_mem_take hx), fun a ha _ => h.apart a ha h0⟩
  simp only [ucells, List.map_take, List.getElem?_take] at hu
  split at hu
  · exact hu
  · cases hu
theorem Piece.At.last {w : World} {S : Nat → Prop} {b off len cap m : Nat} {bs : List Nat} (h : Piece.At ⟨some ⟨b, off, none⟩, len, cap, bs⟩ w S) (hm : m ≤ len) (h0 : 0 < len) : Piece.At ⟨some ⟨b, off + m, none⟩, len - m, cap - m, bs.drop m⟩ w S := by
  have hl : bs.length = len := h.len
  have hc : len ≤ cap := h.cap
  refine ⟨⟨by simp [ucells, hl], fun e => (by cases e), fun ad had j u hu => ?_⟩, by simp [hl], Nat.sub_le_sub_right hc m, fun x hx => h.bytes x (List.mem_of_mem_drop hx), fun a ha _ => ?_⟩
  · cases had
    simp only [ucells, List.map_drop, List.getElem?_drop] at hu
    have h1 := h.src.2.2 _ rfl (m + j) u hu
    have e : (⟨b, off, none⟩ : Addr).add (m + j) = (⟨b, off + m, none⟩ : Addr).add j := by
      by_cases hj : j = 0
      · subst hj
        by_cases hm0 : m = 0
        · subst hm0; rfl
        · simp [Addr.add, hm0]
      · simp [Addr.add, hj]
        omega
    rw [← e]
    exact h1
  · cases ha
    exact h.apart ⟨b, off, none⟩ rfl h0

/-- A row that was laid. -/
theorem src_row (w : World) (t : TypeId) (us : List Value) (m : Nat) (hm : us.length = m) : Src (w.alloc (.cells us.toArray t)) 1 (some ⟨w.heap.size, 0, none⟩) m m us :=
  ⟨by omega, fun h => (by cases h), fun ad had j v hv => by
    cases had
    have h1 := (Blk.new w t us.toArray).cell j
    rw [List.getElem?_toArray, hv] at h1
    by_cases hj : j = 0
    · subst hj; exact h1
    · simpa [Addr.add, hj] using h1⟩

theorem add_zero_id (a : Addr) : a.add 0 = a := by simp [Addr.add]
theorem map_add_zero_id (p : Option Addr) : Option.map (fun x : Addr => x.add 0) p = p := by cases p <;> simp [add_zero_id]

theorem size_u8 (w : World) : (sizeOf (Try.prog.elem 22)).run Try.prog w = .ok 1 w := by
  go_simp

/-- The first bytes of a slice; the others. -/
theorem slice_to (A : Option Addr) (len cap m : Nat) (hm : m ≤ cap) (w : World) : (Instr.sliceAt 22 (.slice A len cap) none (some (.int .i64 (m : Nat))) none).run Try.prog w = .ok (.slice A m cap) w := by
  rw [run_sliceAt_slice w _ _ _ _ _ Try.underlying22, run_slice_h w _ A len cap Try.underlying22 .i64 (m : Nat) (by omega) (by omega), size_u8]
  simp [Result.andThen, sliced, map_add_zero_id]
theorem slice_from (b off len cap m : Nat) (hm : m ≤ len) (hc : m < cap) (w : World) : (Instr.sliceAt 22 (.slice (some ⟨b, off, none⟩) len cap) (some (.int .i64 (m : Nat))) none none).run Try.prog w = .ok (.slice (some ⟨b, off + m, none⟩) (len - m) (cap - m)) w := by
  rw [run_sliceAt_slice w _ _ _ _ _ Try.underlying22, run_slice_l w _ _ len cap Try.underlying22 .i64 (m : Nat) (by omega) (by omega), size_u8]
  have hne : ¬ (cap = m) := by omega
  by_cases h0 : m = 0
  · subst h0; simp [Result.andThen, sliced, hne, Addr.add]
  · simp [Result.andThen, sliced, hne, Addr.add, h0]
theorem slice_all (A : Option Addr) (cap : Nat) (w : World) : (Instr.sliceAt 22 (.slice A 0 cap) (some (.int .i64 0)) none none).run Try.prog w = .ok (.slice A 0 cap) w := by
  rw [run_sliceAt_slice w _ _ _ _ _ Try.underlying22, run_slice_l w _ _ 0 cap Try.underlying22 .i64 0 (by omega) (by omega), size_u8]
  simp [Result.andThen, sliced, map_add_zero_id]
end Go.Proofs.Ytgfdinclhakjhaa
