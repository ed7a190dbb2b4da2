/- DictOf's comparison, and the library's insertion sort over a row of pairs. -/
import Derived.Test.YtjbjfoingpnlmaaVCol
import Derived.Test.YtjbjfoingpnlmaaVCmp
import Derived.BigQuiet
import Derived.BigRegion
namespace Go.Proofs.Ytjbjfoingpnlmaa
open Go.RowKit
set_option linter.unusedVariables false
set_option linter.unusedSimpArgs false

/-- A row of pairs of the call's own, told by the pairs' numbers. -/
def PRow (w : World) (g cap b off : Nat) (d : List Nat) : Prop := w.ownsRow 0 22 1 (.slice (some ⟨g, 0, none⟩) d.length cap) d.length (d.map (pcell b off))
theorem PRow.chg {w w' : World} {g cap b off : Nat} {d : List Nat} {K : Nat → Prop} (h : PRow w g cap b off d) (hc : Chg K w w') (hk : ¬ K g) : PRow w' g cap b off d := own_chg h hc (fun i hi => by
  simp [Value.ownBlock] at hi
  subst hi
  exact hk)
theorem PRow.drewN {w : World} {g cap b off : Nat} {d : List Nat} (h : PRow w g cap b off d) (n : Nat) : PRow (w.drewN n) g cap b off d := own_drewN h n
theorem PRow.cell {w : World} {g cap b off : Nat} {d : List Nat} (h : PRow w g cap b off d) {i x : Nat} (hx : d[i]? = some x) : w.cell? ⟨g, i, none⟩ = some (pcell b off x) := by
  have hi : i < d.length := (List.getElem?_eq_some_iff.1 hx).1
  have h1 := World.ownsRow.cellAt h i (by omega)
  rw [h1]
  simp [hx]
theorem PRow.set {w : World} {g cap b off : Nat} {d : List Nat} (h : PRow w g cap b off d) (i x : Nat) : PRow (w.setCell ⟨g, i, none⟩ (pcell b off x)) g cap b off (d.set i x) := by
  have h1 := (World.ownsRow.stored h i (pcell b off x)).1
  have e : (d.map (pcell b off)).set i (pcell b off x) = (d.set i x).map (pcell b off) := by simp [List.map_set]
  rw [e] at h1
  unfold PRow
  rw [List.length_set]
  exact h1
theorem PRow.frozen {w : World} {g cap b off : Nat} {d : List Nat} (h : PRow w g cap b off d) (i : Nat) : w.frozen? ⟨g, i, none⟩ = false := World.ownsRow.frozenAt h i
theorem PRow.lt {w : World} {g cap b off : Nat} {d : List Nat} (h : PRow w g cap b off d) : g < w.heap.size := own_lt h rfl
/-- The comparison tells how two pairs' names stand. -/
def CmpP (g : Nat) (b off : Nat) (S : Nat → ByteArray) (M : Nat) (blk : Nat) (w0 : World) : Prop :=
  ∀ (x y : Nat) (W : World), x < M → y < M → Chg (fun i => i = blk) w0 W → Calls Try.prog g #[pcell b off x, pcell b off y] W fun e w' => e = .returned (.int .i64 (cmpS (S x) (S y))) ∧ ∃ m, w' = W.drewN m

/-- One is put behind all that are not greater; the row is told from its end. -/
def insR (S : Nat → ByteArray) (x : Nat) : List Nat → List Nat
  | [] => [x]
  | p :: R => if Op.bytesLess (S x).toList (S p).toList then p :: insR S x R else x :: p :: R
def sortR (S : Nat → ByteArray) (d : List Nat) : List Nat := d.foldl (fun R x => insR S x R) []
theorem insR_len (S : Nat → ByteArray) (x : Nat) : ∀ R : List Nat, (insR S x R).length = R.length + 1
  | [] => rfl
  | p :: R => by
    rw [insR]
    split
    · rw [List.length_cons, insR_len S x R, List.length_cons]
    · rfl
theorem sortR_snoc (S : Nat → ByteArray) (d : List Nat) (x : Nat) : sortR S (d ++ [x]) = insR S x (sortR S d) := by simp [sortR]
theorem sortR_len (S : Nat → ByteArray) (d : List Nat) : (sortR S d).length = d.length := by
  have h : ∀ (d R : List Nat), (d.foldl (fun R x => insR S x R) R).length = R.length + d.length := by
    intro d
    induction d with
    | nil => intro R; rfl
    | cons x d ih => intro R; rw [List.foldl_cons, ih, insR_len, List.length_cons]; omega
  have := h d []
  simpa [sortR] using this
theorem insR_mem {S : Nat → ByteArray} {x y : Nat} : ∀ {R : List Nat}, y ∈ insR S x R → y = x ∨ y ∈ R
  | [], h => by simp [insR] at h; exact .inl h
  | p :: R, h => by
    rw [insR] at h
    split at h
    · rcases List.mem_cons.1 h with h | h
      · exact .inr (List.mem_cons.2 (.inl h))
      · rcases insR_mem h with h | h
        · exact .inl h
        · exact .inr (List.mem_cons.2 (.inr h))
    · rcases List.mem_cons.1 h with h | h
      · exact .inl h
      · exact .inr h
theorem sortR_mem {S : Nat → ByteArray} {y : Nat} {d : List Nat} (h : y ∈ sortR S d) : y ∈ d := by
  have k : ∀ (d R : List Nat), y ∈ d.foldl (fun R x => insR S x R) R → y ∈ R ∨ y ∈ d := by
    intro d
    induction d with
    | nil => intro R h; exact .inl h
    | cons x d ih =>
      intro R h
      rw [List.foldl_cons] at h
      rcases ih _ h with h | h
      · rcases insR_mem h with h | h
        · exact .inr (List.mem_cons.2 (.inl h))
        · exact .inl h
      · exact .inr (List.mem_cons.2 (.inr h))
  rcases k d [] h with h | h
  · cases h
  · exact h
/-- The row while one is on its way: T lies ahead of it (told from its end), U behind it. -/
structure Way (S : Nat → ByteArray) (x : Nat) (P rest : List Nat) (d2 : List Nat) (j : Nat) (U T : List Nat) : Prop where
  jl : j = T.length
  parts : U ++ T = P
  row : d2 = T.reverse ++ x :: (U.reverse ++ rest)
  ins : insR S x P = U ++ insR S x T
theorem Way.start (S : Nat → ByteArray) (x : Nat) (P rest : List Nat) : Way S x P rest (P.reverse ++ x :: rest) P.length [] P := ⟨rfl, rfl, rfl, rfl⟩
theorem Way.at_ {S : Nat → ByteArray} {x p : Nat} {P rest d2 U T : List Nat} {j : Nat} (h : Way S x P rest d2 (j + 1) U (p :: T)) : d2[j + 1]? = some x ∧ d2[j]? = some p ∧ T.length = j := by
  have hj := h.jl
  rw [List.length_cons] at hj
  have e : d2 = T.reverse ++ p :: x :: (U.reverse ++ rest) := by rw [h.row]; simp
  refine ⟨?_, ?_, by omega⟩
  · rw [e, List.getElem?_append_right (by simp; omega)]
    simp only [List.length_reverse]
    rw [show j + 1 - T.length = 1 by omega]
    rfl
  · rw [e, List.getElem?_append_right (by simp; omega)]
    simp only [List.length_reverse]
    rw [show j - T.length = 0 by omega]
    rfl
theorem Way.step {S : Nat → ByteArray} {x p : Nat} {P rest d2 U T : List Nat} {j : Nat} (h : Way S x P rest d2 (j + 1) U (p :: T)) (hl : Op.bytesLess (S x).toList (S p).toList = true) : Way S x P rest ((d2.set (j + 1) p).set j x) j (U ++ [p]) T := by
  have hj := h.jl
  rw [List.length_cons] at hj
  have e : d2 = T.reverse ++ p :: x :: (U.reverse ++ rest) := by rw [h.row]; simp
  refine ⟨by omega, by rw [← h.parts]; simp, ?_, ?_⟩
  · rw [e]
    have h1 : j = T.reverse.length := by simp; omega
    rw [h1, List.set_append_right _ _ (by omega), show T.reverse.length + 1 - T.reverse.length = 1 by omega, List.set_append_right _ _ (Nat.le_refl _), Nat.sub_self]
    simp
  · rw [h.ins, insR, if_pos hl]
    simp
theorem Way.stop {S : Nat → ByteArray} {x : Nat} {P rest d2 U T : List Nat} {j : Nat} (h : Way S x P rest d2 j U T) (hs : T = [] ∨ ∃ p T', T = p :: T' ∧ Op.bytesLess (S x).toList (S p).toList = false) : d2 = (insR S x P).reverse ++ rest := by
  have hi : insR S x T = x :: T := by
    rcases hs with rfl | ⟨p, T', rfl, hl⟩
    · rfl
    · rw [insR, if_neg (by rw [hl]; decide)]
  rw [h.row, h.ins, hi]
  simp

set_option maxHeartbeats 2000000 in
theorem dcmp_any (b off g M : Nat) (S : Nat → ByteArray) (w0 : World) (hS : ∀ x, x < M → w0.cell? ⟨b, off + 2 * x * 4 + 2, none⟩ = some (.string (S x))) (hne : b ≠ g) : CmpP 50 b off S M g w0 := by
  intro x y W hx hy hc
  have c0 := hS x hx
  have c1 := hS y hy
  have d0 := (hc.cell (p := ⟨b, off + 2 * x * 4 + 2, none⟩) (by exact cell_lt c0) hne).trans c0
  have d1 := (hc.cell (p := ⟨b, off + 2 * y * 4 + 2, none⟩) (by exact cell_lt c1) hne).trans c1
  have HS := keepf (fun (W : World) => (Go.Proofs.Try.strings_Compare (S x) (S y) W).mono (fun e w' h => (⟨h.1.trans (ret_v64 (cmpBytes_eq _ _)), h.2⟩ : e = .returned (.int .i64 (cmpS (S x) (S y))) ∧ w' = W)))
  obtain ⟨z, hz⟩ : ∃ z, z = cmpS (S x) (S y) := ⟨_, rfl⟩
  rw [← hz] at HS ⊢
  clear hz c0 c1 hS hc
  unfold pcell
  go_enter Try.func50, Try.ntmps50
  go_upto_region 1 with fail
  go_quiet ((go_at_call 39; refine (HS.out _).mono ?_; rintro e w2 ⟨rfl, rfl⟩; exact ⟨rfl, _, rfl⟩))
  go_wp2_with fail
  go_ret
  exact ⟨rfl, nq, rfl⟩
end Go.Proofs.Ytjbjfoingpnlmaa
