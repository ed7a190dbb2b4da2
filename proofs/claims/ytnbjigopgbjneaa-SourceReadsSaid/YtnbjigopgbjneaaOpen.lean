/- How slices that come in are opened: each element's cells, by what it reads as. -/
import Derived.Test.YtnbjigopgbjneaaMem
import Derived.ProofKit
import Derived.Deep.Slices
import Derived.Deep.Fields
namespace Go.Proofs.Ytnbjigopgbjneaa
open Go.RowKit Go.Deep Go.ChangeShapes Go.WideShapes
set_option linter.unusedVariables false

theorem cell_lt {w : World} {p : Addr} {u : Value} (h : w.cell? p = some u) : p.block < w.heap.size := by
  rcases Nat.lt_or_ge p.block w.heap.size with h1 | h1
  · exact h1
  · exfalso
    simp [World.cell?, Array.getElem?_eq_none h1] at h

theorem add_block (a : Addr) (n : Nat) : (a.add n).block = a.block := by unfold Addr.add; split <;> rfl

theorem Src.chg {S : Nat → Prop} {w w' : World} {size n c : Nat} {A : Option Addr} {xs : List Value} (h : Src w size A n c xs) (hc : Chg S w w') (hS : ∀ a, A = some a → 0 < n → ¬ S a.block) (hsz : 0 < xs.length → 0 < n) : Src w' size A n c xs :=
  ⟨h.1, h.2.1, fun ad hA j u hu => by
    have h1 := h.2.2 ad hA j u hu
    have hl : 0 < xs.length := by have := (List.getElem?_eq_some_iff.1 hu).1; omega
    rw [hc.cell (by exact cell_lt h1) (by rw [add_block]; exact hS ad hA (hsz hl))]
    exact h1⟩

theorem Src.below {w0 w w' : World} {size n c : Nat} {A : Option Addr} {xs : List Value} (h : Src w size A n c xs) (hc : Chg NoS w w') : Src w' size A n c xs :=
  ⟨h.1, h.2.1, fun ad hA j u hu => by
    have h1 := h.2.2 ad hA j u hu
    rw [hc.cell (by exact cell_lt h1) (fun h => h)]
    exact h1⟩

/-- The cells of a slice, plain. -/
theorem Src.plain {w : World} {size n c : Nat} {A : Option Addr} {xs : List Value} (h : Src w size A n c xs) (hn : 0 < xs.length) :
    ∃ b off, A = some ⟨b, off, none⟩ ∧ ∀ j u, xs[j]? = some u → w.cell? ⟨b, off + j, none⟩ = some u := by
  rcases A with _ | ⟨b, off, sp⟩
  · have h1 := (h.2.1 rfl).1
    have h2 := h.1
    rw [h1, Nat.zero_mul] at h2
    omega
  · have h0 := h.2.2 _ rfl 0 _ (List.getElem?_eq_getElem hn)
    have hs : sp = none := by simpa [Addr.add] using World.cell?_spot h0
    subst hs
    refine ⟨b, off, rfl, fun j u hu => ?_⟩
    have h1 := h.2.2 _ rfl j u hu
    by_cases hj : j = 0
    · subst hj; simpa [Addr.add] using h1
    · simpa [Addr.add, hj] using h1

theorem flat_len {α : Type} (f : α → List Value) (size : Nat) (hf : ∀ p, (f p).length = size) : ∀ ps : List α, (ps.flatMap f).length = ps.length * size
  | [] => by simp
  | p :: ps => by
    rw [List.flatMap_cons, List.length_append, hf, flat_len f size hf ps, List.length_cons, Nat.succ_mul]
    omega

theorem flat_get {α : Type} (f : α → List Value) (size : Nat) (hf : ∀ p, (f p).length = size) : ∀ (ps : List α) (i j : Nat) (p : α), ps[i]? = some p → j < size → (ps.flatMap f)[i * size + j]? = (f p)[j]?
  | [], i, j, p, h, _ => by simp at h
  | q :: ps, 0, j, p, h, hj => by
    simp at h
    subst h
    rw [List.flatMap_cons, List.getElem?_append_left (by rw [hf]; omega)]
    simp
  | q :: ps, i + 1, j, p, h, hj => by
    simp at h
    rw [List.flatMap_cons, List.getElem?_append_right (by rw [hf, Nat.succ_mul]; omega), hf, show (i + 1) * size + j - size = i * size + j from by rw [Nat.succ_mul]; omega]
    exact flat_get f size hf ps i j p h hj

/-- A slice that came in, its elements told by 'enc', as many as its length. -/
theorem open_rows {α : Type} [Inhabited α] {H : Type} {en : TypeId × Value → H} {P : Program} {w : World} {base fuel : Nat} {spare : Nat → Bool} {held : Bool} {t e : TypeId} {A : Option Addr} {len cap : Nat} {x : DataW H × List MemPlace}
    (enc : α → List Value) (good : α → Prop) (size : Nat) (ht : P.underlying t = some (.slice e)) (hc : P.cellsOf e = size) (henc : ∀ p, (enc p).length = size)
    (hel : ∀ (n : Nat) (cs : List Value) (y : DataW H × List MemPlace), DataW.trod en P w base spare held n e cs = some y → cs.length = size → ∃ p, cs = enc p ∧ good p)
    (h : DataW.trod en P w base spare held fuel t [.slice A len cap] = some x) :
    len ≤ maxLen ∧ ∃ ps : List α, ps.length = len ∧ Src w size A len cap (ps.flatMap enc) ∧ ∀ p ∈ ps, good p := by
  rcases open_slice ht h with ⟨h0, _⟩ | ⟨a, len', cap', m, n, D, Pl, hcs, hb, hl, hm, hmm, hx, hi⟩
  · simp only [List.cons.injEq, Value.slice.injEq, and_true] at h0
    obtain ⟨rfl, rfl, rfl⟩ := h0
    exact ⟨by simp, [], rfl, ⟨by simp, fun _ => ⟨rfl, rfl⟩, fun _ h => (by cases h)⟩, fun _ h => (by cases h)⟩
  · simp only [List.cons.injEq, Value.slice.injEq, and_true] at hcs
    obtain ⟨rfl, rfl, rfl⟩ := hcs
    have hlm : len ≤ m := by rw [hmm]; split <;> omega
    have hex : ∀ i, i < len → ∃ p : α, good p ∧ ∀ j, j < size → w.cell? (a.add (i * size + j)) = (enc p)[j]? := by
      intro i hil
      obtain ⟨cs', hcs', ht'⟩ := hi i (by omega)
      rw [hc] at hcs'
      obtain ⟨_, hcl, hat⟩ := World.cells?_some hcs'
      obtain ⟨p, rfl, hg⟩ := hel n cs' _ ht' hcl
      exact ⟨p, hg, fun j hj => by rw [← Go.Deep.add_add]; exact hat j hj⟩
    obtain ⟨f, hf⟩ := choose_lt hex
    refine ⟨by omega, (List.range len).map f, by simp, ⟨by rw [flat_len enc size henc]; simp, fun h => (by cases h), ?_⟩, ?_⟩
    · intro ad had j u hu
      cases had
      have hjl : j < len * size := by
        have := (List.getElem?_eq_some_iff.1 hu).1
        rw [flat_len enc size henc] at this
        simpa using this
      rcases Nat.eq_zero_or_pos size with h0 | h0
      · subst h0; simp at hjl
      · have hq : j / size < len := Nat.div_lt_of_lt_mul (by rw [Nat.mul_comm]; exact hjl)
        have hr : j % size < size := Nat.mod_lt _ h0
        have hd : j / size * size + j % size = j := by rw [Nat.mul_comm]; exact Nat.div_add_mod j size
        have hg := flat_get enc size henc ((List.range len).map f) (j / size) (j % size) (f (j / size)) (by simp [hq]) hr
        rw [hd, hu] at hg
        have := (hf (j / size) hq).2 (j % size) hr
        rw [hd] at this
        rw [this, ← hg]
    · intro p hp
      obtain ⟨i, hi', rfl⟩ := List.mem_map.1 hp
      exact (hf i (List.mem_range.1 hi')).1

/-- An element that is an integer of kind k. -/
theorem el_int {H : Type} {en : TypeId × Value → H} {P : Program} {w : World} {base n : Nat} {spare : Nat → Bool} {held : Bool} {e : TypeId} {cs : List Value} {y : DataW H × List MemPlace} {k : IntKind}
    (he : P.underlying e = some (.int k)) (h : DataW.trod en P w base spare held n e cs = some y) : ∃ z : Int, cs = [.int k z] ∧ (Lit.int k z).wf = true := by
  obtain ⟨z, rfl, _, hz⟩ := DataW.trod_int he h
  exact ⟨z, rfl, hz⟩

theorem el_bool {H : Type} {en : TypeId × Value → H} {P : Program} {w : World} {base n : Nat} {spare : Nat → Bool} {held : Bool} {e : TypeId} {cs : List Value} {y : DataW H × List MemPlace}
    (he : P.underlying e = some .bool) (h : DataW.trod en P w base spare held n e cs = some y) : ∃ b : Bool, cs = [.bool b] := by
  obtain ⟨b, rfl, _⟩ := DataW.trod_bool he h
  exact ⟨b, rfl⟩

/-- A struct of two fields of one cell each. -/
theorem el_two {H : Type} {en : TypeId × Value → H} {P : Program} {w : World} {base n : Nat} {spare : Nat → Bool} {held : Bool} {e : TypeId} {cs : List Value} {y : DataW H × List MemPlace} {f0 f1 : Field}
    (he : P.underlying e = some (.struct #[f0, f1])) (hone : oneCellFields P #[f0, f1] = true) (hC : P.cellsOf e = 2) (h : DataW.trod en P w base spare held n e cs = some y) :
    ∃ u v m y0 y1, cs = [u, v] ∧ DataW.trod en P w base spare held m f0.type [u] = some y0 ∧ DataW.trod en P w base spare held m f1.type [v] = some y1 := by
  obtain ⟨xs, m, _, _, hl, hx, hf⟩ := DataW.trod_struct he h
  rw [hC] at hl
  obtain ⟨o0, c0⟩ := hone_of hone 0 f0 rfl
  obtain ⟨o1, c1⟩ := hone_of hone 1 f1 rfl
  have h0 := hf 0 f0 rfl
  have h1 := hf 1 f1 rfl
  rw [o0, c0] at h0
  rw [o1, c1] at h1
  match cs, hl with
  | [u, v], _ =>
    simp at hx
    rw [List.getElem?_eq_getElem (by omega)] at h0 h1
    exact ⟨u, v, m, _, _, rfl, by simpa using h0, by simpa using h1⟩

end Go.Proofs.Ytnbjigopgbjneaa
