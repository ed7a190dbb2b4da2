/- The small question that every statement asks first: five bytes. -/
import Derived.Test.YtomkejeofcpchaaTurnT
import Derived.Laws.BytesArg
import Derived.Lib.SlBytesConst
namespace Go.Proofs.Ytomkejeofcpchaa
open Go.RowKit
set_option linter.unusedVariables false
set_option linter.unusedSimpArgs false

/-- The string of bytes. -/
def ostr (bs : List Nat) : ByteArray := strOfNums (bs.map fun b : Nat => (b : Int))

theorem convert_bytes {w : World} {A : Option Addr} {n c : Nat} {bs : List Nat} (h : Src w 1 A n c (ocells bs)) :
    (convert 24 9 (.slice A n c)).run Try.prog w = .ok (.string (ostr bs)) w := by
  have hlen : bs.length = n := by
    have := h.1
    simpa [ocells] using this
  rcases Nat.eq_zero_or_pos n with h0 | h0
  · subst h0
    have hb : bs = [] := List.eq_nil_of_length_eq_zero hlen
    subst hb
    rcases A with _ | a
    · have := (h.2.1 rfl).2
      subst this
      exact run_convert_bytes_nil w 24 5 Try.underlying24 Try.underlying5 _ _ 9 Try.underlying9
    · have hl : (loadCells a 0).run Try.prog w = .ok #[] w := by simpa using run_loadCells_list (P := Try.prog) w a [] (fun j v hj => by simp at hj)
      rw [run_convert_bytes_string w 24 9 5 _ 0 c Try.underlying24 Try.underlying5 Try.underlying9]
      simp [Conv.bytesToString, hl, Result.andThen]
      rfl
  · obtain ⟨b, off, rfl, hcell⟩ := h.plain (by rw [ocells_len]; omega)
    refine run_convert_bytes_arg w 24 5 Try.underlying24 Try.underlying5 b off n c (bs.map fun b : Nat => (b : Int)) (by simpa using hlen) (fun i hi => ?_) 9 Try.underlying9
    have hc := hcell i (.int .u8 (bs.getD i 0 : Nat)) (ocells_at (by rw [List.getD_eq_getElem?_getD, List.getElem?_eq_getElem (by omega)]; rfl))
    rw [hc]
    simp [hlen, hi]

theorem src_marked {w : World} (cs : Array Value) (t : TypeId) (fr : Nat × Nat) {n m size : Nat} (h : n = w.heap.size) (hs : cs.size = m * size) : Src (w.alloc (.cells cs t fr)) size (some ⟨n, 0, none⟩) m m cs.toList := by
  subst h
  refine ⟨by simpa using hs, fun h => (by cases h), fun ad hA j u hu => ?_⟩
  cases hA
  have hb := heap_alloc_new w (.cells cs t fr)
  have hc := cell_of_row (w.alloc (.cells cs t fr)) w.heap.size j cs t fr hb
  rw [← Array.getElem?_toList, hu] at hc
  by_cases hj : j = 0
  · subst hj; simpa [Addr.add] using hc
  · simpa [Addr.add, hj] using hc

theorem run_single {most : Int} : ∀ (l : List Tk) (out r : List Nat), runT most l out = .ok r → (∀ t ∈ l, t.l = 0) → r.length = out.length + l.length
  | [], out, r, h, _ => by cases h; rfl
  | t :: ts, out, r, h, ha => by
    rw [runT] at h
    split at h
    · have ih := run_single ts _ r h (fun x hx => ha x (List.mem_cons_of_mem _ hx))
      have h0 := ha t (List.mem_cons_self ..)
      rw [Tk.put, if_pos h0] at ih
      simp at ih ⊢
      omega
    · cases h
theorem run_rep4 {most : Int} : ∀ (l : List Tk) (out r : List Nat), runT most l out = .ok r → (∃ t ∈ l, t.l ≠ 0) → 4 ≤ r.length
  | [], out, r, h, hx => by obtain ⟨t, ht, _⟩ := hx; cases ht
  | t :: ts, out, r, h, hx => by
    rw [runT] at h
    split at h
    · rename_i he
      rcases Decidable.em (t.l = 0) with h0 | h0
      · obtain ⟨x, hx, hx0⟩ := hx
        rcases List.mem_cons.1 hx with e | e
        · subst e; exact absurd h0 hx0
        · exact run_rep4 ts _ r h ⟨x, e, hx0⟩
      · obtain ⟨h1, h2, h3⟩ := err_ok he
        have h4 := t.put_len out h1
        have h5 := runT_count ts _ r h
        have h6 : 1 ≤ t.f ∧ 3 ≤ t.size := by
          unfold Tk.wellB at h1
          unfold Tk.size
          rw [if_neg h0] at h1
          simp at h1
          split <;> omega
        omega
    · cases h
theorem three_tokens {bs : List Nat} {T : List Tk} (h : TokensOk bs T) (hb : bs.length ≤ 3) : T.length = bs.length := by
  apply Classical.byContradiction
  intro hn
  have hx : ∃ t ∈ T, t.l ≠ 0 := by
    apply Classical.byContradiction
    intro hn2
    have hall : ∀ t ∈ T, t.l = 0 := fun t ht => Classical.byContradiction fun h0 => hn2 ⟨t, ht, h0⟩
    have := run_single _ _ _ h.run hall
    simp at this
    exact hn this.symm
  have := run_rep4 _ _ _ h.run hx
  omega

theorem workT1 : expandT [⟨97, 0, 0⟩, ⟨0, 4, 1⟩] 9 = .ok [97, 97, 97, 97, 97] := rfl
theorem workT2 : expandT [⟨0, 4, 1⟩] 16777216 = .error 14 := rfl
theorem workT3 : ostr [97, 97, 97, 97, 97] = ⟨#[97, 97, 97, 97, 97]⟩ := rfl

set_option maxHeartbeats 1000000 in
theorem works_any6 (w : World) :
    Calls Try.prog 7 #[] w fun e w' => e = .returned (.bool true) ∧ Chg NoS w w' := by
  have H1 := keepf (show Calls Try.prog 8 #[.slice (some ⟨w.heap.size, 0, none⟩) 2 2, .int .i64 9] (w.alloc (.cells #[.int .u8 97, .int .i64 0, .int .i64 0, .int .u8 0, .int .i64 4, .int .i64 1] 42)) fun e w' => ∃ A c, e = .returned (.tuple #[.slice A 5 c, .int .i64 0]) ∧ NewB (w.alloc (.cells #[.int .u8 97, .int .i64 0, .int .i64 0, .int .u8 0, .int .i64 4, .int .i64 1] 42)) [97, 97, 97, 97, 97] A c w' from
    (expand_any [⟨97, 0, 0⟩, ⟨0, 4, 1⟩] (some ⟨w.heap.size, 0, none⟩) 2 9 _ (src_new #[.int .u8 97, .int .i64 0, .int .i64 0, .int .u8 0, .int .i64 4, .int .i64 1] _ rfl rfl) (by decide)).mono fun e w' h => by
      unfold ExpTo at h
      rw [workT1] at h
      exact h)
  have H2 := keepf (fun (W : World) => show Calls Try.prog 11 #[.slice (some ⟨W.heap.size, 0, none⟩) 1 1] (W.alloc (.cells #[.int .u8 0, .int .i64 4, .int .i64 1] 42)) fun e w' => e = .returned (.int .i64 14) ∧ Chg NoS (W.alloc (.cells #[.int .u8 0, .int .i64 4, .int .i64 1] 42)) w' from
    (checkt_any [⟨0, 4, 1⟩] (some ⟨W.heap.size, 0, none⟩) 1 _ (src_new #[.int .u8 0, .int .i64 4, .int .i64 1] _ rfl rfl) (by decide)).mono fun e w' h => by
      rw [workT2] at h
      exact h)
  have H3 := keepf (fun (W : World) => show Calls Try.prog 12 #[.slice (some ⟨W.heap.size, 0, none⟩) 3 3] (W.alloc (.cells #[.int .u8 97, .int .u8 98, .int .u8 99] 5 (3, 4))) fun e w' => ∃ A c, e = .returned (.slice A 3 c) ∧ Chg NoS (W.alloc (.cells #[.int .u8 97, .int .u8 98, .int .u8 99] 5 (3, 4))) w' from
    (tokens_any [97, 98, 99] (some ⟨W.heap.size, 0, none⟩) 3 _ (src_marked #[.int .u8 97, .int .u8 98, .int .u8 99] _ (3, 4) rfl rfl) (by decide) (by decide) (by decide)).mono fun e w' ⟨T, A, c, h1, h2, h3, _⟩ => by
      have h4 := three_tokens (h3 (by decide)) (by decide)
      exact ⟨A, c, by rw [h1, h4]; rfl, h2.2.1⟩)
  have hcc : ∀ W : World, (convert 24 24 (.slice (some ⟨W.heap.size, 0, none⟩) 3 3)).run Try.prog (W.alloc (.cells #[.int .u8 97, .int .u8 98, .int .u8 99] 5)) = .ok (.slice (some ⟨W.heap.size, 0, none⟩) 3 3) (W.alloc (.cells #[.int .u8 97, .int .u8 98, .int .u8 99] 5 (3, 4))) := fun W => Lib.run_convert_bytes_const W 24 5 _ 3 3 Try.underlying24 Try.underlying5
  go_enter Try.func7, Try.ntmps7
  go_wp2_with (first
    | (go_at_call 8; refine H1.out.mono ?_; rintro e w2 ⟨A2, c2, rfl, hb⟩; have hcv := convert_bytes (src_own hb.1); rw [workT3] at hcv; simp only [List.length_cons, List.length_nil, Nat.zero_add, Nat.reduceAdd] at hcv; have HB := keepf hb; clear hb)
    | (go_at_call 11; refine (H2.out _).mono ?_; rintro e w3 ⟨rfl, hc⟩; have HC3 := keepf hc; clear hc)
    | (go_at_call 12; refine (H3.out _).mono ?_; rintro e w4 ⟨A4, c4, rfl, hc⟩; have HC4 := keepf hc; clear hc))
  go_ret
  exact ⟨rfl, (((((Chg.refl NoS w).alloc _).trans HB.out.2.1 (fun _ _ h => h)).alloc _).trans HC3.out (fun _ _ h => h) |>.alloc _).trans HC4.out (fun _ _ h => h)⟩
end Go.Proofs.Ytomkejeofcpchaa
