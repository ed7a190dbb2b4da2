/- Whole, the document's New and Put, and the small question that every statement of this layer asks. -/
import Derived.Test.YtnbjigopgbjneaaSoPu
import Derived.Test.YtnbjigopgbjneaaLexS
import Derived.Lib.SlBytesConst
namespace Go.Proofs.Ytnbjigopgbjneaa
open Go.RowKit
set_option linter.unusedVariables false
set_option linter.unusedSimpArgs false

theorem src_mkS {w : World} (cs : Array Value) (t : TypeId) (fr : Nat × Nat) {n m size : Nat} (h : n = w.heap.size) (hs : cs.size = m * size) : Src (w.alloc (.cells cs t fr)) size (some ⟨n, 0, none⟩) m m cs.toList := by
  subst h
  refine ⟨by simpa using hs, fun h => (by cases h), fun ad hA j u hu => ?_⟩
  cases hA
  have hb := heap_alloc_new w (.cells cs t fr)
  have hc := cell_of_row (w.alloc (.cells cs t fr)) w.heap.size j cs t fr hb
  rw [← Array.getElem?_toList, hu] at hc
  by_cases hj : j = 0
  · subst hj; simpa [Addr.add] using hc
  · simpa [Addr.add, hj] using hc

/-- All is known: a source of bs. -/
def WholeTo (w : World) (bs : List Nat) (e : Ending) (w' : World) : Prop :=
  ∃ g S m c, e = .returned (.pointer (some ⟨g, 0, none⟩)) ∧ SoAt w' S g bs.length m (putF (0, (bs.length : Int)) []) c ∧ (∀ q, q < bs.length → c q = bs.getD q 0) ∧ Chg NoS w w' ∧ (∀ i, S i → w.heap.size ≤ i) ∧ m ≤ bs.length

set_option maxHeartbeats 1000000 in
theorem whole_any (A : Option Addr) (len cap : Nat) (bs : List Nat) (w : World) (hS : Src w 1 A len cap (lcells bs)) (hl : bs.length = len) (hcap : len ≤ cap) (hlen : len ≤ 100000000) (hA : 0 < len → ∀ ad, A = some ad → ad.block < w.heap.size) :
    Calls Try.prog 21 #[.slice A len cap] w (WholeTo w bs) := by
  have HN := keepf (new_ok len w (by omega))
  have HS := keepf hS
  have HL := keepf hl
  have HA := keepf hA
  clear hS hl hA
  go_enter Try.func21, Try.ntmps21
  go_upto_region 4 with (go_at_call 7; refine HN.out.mono ?_; rintro e w1 ⟨g, S, rfl, hS1, hc1, hn1⟩; have HS1 := keepf hS1; have HC1 := keepf hc1; have HN1 := keepf hn1; clear hS1 hc1 hn1)
  have HP := keepf (put_so HS1.out 0 A len cap bs (by omega) (src_no HS.out HC1.out) HL.out hcap (by omega) hlen (by omega) (by simp) (fun h0 ad e hi => by
    have := HA.out h0 ad e
    have := HN1.out _ hi
    omega))
  go_wp2_with (go_at_call 11; refine HP.out.mono ?_; rintro e w2 ⟨S2, c2, rfl, h1, h2, h3, h4, h5, h6⟩; have H1 := keepf h1; have H2 := keepf h2; have H3 := keepf h3; have H4 := keepf h4; have H6 := keepf h6; clear h1 h2 h3 h4 h5 h6)
  go_ret
  have hll := HL.out
  have h1 := H1.out
  simp only [Nat.zero_add, Int.natCast_zero] at h1
  have h3 : ∀ q, q < bs.length → c2 q = bs.getD q 0 := fun q hq => by
    have := H3.out q (by omega) (by omega) (num_nil _)
    simpa using this
  rw [← hll] at h1
  refine ⟨g, S2, _, c2, rfl, h1, h3, HC1.out.trans H6.out (fun i hi h => ?_), fun i hi => ?_, Nat.le_refl _⟩
  · have := HN1.out i h
    omega
  · rcases H4.out i hi with h | h
    · exact HN1.out i h
    · exact Nat.le_trans HC1.out.size h

/-- The document's New. -/
def rnewO (n : Int) : Int := if n < 0 ∨ 2147483647 < n then 5 else 0

theorem rnew16 (n : Int) (w : World) : Calls Try.prog 8 #[.int .i64 n] w (fun e w' => e = .returned (.int .i64 (rnewO n)) ∧ w = w') := by
  by_cases h0 : n < 0
  · have H := keepf (show rnewO n = 5 by simp [rnewO, h0])
    go_enter Try.func8, Try.ntmps8
    go_wp2_with fail
    go_ret
    exact ⟨ret_i64 H.out.symm, rfl⟩
  · by_cases h1 : 2147483647 < n
    · have H := keepf (show rnewO n = 5 by simp [rnewO, h1])
      go_enter Try.func8, Try.ntmps8
      go_wp2_with fail
      go_ret
      exact ⟨ret_i64 H.out.symm, rfl⟩
    · have H := keepf (show rnewO n = 0 by simp [rnewO, h0, h1])
      go_enter Try.func8, Try.ntmps8
      go_wp2_with fail
      go_ret
      exact ⟨ret_i64 H.out.symm, rfl⟩

/-- The document's Put. -/
def rputO (n p l : Int) : Int := if p < 0 ∨ n < p then 2 else if n - p < l then 5 else 0

theorem rput16 (n p l : Int) (w : World) (hn : 0 ≤ n ∧ n ≤ 2147483647) : Calls Try.prog 10 #[.int .i64 n, .int .i64 p, .int .i64 l] w (fun e w' => e = .returned (.int .i64 (rputO n p l)) ∧ w = w') := by
  by_cases h0 : p < 0
  · have H := keepf (show rputO n p l = 2 by simp [rputO, h0])
    go_enter Try.func10, Try.ntmps10
    go_wp2_with fail
    go_ret
    exact ⟨ret_i64 H.out.symm, rfl⟩
  · by_cases h1 : n < p
    · have H := keepf (show rputO n p l = 2 by simp [rputO, h1])
      go_enter Try.func10, Try.ntmps10
      go_wp2_with fail
      go_ret
      exact ⟨ret_i64 H.out.symm, rfl⟩
    · by_cases h2 : n - p < l
      · have H := keepf (show rputO n p l = 5 by simp [rputO, h0, h1, h2])
        go_enter Try.func10, Try.ntmps10
        go_wp2_with fail
        go_ret
        exact ⟨ret_i64 H.out.symm, rfl⟩
      · have H := keepf (show rputO n p l = 0 by simp [rputO, h0, h1, h2])
        go_enter Try.func10, Try.ntmps10
        go_wp2_with fail
        go_ret
        exact ⟨ret_i64 H.out.symm, rfl⟩

/- The small question, step by step. -/

theorem wk_p1 : putF (((1 : Nat) : Int), ((1 + [97, 98].length : Nat) : Int)) [] = [(1, 3)] := by decide

theorem wk_p2 : putF (((3 : Nat) : Int), ((3 + [99, 100].length : Nat) : Int)) [(1, 3)] = [(1, 5)] := by decide

theorem wk_n1 : readN 5 [(1, 3)] 1 9 = 2 := by decide

theorem wk_n2 : readN 5 [(1, 5)] 1 9 = 4 := by decide

theorem wk_f1 : firstP 5 [(1, 5)] 1 = 5 := by decide

theorem wk_f0 : firstP 5 [(1, 5)] 0 = 0 := by decide

theorem num_13 (q : Nat) : Num [(1, 3)] (q : Int) ↔ 1 ≤ q ∧ q < 3 := by
  constructor
  · rintro ⟨y, hy, h⟩
    simp at hy; subst hy; simp only at h; omega
  · intro h
    exact ⟨(1, 3), by simp, by simp only; omega⟩

/-- Where two bytes were put at 1. -/
def Wk1 (w : World) (S : Nat → Prop) (g : Nat) (c : Nat → Nat) : Prop := SoAt w S g 5 2 [(1, 3)] c ∧ rngB c 1 2 = [97, 98]

/-- And two more at 3. -/
def Wk2 (w : World) (S : Nat → Prop) (g : Nat) (c : Nat → Nat) : Prop := SoAt w S g 5 4 [(1, 5)] c ∧ rngB c 1 4 = [97, 98, 99, 100]

theorem wk_put1 {w : World} {S : Nat → Prop} {g : Nat} {c : Nat → Nat} (h : SoAt w S g 5 0 [] c) (A : Option Addr) (hS : Src w 1 A 2 2 (lcells [97, 98])) (hA : ∀ ad, A = some ad → ¬ S ad.block) :
    Calls Try.prog 11 #[.pointer (some ⟨g, 0, none⟩), .int .i64 1, .slice A 2 2] w (fun e w' => ∃ S' c', e = .returned (.int .i64 0) ∧ Wk1 w' S' g c' ∧ (∀ i, S' i → S i ∨ w.heap.size ≤ i) ∧ Chg S w w') := by
  refine (put_so h 1 A 2 2 [97, 98] (by decide) hS rfl (by decide) (by decide) (by decide) (by decide) (by decide) (fun _ => hA)).mono ?_
  rintro e w' ⟨S', c', he, h1, h2, h3, h4, h5, h6⟩
  rw [wk_p1] at h1
  refine ⟨S', c', he, ⟨h1, ?_⟩, h4, h6⟩
  have e1 := h3 1 (by decide) (by decide) (num_nil _)
  have e2 := h3 2 (by decide) (by decide) (num_nil _)
  show [c' 1, c' 2] = _
  rw [e1, e2]
  rfl

theorem wk_put2 {w : World} {S : Nat → Prop} {g : Nat} {c : Nat → Nat} (h : Wk1 w S g c) (A : Option Addr) (hS : Src w 1 A 2 2 (lcells [99, 100])) (hA : ∀ ad, A = some ad → ¬ S ad.block) :
    Calls Try.prog 11 #[.pointer (some ⟨g, 0, none⟩), .int .i64 3, .slice A 2 2] w (fun e w' => ∃ S' c', e = .returned (.int .i64 0) ∧ Wk2 w' S' g c' ∧ (∀ i, S' i → S i ∨ w.heap.size ≤ i) ∧ Chg S w w') := by
  refine (put_so h.1 3 A 2 2 [99, 100] (by decide) hS rfl (by decide) (by decide) (by decide) (by decide) (by decide) (fun _ => hA)).mono ?_
  rintro e w' ⟨S', c', he, h1, h2, h3, h4, h5, h6⟩
  rw [wk_p2] at h1
  refine ⟨S', c', he, ⟨h1, ?_⟩, h4, h6⟩
  have e1 := h2 1 ((num_13 1).2 (by omega))
  have e2 := h2 2 ((num_13 2).2 (by omega))
  have e3 := h3 3 (by decide) (by decide) (fun h => by have := (num_13 3).1 h; omega)
  have e4 := h3 4 (by decide) (by decide) (fun h => by have := (num_13 4).1 h; omega)
  have hr : [c 1, c 2] = [97, 98] := h.2
  simp only [List.cons.injEq, and_true] at hr
  show [c' 1, c' 2, c' 3, c' 4] = _
  rw [e1, e2, e3, e4, hr.1, hr.2]
  rfl

/-- What is read. -/
def WkRd (w : World) (bs : List Nat) (k : Nat) (last : Bool) (e : Ending) (w' : World) : Prop :=
  ∃ gr, e = .returned (.tuple #[.slice (some ⟨gr, 0, none⟩) k k, .bool last]) ∧ Src w' 1 (some ⟨gr, 0, none⟩) k k (lcells bs) ∧ Chg NoS w w' ∧ w.heap.size ≤ gr

theorem wk_rd1 {w : World} {S : Nat → Prop} {g : Nat} {c : Nat → Nat} (h : Wk1 w S g c) :
    Calls Try.prog 12 #[.pointer (some ⟨g, 0, none⟩), .int .i64 1, .int .i64 9] w (WkRd w [97, 98] 2 false) := by
  refine (read_ok h.1 1 9 (by decide) (by decide)).mono ?_
  rintro e w' ⟨gr, he, ho, hc, hn⟩
  rw [show readN 5 [(1, 3)] 1 ((9 : Nat) : Int) = 2 from wk_n1] at he ho
  rw [h.2] at ho
  exact ⟨gr, he, src_own ho, hc, hn⟩

theorem wk_rd2 {w : World} {S : Nat → Prop} {g : Nat} {c : Nat → Nat} (h : Wk2 w S g c) :
    Calls Try.prog 12 #[.pointer (some ⟨g, 0, none⟩), .int .i64 1, .int .i64 9] w (WkRd w [97, 98, 99, 100] 4 true) := by
  refine (read_ok h.1 1 9 (by decide) (by decide)).mono ?_
  rintro e w' ⟨gr, he, ho, hc, hn⟩
  rw [show readN 5 [(1, 5)] 1 ((9 : Nat) : Int) = 4 from wk_n2] at he ho
  rw [h.2] at ho
  exact ⟨gr, he, src_own ho, hc, hn⟩

end Go.Proofs.Ytnbjigopgbjneaa
