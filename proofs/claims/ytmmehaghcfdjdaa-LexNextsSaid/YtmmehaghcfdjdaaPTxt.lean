/- The reader's text in brackets. -/
import Derived.Test.YtmmehaghcfdjdaaPOct
import Derived.Test.YtmmehaghcfdjdaaScopes
import Derived.Test.YtmmehaghcfdjdaaRLx3
import Derived.Deep.Cut
namespace Go.Proofs.Ytmmehaghcfdjdaa
open Go.RowKit
set_option linter.unusedVariables false
set_option linter.unusedSimpArgs false

section
variable {last : Bool} {deep k y : Nat} {out l : List Nat}
theorem cutE_ne (last : Bool) : cutE last ≠ 0 := by cases last <;> decide
theorem txt_13z : txtO last deep out k [13] = txtO last deep (out ++ [10]) (k + 1) [] := by
  cases last
  · rw [txt_13m rfl rfl, txtO_nil]; rfl
  · exact txt_13n (fun e => by cases e.2) (by simp)
theorem txt_sz : txtO last deep out k [92] = (cutE last, [], 0) := by
  rw [txt_92e (by exact cutE_ne last)]; rfl
theorem txt_s10 : txtO last deep out k (92 :: 10 :: l) = txtO last deep out (k + 2) l := by
  have e : escO last (10 :: l) = (0, none, 1) := rfl
  rw [txt_92 (by rw [e]), e]
  simp
theorem txt_s13z : txtO last deep out k [92, 13] = txtO last deep out (k + 2) [] := by
  cases last
  · have e : escO false [13] = (6, none, 0) := rfl
    rw [txt_92e (by rw [e]; decide), e, txtO_nil]; rfl
  · have e : escO true [13] = (0, none, 1) := rfl
    rw [txt_92 (by rw [e]), e]
    simp
theorem txt_s13b (h : l.head? = some 10) : txtO last deep out k (92 :: 13 :: l) = txtO last deep out (k + 3) (l.drop 1) := by
  have e : escO last (13 :: l) = (0, none, 2) := by
    rw [escO_cons]
    simp only [show ¬ 13 = 110 by decide, show ¬ 13 = 114 by decide, show ¬ 13 = 116 by decide, show ¬ 13 = 98 by decide, show ¬ 13 = 102 by decide, show ¬ 13 = 10 by decide, if_false, if_true]
    rw [if_neg (fun e => by rw [e.1] at h; cases h), if_pos h]
  rw [txt_92 (by rw [e]), e]
  simp
theorem txt_s13n (h : ¬ l.head? = some 10) (h2 : l ≠ []) : txtO last deep out k (92 :: 13 :: l) = txtO last deep out (k + 2) l := by
  have e : escO last (13 :: l) = (0, none, 1) := by
    rw [escO_cons]
    simp only [show ¬ 13 = 110 by decide, show ¬ 13 = 114 by decide, show ¬ 13 = 116 by decide, show ¬ 13 = 98 by decide, show ¬ 13 = 102 by decide, show ¬ 13 = 10 by decide, if_false, if_true]
    rw [if_neg (fun e => h2 e.1), if_neg h]
  rw [txt_92 (by rw [e]), e]
  simp
theorem txt_soct (h : 48 ≤ y ∧ y ≤ 55) : txtO last deep out k (92 :: y :: l) = txtO last deep (out ++ [(octs 2 (y - 48) l).1 % 256]) (k + 2 + (octs 2 (y - 48) l).2) (l.drop (octs 2 (y - 48) l).2) := by
  have h3 : octs 3 0 (y :: l) = ((octs 2 (y - 48) l).1, (octs 2 (y - 48) l).2 + 1) := by rw [octs_some h]; simp
  have hle := octs_le 2 (y - 48) l
  obtain ⟨m, hm⟩ : ∃ m, octs 2 (y - 48) l = m := ⟨_, rfl⟩
  rw [hm] at h3 hle ⊢
  have e : escO last (y :: l) = if m.2 + 1 < 3 ∧ (y :: l).length ≤ m.2 + 1 ∧ last = false then (6, none, 0) else (0, some (m.1 % 256), m.2 + 1) := by
    rw [escO_cons, if_neg (by omega), if_neg (by omega), if_neg (by omega), if_neg (by omega), if_neg (by omega), if_neg (by omega), if_neg (by omega), if_neg (by omega), h3]
  by_cases hc : m.2 + 1 < 3 ∧ (y :: l).length ≤ m.2 + 1 ∧ last = false
  · rw [if_pos hc] at e
    have hd : l.drop m.2 = [] := List.drop_of_length_le (by have := hc.2.1; simp only [List.length_cons] at this; omega)
    rw [txt_92e (by rw [e]; decide), e, hd, txtO_nil, hc.2.2]
    rfl
  · rw [if_neg hc] at e
    rw [txt_92 (by rw [e]), e]
    simp only [Option.toList_some, List.drop_succ_cons]
    rw [show k + 1 + (m.2 + 1) = k + 2 + m.2 by omega]
theorem txt_sx (h10 : y ≠ 10) (h13 : y ≠ 13) (h : ¬ (48 ≤ y ∧ y ≤ 55)) : txtO last deep out k (92 :: y :: l) = txtO last deep (out ++ [mnt y]) (k + 2) l := by
  have e : escO last (y :: l) = (0, some (mnt y), 1) := by
    unfold mnt
    rw [escO_cons]
    repeat' split
    all_goals first
      | rfl
      | omega
  rw [txt_92 (by rw [e]), e]
  simp
end
/-- A text's value, or none, and the error. -/
def TkV (kind : Nat) (R : Int × List Nat) : Value := .tuple #[if R.1 = 0 then .agg #[.int .i64 (kind : Nat), .int .i64 0, .string (sb R.2), .slice none 0 0] else .agg #[.int .i64 0, .int .i64 0, .string ⟨#[]⟩, .slice none 0 0], .int .i64 R.1]
/-- Behind the reading of a text: its value and the error; the reader stands at its end, if there is no error. -/
def PTo (V w : World) (R kind : Nat) (r : Int × List Nat × Nat) (e : Ending) (W : World) : Prop := e = .returned (TkV kind (r.1, r.2.1)) ∧ ∃ p, (r.1 = 0 → p = r.2.2) ∧ RE V w W R p
/-- At the label next: the reader stands at k. -/
def TxR (V w : World) (A : Option Addr) (bs : List Nat) (c : Nat) (last : Bool) (R g p : Nat) (k deep : Nat) (out : List Nat) (w' : World) : Prop :=
  RD V w w' A bs.length c last R k out ∧ Blk w' g 26 #[.int .i64 0, .int .i64 0, .string ⟨#[]⟩, .slice none 0 0] ∧ (∀ d ∈ out, d < 256)
def TxJ0 (V w : World) (A : Option Addr) (bs : List Nat) (c : Nat) (last : Bool) (R g p : Nat) (n : Nat) (x : Act) (w' : World) : Prop :=
  x.defers = [] ∧ x.tmps.size = 80 ∧ x.tmps.getD 0 undef = .pointer (some ⟨R, 0, none⟩) ∧ x.tmps.getD 2 undef = .pointer (some ⟨g, 0, none⟩) ∧ ∃ (k deep : Nat) (out : List Nat), x.tmps.getD 4 undef = .int .i64 (deep : Nat) ∧ n = 2 * (bs.length - k) + 1 ∧ k ≤ bs.length ∧ 1 ≤ deep ∧ deep ≤ k + 1 ∧ out.length ≤ k ∧
    Hid (TxR V w A bs c last R g p k deep out w' ∧ txtO last 1 [] p (bs.drop p) = txtO last deep out k (bs.drop k))
def TxJ1 (V w : World) (A : Option Addr) (bs : List Nat) (c : Nat) (last : Bool) (R g p : Nat) (n : Nat) (x : Act) (w' : World) : Prop :=
  x.defers = [] ∧ x.tmps.size = 80 ∧ x.tmps.getD 0 undef = .pointer (some ⟨R, 0, none⟩) ∧ x.tmps.getD 2 undef = .pointer (some ⟨g, 0, none⟩) ∧ ∃ (k deep : Nat) (out : List Nat), n = 0 ∧
    Hid (TxR V w A bs c last R g p k deep out w' ∧ txtO last 1 [] p (bs.drop p) = (cutE last, [], 0))
def TxJ2 (V w : World) (A : Option Addr) (bs : List Nat) (c : Nat) (last : Bool) (R g p : Nat) (n : Nat) (x : Act) (w' : World) : Prop :=
  x.defers = [] ∧ x.tmps.size = 80 ∧ x.tmps.getD 0 undef = .pointer (some ⟨R, 0, none⟩) ∧ x.tmps.getD 2 undef = .pointer (some ⟨g, 0, none⟩) ∧ ∃ (k deep : Nat) (out : List Nat), x.tmps.getD 4 undef = .int .i64 (deep : Nat) ∧ n = 2 * (bs.length - (k + 1)) + 2 ∧ k + 1 ≤ bs.length ∧ 1 ≤ deep ∧ deep ≤ k + 1 ∧ out.length ≤ k ∧
    Hid (TxR V w A bs c last R g p (k + 1) deep out w' ∧ txtO last 1 [] p (bs.drop p) = txtO last deep out k (92 :: bs.drop (k + 1)))
theorem slots_80 {x : Act} {v0 v2 : Value} {C : Act → Prop} (h1 : x.defers = []) (h2 : x.tmps.size = 80) (h3 : x.tmps.getD 0 undef = v0) (h4 : x.tmps.getD 2 undef = v2)
    (k : ∀ f : Nat → Value, f 4 = x.tmps.getD 4 undef → C { tmps := #[v0, f 1, v2, f 3, f 4, f 5, f 6, f 7, f 8, f 9, f 10, f 11, f 12, f 13, f 14, f 15, f 16, f 17, f 18, f 19, f 20, f 21, f 22, f 23, f 24, f 25, f 26, f 27, f 28, f 29, f 30, f 31, f 32, f 33, f 34, f 35, f 36, f 37, f 38, f 39, f 40, f 41, f 42, f 43, f 44, f 45, f 46, f 47, f 48, f 49, f 50, f 51, f 52, f 53, f 54, f 55, f 56, f 57, f 58, f 59, f 60, f 61, f 62, f 63, f 64, f 65, f 66, f 67, f 68, f 69, f 70, f 71, f 72, f 73, f 74, f 75, f 76, f 77, f 78, f 79], defers := [] }) : C x := by
  obtain ⟨t, d⟩ := x
  simp only at h1 h2 h3 h4
  subst h1
  have h5 := k (fun i => t.getD i undef) rfl
  rw [← h3, ← h4] at h5
  rw [arr_slots t 80 h2]
  exact h5
end Go.Proofs.Ytmmehaghcfdjdaa
