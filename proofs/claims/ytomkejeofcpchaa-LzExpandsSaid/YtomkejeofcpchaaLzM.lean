/- Tokens: plain mathematics, no program: which may be, and what bytes they are. -/
import Derived.Test.YtomkejeofcpchaaOpen
import Derived.Test.YtomkejeofcpchaaProg
namespace Go.Proofs.Ytomkejeofcpchaa
open Go.RowKit
set_option linter.unusedVariables false
set_option linter.unusedSimpArgs false

/-- A token: its byte, its length, how far ahead. -/
structure Tk where
  b : Nat
  l : Int
  f : Int
deriving Inhabited

def Tk.good (t : Tk) : Prop := t.b < 256 ∧ (-9223372036854775808 ≤ t.l ∧ t.l ≤ 9223372036854775807) ∧ (-9223372036854775808 ≤ t.f ∧ t.f ≤ 9223372036854775807)
def Tk.wellB (t : Tk) : Bool := if t.l = 0 then decide (t.f = 0) else decide (3 ≤ t.l ∧ t.l ≤ 258 ∧ 1 ≤ t.f ∧ t.f ≤ 32768 ∧ t.b = 0)
def Tk.size (t : Tk) : Int := if t.l < 1 then 1 else t.l

/-- Bytes again, each from so far ahead. -/
def repL (far : Nat) : Nat → List Nat → List Nat
  | 0, out => out
  | n + 1, out => repL far n (out ++ [out.getD (out.length - far) 0])
theorem repL_len (far : Nat) : ∀ (n : Nat) (out : List Nat), (repL far n out).length = out.length + n
  | 0, out => rfl
  | n + 1, out => by rw [repL, repL_len far n]; simp; omega
theorem repL_snoc (far : Nat) : ∀ (n : Nat) (out : List Nat), repL far (n + 1) out = repL far n out ++ [(repL far n out).getD ((repL far n out).length - far) 0]
  | 0, out => rfl
  | n + 1, out => by
    rw [repL, repL_snoc far n, repL]
theorem repL_lt (far : Nat) : ∀ (n : Nat) (out : List Nat), (∀ b ∈ out, b < 256) → ∀ b ∈ repL far n out, b < 256
  | 0, out, h => h
  | n + 1, out, h => by
    rw [repL]
    refine repL_lt far n _ fun b hb => ?_
    rcases List.mem_append.1 hb with hb | hb
    · exact h b hb
    · simp only [List.mem_singleton] at hb
      subst hb
      rcases Nat.lt_or_ge (out.length - far) out.length with h1 | h1
      · rw [List.getD_eq_getElem?_getD, List.getElem?_eq_getElem h1]
        exact h _ (List.getElem_mem _)
      · rw [List.getD_eq_getElem?_getD, List.getElem?_eq_none h1]
        decide

def Tk.put (t : Tk) (out : List Nat) : List Nat := if t.l = 0 then out ++ [t.b] else repL t.f.toNat t.l.toNat out
/-- The error of a token behind n bytes. -/
def Tk.err (t : Tk) (n most : Int) : Int := if t.wellB = false then 2 else if n < t.f then 14 else if most - n < t.size then 3 else 0

theorem Tk.wellB_size {t : Tk} (h : t.wellB = true) : 1 ≤ t.size ∧ t.size ≤ 258 := by
  unfold Tk.wellB at h
  unfold Tk.size
  split at h <;> simp at h <;> split <;> omega
theorem Tk.put_len {t : Tk} (out : List Nat) (h : t.wellB = true) : ((t.put out).length : Int) = out.length + t.size := by
  unfold Tk.wellB at h
  unfold Tk.put Tk.size
  split at h <;> simp at h
  · rename_i h0
    rw [if_pos h0, if_pos (by omega)]
    simp
  · rename_i h0
    rw [if_neg h0, if_neg (by omega), repL_len]
    omega
theorem Tk.put_lt {t : Tk} (out : List Nat) (h : t.b < 256) (ho : ∀ b ∈ out, b < 256) : ∀ b ∈ t.put out, b < 256 := by
  unfold Tk.put
  split
  · intro b hb
    rcases List.mem_append.1 hb with hb | hb
    · exact ho b hb
    · simp only [List.mem_singleton] at hb
      subst hb
      exact h
  · exact repL_lt _ _ _ ho

/-- Tokens' bytes, one behind the other, or the first one's error. -/
def runT (most : Int) : List Tk → List Nat → Except Int (List Nat)
  | [], out => .ok out
  | t :: ts, out => if t.err out.length most = 0 then runT most ts (t.put out) else .error (t.err out.length most)
theorem runT_append (most : Int) (xs ys : List Tk) (out : List Nat) : runT most (xs ++ ys) out = (match runT most xs out with | .ok o => runT most ys o | .error e => .error e) := by
  induction xs generalizing out with
  | nil => rfl
  | cons t ts ih =>
    rw [List.cons_append, runT, runT]
    split
    · exact ih _
    · rfl

def expandT (l : List Tk) (most : Int) : Except Int (List Nat) := if most < 0 ∨ 16777216 < most then .error 2 else runT most l []
def errR : Except Int (List Nat) → Int
  | .ok _ => 0
  | .error e => e
def outR : Except Int (List Nat) → List Nat
  | .ok o => o
  | .error _ => []

theorem take_succ_at {α : Type} {l : List α} {k : Nat} {x : α} (h : l[k]? = some x) : l.take (k + 1) = l.take k ++ [x] := by
  rw [List.take_add_one, h]; rfl
theorem drop_at {α : Type} {l : List α} {k : Nat} {x : α} (h : l[k]? = some x) : l.drop k = x :: l.drop (k + 1) := by
  have hk := (List.getElem?_eq_some_iff.1 h).1
  rw [List.drop_eq_getElem_cons hk]
  congr 1
  exact (List.getElem?_eq_some_iff.1 h).2

/-- A token more. -/
theorem runT_more {most : Int} {l : List Tk} {k : Nat} {t : Tk} {o : List Nat} (h : runT most (l.take k) [] = .ok o) (ht : l[k]? = some t) (he : t.err o.length most = 0) : runT most (l.take (k + 1)) [] = .ok (t.put o) := by
  rw [take_succ_at ht, runT_append, h]
  simp only [runT, he, if_pos]
theorem runT_stop {most : Int} {l : List Tk} {k : Nat} {t : Tk} {o : List Nat} (h : runT most (l.take k) [] = .ok o) (ht : l[k]? = some t) (he : t.err o.length most ≠ 0) : runT most l [] = .error (t.err o.length most) := by
  have e : l = l.take k ++ t :: l.drop (k + 1) := by rw [← drop_at ht, List.take_append_drop]
  rw [e, runT_append, h]
  simp only [runT, if_neg he]
theorem runT_end {most : Int} {l : List Tk} {o : List Nat} (h : runT most (l.take l.length) [] = .ok o) : runT most l [] = .ok o := by
  rwa [List.take_length] at h
/-- What is behind a good beginning, of tokens that are all good. -/
theorem runT_pre {most : Int} {l : List Tk} {r : List Nat} (h : runT most l [] = .ok r) (k : Nat) : ∃ o, runT most (l.take k) [] = .ok o := by
  have e : l = l.take k ++ l.drop k := by rw [List.take_append_drop]
  rw [e, runT_append] at h
  split at h
  · exact ⟨_, ‹_›⟩
  · cases h
theorem err_ok {t : Tk} {n most : Int} (h : t.err n most = 0) : t.wellB = true ∧ t.f ≤ n ∧ t.size ≤ most - n := by
  unfold Tk.err at h
  split at h
  · omega
  · split at h
    · omega
    · split at h
      · omega
      · rename_i h1 h2 h3
        exact ⟨by simpa using h1, by omega, by omega⟩
theorem runT_at {most : Int} {l : List Tk} {r : List Nat} (h : runT most l [] = .ok r) {k : Nat} {t : Tk} (ht : l[k]? = some t) {o : List Nat} (ho : runT most (l.take k) [] = .ok o) : t.err o.length most = 0 := by
  rcases Decidable.em (t.err o.length most = 0) with h1 | h1
  · exact h1
  · rw [runT_stop ho ht h1] at h; cases h
theorem runT_le {most : Int} : ∀ (l : List Tk) (out r : List Nat), runT most l out = .ok r → (out.length : Int) ≤ most → (r.length : Int) ≤ most ∧ out.length ≤ r.length
  | [], out, r, h, hl => by cases h; exact ⟨hl, Nat.le_refl _⟩
  | t :: ts, out, r, h, hl => by
    rw [runT] at h
    split at h
    · rename_i he
      obtain ⟨h1, h2, h3⟩ := err_ok he
      have h4 := t.put_len out h1
      have h5 := Tk.wellB_size h1
      have ih := runT_le ts _ r h (by omega)
      exact ⟨ih.1, by omega⟩
    · cases h
theorem runT_lt {most : Int} : ∀ (l : List Tk) (out r : List Nat), runT most l out = .ok r → (∀ t ∈ l, t.b < 256) → (∀ b ∈ out, b < 256) → ∀ b ∈ r, b < 256
  | [], out, r, h, _, ho => by cases h; exact ho
  | t :: ts, out, r, h, hl, ho => by
    rw [runT] at h
    split at h
    · exact runT_lt ts _ r h (fun x hx => hl x (List.mem_cons_of_mem _ hx)) (Tk.put_lt out (hl t (List.mem_cons_self ..)) ho)
    · cases h
/-- How many tokens, at most: no more than bytes. -/
theorem runT_count {most : Int} : ∀ (l : List Tk) (out r : List Nat), runT most l out = .ok r → out.length + l.length ≤ r.length
  | [], out, r, h => by cases h; simp
  | t :: ts, out, r, h => by
    rw [runT] at h
    split at h
    · rename_i he
      have h1 := (err_ok he).1
      have h4 := t.put_len out h1
      have h5 := Tk.wellB_size h1
      have ih := runT_count ts _ r h
      simp only [List.length_cons]
      omega
    · cases h
/-- .. and fewer, where one is a repetition. -/
theorem runT_fewer {most : Int} : ∀ (l : List Tk) (out r : List Nat), runT most l out = .ok r → (∃ t ∈ l, t.l ≠ 0) → out.length + l.length < r.length
  | [], out, r, h, hx => by obtain ⟨t, ht, _⟩ := hx; cases ht
  | t :: ts, out, r, h, hx => by
    rw [runT] at h
    split at h
    · rename_i he
      have h1 := (err_ok he).1
      have h4 := t.put_len out h1
      have h5 := Tk.wellB_size h1
      have ih := runT_count ts _ r h
      simp only [List.length_cons]
      rcases Decidable.em (t.l = 0) with h0 | h0
      · obtain ⟨x, hx, hx0⟩ := hx
        rcases List.mem_cons.1 hx with e | e
        · subst e; exact absurd h0 hx0
        · have ih2 := runT_fewer ts _ r h ⟨x, e, hx0⟩
          omega
      · have : 3 ≤ t.size := by
          unfold Tk.wellB at h1
          unfold Tk.size
          rw [if_neg h0] at h1
          simp at h1
          split <;> omega
        omega
    · cases h
theorem runT_mono {most most' : Int} (hm : most ≤ most') : ∀ (l : List Tk) (out r : List Nat), runT most l out = .ok r → runT most' l out = .ok r
  | [], out, r, h => h
  | t :: ts, out, r, h => by
    rw [runT] at h ⊢
    split at h
    · rename_i he
      obtain ⟨h1, h2, h3⟩ := err_ok he
      have : t.err out.length most' = 0 := by
        unfold Tk.err
        rw [if_neg (by simp [h1]), if_neg (by omega), if_neg (by omega)]
      rw [if_pos this]
      exact runT_mono hm ts _ r h
    · cases h
/-- A smaller most, that the bytes keep. -/
theorem runT_less {most most' : Int} : ∀ (l : List Tk) (out r : List Nat), runT most l out = .ok r → (r.length : Int) ≤ most' → runT most' l out = .ok r
  | [], out, r, h, _ => h
  | t :: ts, out, r, h, hr => by
    rw [runT] at h ⊢
    split at h
    · rename_i he
      obtain ⟨h1, h2, h3⟩ := err_ok he
      have h4 := t.put_len out h1
      have h6 := runT_count ts _ r h
      have : t.err out.length most' = 0 := by
        unfold Tk.err
        rw [if_neg (by simp [h1]), if_neg (by omega), if_neg (by omega)]
      rw [if_pos this]
      exact runT_less ts _ r h hr
    · cases h

/-- Rows of bytes, and of tokens. -/
def ocells (bs : List Nat) : List Value := bs.map fun b => .int .u8 (b : Nat)
theorem ocells_one (bs : List Nat) : ∀ u ∈ ocells bs, u.oneCell' = true := by
  intro u hu
  obtain ⟨_, _, rfl⟩ := List.mem_map.1 hu
  rfl
theorem ocells_at {bs : List Nat} {k x : Nat} (h : bs[k]? = some x) : (ocells bs)[k]? = some (.int .u8 (x : Nat)) := by simp [ocells, h]
theorem ocells_app (a b : List Nat) : ocells (a ++ b) = ocells a ++ ocells b := by simp [ocells]
theorem ocells_len (a : List Nat) : (ocells a).length = a.length := by simp [ocells]
def encT (t : Tk) : List Value := [.int .u8 (t.b : Nat), .int .i64 t.l, .int .i64 t.f]
def kcells (l : List Tk) : List Value := l.flatMap encT
theorem kcells_len (l : List Tk) : (kcells l).length = l.length * 3 := flat_len encT 3 (fun _ => rfl) l
theorem kcells_one (l : List Tk) : ∀ u ∈ kcells l, u.oneCell' = true := by
  intro u hu
  obtain ⟨x, _, hx⟩ := List.mem_flatMap.1 hu
  simp only [encT, List.mem_cons, List.not_mem_nil, or_false] at hx
  rcases hx with rfl | rfl | rfl <;> rfl
theorem kcells_app (l m : List Tk) : kcells (l ++ m) = kcells l ++ kcells m := by simp [kcells]
theorem kcells_0 {l : List Tk} {k : Nat} {t : Tk} (h : l[k]? = some t) : (kcells l)[k * 3]? = some (.int .u8 (t.b : Nat)) := flat_get encT 3 (fun _ => rfl) l k 0 t h (by decide)
theorem kcells_1 {l : List Tk} {k : Nat} {t : Tk} (h : l[k]? = some t) : (kcells l)[k * 3 + 1]? = some (.int .i64 t.l) := flat_get encT 3 (fun _ => rfl) l k 1 t h (by decide)
theorem kcells_2 {l : List Tk} {k : Nat} {t : Tk} (h : l[k]? = some t) : (kcells l)[k * 3 + 2]? = some (.int .i64 t.f) := flat_get encT 3 (fun _ => rfl) l k 2 t h (by decide)

/-- Behind a call that makes new bytes. -/
def NewB (w : World) (out : List Nat) (A : Option Addr) (c : Nat) (w' : World) : Prop :=
  w'.ownsRow 0 5 1 (.slice A out.length c) out.length (ocells out) ∧ Chg NoS w w' ∧ ∀ a, A = some a → w.heap.size ≤ a.block
def NewT (w : World) (l : List Tk) (A : Option Addr) (c : Nat) (w' : World) : Prop :=
  w'.ownsRow 0 42 3 (.slice A l.length c) l.length (kcells l) ∧ Chg NoS w w' ∧ ∀ a, A = some a → w.heap.size ≤ a.block
end Go.Proofs.Ytomkejeofcpchaa
