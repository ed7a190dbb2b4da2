/- Merged by program: PStk QMnt. -/
import Derived.Test.YtaababegolfjeaaG08
import Derived.Test.YtaababegolfjeaaG14
import Derived.Test.YtaababegolfjeaaG18
/- The stack of what is open, as it lies in memory: each one's row grows in place; what is closed stands whatever is written into those rows. -/
namespace Go.Proofs.Ytaababegolfjeaa
open Go.RowKit
set_option linter.unusedVariables false
set_option linter.unusedSimpArgs false

/-- Which block an address is of. -/
def ob (A : Option Addr) : Option Nat := A.map Addr.block

theorem ob_eq (A : Option Addr) (n c : Nat) : (Value.slice A n c).ownBlock = ob A := by cases A <;> rfl

/-- A tree that stands whatever is written into the blocks O. -/
def Ins (O : Nat → Prop) (w : World) (t : VT) (e : VC) : Prop := ∀ V, Chg O w V → ValIs V t e

theorem Ins.now {O : Nat → Prop} {w : World} {t : VT} {e : VC} (h : Ins O w t e) : ValIs w t e := h w (Chg.refl _ _)

theorem Ins.turn {O O' : Nat → Prop} {w w' : World} {t : VT} {e : VC} (h : Ins O w t e) (hc : Chg O w w') (hO : ∀ i, i < w.heap.size → O' i → O i) : Ins O' w' t e := fun V hV => h V (hc.trans hV hO)

theorem Ins.chg {O : Nat → Prop} {w w' : World} {t : VT} {e : VC} (h : Ins O w t e) (hc : Chg NoS w w') : Ins O w' t e := h.turn (hc.mono (fun _ _ e => e.elim)) (fun _ _ h => h)

theorem val_eq {w : World} {t : VT} {e : VC} (h : ValIs w t e) : e.k = t.kind ∧ e.n = t.num ∧ e.s = t.str := by
  obtain ⟨k, n, s, l⟩ := t
  obtain ⟨h1, h2, h3, _⟩ := h.inv
  exact ⟨h1, h2, h3⟩

theorem Ins.eq {O : Nat → Prop} {w : World} {t : VT} {e : VC} (h : Ins O w t e) : e.k = t.kind ∧ e.n = t.num ∧ e.s = t.str := val_eq h.now

theorem ins_leaf (O : Nat → Prop) (w : World) (k n : Int) (s : ByteArray) (hk : -9223372036854775808 ≤ k ∧ k ≤ 9223372036854775807) (hn : -9223372036854775808 ≤ n ∧ n ≤ 9223372036854775807) (hs : s.size ≤ maxLen) : Ins O w (.mk k n s []) ⟨k, n, s, none, 0, 0⟩ :=
  fun V _ => .mk ⟨k, n, s, none, 0, 0⟩ [] ⟨hk, hn, hs, fun _ => ⟨rfl, rfl⟩, Nat.le_refl _, Nat.zero_le _⟩ rfl (.nil _ _)

/-- What a row reads as. -/
theorem row_isV {w : World} {es : List VC} {ts : List VT} {n c : Nat} {A : Option Addr} (hsrc : Src w 4 A n c (vcells es)) (hl : es.length = n) (ht : ts.length = n) (is : ∀ (j : Nat) (t : VT) (e : VC), ts[j]? = some t → es[j]? = some e → ValIs w t e) : RowIs w A 0 ts := by
  rcases A with _ | ad
  · have h0 := (hsrc.2.1 rfl).1
    rw [h0] at ht
    rw [List.eq_nil_of_length_eq_zero ht]
    exact .nil _ _
  · have key : ∀ (m j : Nat), j + m = n → RowIs w (some ad) j (ts.drop j) := by
      intro m
      induction m with
      | zero =>
        intro j hj
        rw [List.drop_of_length_le (by rw [ht]; omega)]
        exact .nil _ _
      | succ m ih =>
        intro j hj
        have hjt : j < ts.length := by rw [ht]; omega
        have hje : j < es.length := by rw [hl]; omega
        rw [List.drop_eq_getElem_cons hjt]
        refine .cons ad j _ _ es[j] (fun i hi => ?_) (is j _ _ (List.getElem?_eq_getElem hjt) (List.getElem?_eq_getElem hje)) (ih (j + 1) (by omega))
        have h1 := vcells_at (List.getElem?_eq_getElem hje) hi
        rw [List.getElem?_eq_getElem (show i < es[j].cells.length from hi)] at h1 ⊢
        exact hsrc.2.2 ad rfl _ _ h1
    have := key n 0 (by omega)
    rwa [List.drop_zero] at this

theorem own_good {w : World} {e : TypeId} {size n c : Nat} {A : Option Addr} {xs : List Value} (h : w.ownsRow 0 e size (.slice A n c) n xs) : (A = none → n = 0 ∧ c = 0) ∧ n ≤ c ∧ c ≤ maxLen ∧ ∀ a, A = some a → a = ⟨a.block, 0, none⟩ := by
  rcases h.2 with ⟨h1, h0⟩ | ⟨g', cap, cur, h1, hb, hh, h2, h3, _⟩
  · simp only [Value.slice.injEq] at h1
    obtain ⟨rfl, _, rfl⟩ := h1
    exact ⟨fun _ => ⟨h0, rfl⟩, by omega, by omega, fun a ha => (by cases ha)⟩
  · simp only [Value.slice.injEq] at h1
    obtain ⟨rfl, _, rfl⟩ := h1
    exact ⟨fun e => (by cases e), h2, h3, fun a ha => (by cases ha; rfl)⟩

/-- A value whose row none of O is. -/
theorem ins_row {O : Nat → Prop} {w : World} {es : List VC} {ts : List VT} {n c : Nat} {A : Option Addr} {k v : Int} {s : ByteArray} (hown : w.ownsRow 0 27 4 (.slice A n c) n (vcells es)) (hb : ∀ g, ob A = some g → ¬ O g) (hl : es.length = n) (ht : ts.length = n)
    (is : ∀ (j : Nat) (t : VT) (e : VC), ts[j]? = some t → es[j]? = some e → Ins O w t e) (hk : -9223372036854775808 ≤ k ∧ k ≤ 9223372036854775807) (hv : -9223372036854775808 ≤ v ∧ v ≤ 9223372036854775807) (hs : s.size ≤ maxLen) : Ins O w (.mk k v s ts) ⟨k, v, s, A, n, c⟩ := by
  intro V hV
  have hg := own_good hown
  have h1 := own_chg hown hV (fun g hg => hb g (by rwa [ob_eq] at hg))
  exact .mk ⟨k, v, s, A, n, c⟩ ts ⟨hk, hv, hs, hg.1, hg.2.1, Nat.le_trans hg.2.1 hg.2.2.1⟩ ht (row_isV (src_own h1) hl ht (fun j t e h2 h3 => is j t e h2 h3 V hV))

/-- For DictOf. -/
abbrev insVI (O : Nat → Prop) (w : World) : KD.LVI where
  VI := Ins O w
  nm := fun s hs => ins_leaf O w 5 0 s (by decide) (by decide) hs
  eq := fun t e h => h.eq

/-- One that is open. -/
structure FrM where
  k : Int
  es : List VC
  ts : List VT
  A : Option Addr
  c : Nat

def FrM.vc (f : FrM) : VC := ⟨f.k, 0, ⟨#[]⟩, f.A, f.ts.length, f.c⟩

structure FrOk (O : Nat → Prop) (w : World) (f : FrM) : Prop where
  own : w.ownsRow 0 27 4 (.slice f.A f.ts.length f.c) f.ts.length (vcells f.es)
  len : f.es.length = f.ts.length
  is : ∀ (j : Nat) (t : VT) (e : VC), f.ts[j]? = some t → f.es[j]? = some e → Ins O w t e
  kb : f.k = 6 ∨ f.k = 7

theorem FrOk.turn {O O' K : Nat → Prop} {w w' : World} {f : FrM} (h : FrOk O w f) (hc : Chg K w w') (hK : ∀ i, i < w.heap.size → K i → O i) (hO : ∀ i, i < w.heap.size → O' i → O i) (hf : ∀ g, ob f.A = some g → ¬ K g) : FrOk O' w' f :=
  ⟨own_chg h.own hc (fun g hg => hf g (by rwa [ob_eq] at hg)), h.len, fun j t e h1 h2 => (h.is j t e h1 h2).turn (hc.mono hK) hO, h.kb⟩

/-- The stack as the mathematics has it: the innermost first. -/
def stO (fs : List FrM) : List (Int × List VT) := (fs.map fun f => (f.k, f.ts)).reverse

theorem stO_snoc (fs : List FrM) (f : FrM) : stO (fs ++ [f]) = (f.k, f.ts) :: stO fs := by simp [stO]

theorem stO_len (fs : List FrM) : (stO fs).length = fs.length := by simp [stO]

/-- Of a block nothing that is open is a part. -/
structure Apart (O : Nat → Prop) (fs : List FrM) (S : Option Addr) (b : Nat) : Prop where
  o : O b
  s : ob S ≠ some b
  f : ∀ f ∈ fs, ob f.A ≠ some b

/-- The stack in its box gs, and two boxes of values. -/
structure Stk (w0 w : World) (gs b1 b2 : Nat) (c1 c2 : Array Value) (fs : List FrM) (S : Option Addr) (c : Nat) (O : Nat → Prop) : Prop where
  box : Blk w gs 35 #[.slice S fs.length c]
  row : w.ownsRow 0 27 4 (.slice S fs.length c) fs.length (vcells (fs.map FrM.vc))
  fr : ∀ f ∈ fs, FrOk O w f
  og : O gs
  os : ∀ g, ob S = some g → O g
  of : ∀ f ∈ fs, ∀ g, ob f.A = some g → O g ∧ ob S ≠ some g
  ne : fs.Pairwise (fun f f' => ∀ g, ob f.A = some g → ob f'.A ≠ some g)
  new : ∀ i, O i → w0.heap.size ≤ i
  lt : ∀ i, O i → i < w.heap.size
  chg : Chg NoS w0 w
  h1 : Blk w b1 27 c1
  h2 : Blk w b2 27 c2
  a1 : Apart O fs S b1
  a2 : Apart O fs S b2
  n12 : b1 ≠ b2

section
variable {w0 w : World} {gs b1 b2 c : Nat} {c1 c2 : Array Value} {fs : List FrM} {S : Option Addr} {O : Nat → Prop}
theorem Stk.gsS (h : Stk w0 w gs b1 b2 c1 c2 fs S c O) : ob S ≠ some gs := by
  have h1 := own_ne_blk h.row h.box (by decide)
  rwa [ob_eq] at h1
theorem Stk.gsF (h : Stk w0 w gs b1 b2 c1 c2 fs S c O) {f : FrM} (hf : f ∈ fs) : ob f.A ≠ some gs := by
  have h1 := own_ne_blk (h.fr f hf).own h.box (by decide)
  rwa [ob_eq] at h1
theorem Stk.gs1 (h : Stk w0 w gs b1 b2 c1 c2 fs S c O) : gs ≠ b1 := Blk.ne_ h.box h.h1 (by decide)
theorem Stk.gs2 (h : Stk w0 w gs b1 b2 c1 c2 fs S c O) : gs ≠ b2 := Blk.ne_ h.box h.h2 (by decide)
/-- Blocks that are apart are written. -/
theorem Stk.far {w' : World} {K : Nat → Prop} {c1' c2' : Array Value} (h : Stk w0 w gs b1 b2 c1 c2 fs S c O) (hc : Chg K w w') (hK : ∀ i, i < w.heap.size → K i → Apart O fs S i ∧ i ≠ gs) (k1 : Blk w' b1 27 c1') (k2 : Blk w' b2 27 c2') : Stk w0 w' gs b1 b2 c1' c2' fs S c O where
  box := h.box.chg hc (fun e => (hK _ h.box.lt e).2 rfl)
  row := own_chg h.row hc (fun g hg e => by rw [ob_eq] at hg; exact (hK g (h.lt g (h.os g hg)) e).1.s hg)
  fr := fun f hf => (h.fr f hf).turn hc (fun i hi e => (hK i hi e).1.o) (fun _ _ e => e) (fun g hg e => (hK g (h.lt g (h.of f hf g hg).1) e).1.f f hf hg)
  og := h.og
  os := h.os
  of := h.of
  ne := h.ne
  new := h.new
  lt := fun i hi => Nat.lt_of_lt_of_le (h.lt i hi) hc.size
  chg := h.chg.trans hc (fun i hi e => by
    have h1 := h.new i (hK i (Nat.lt_of_lt_of_le hi h.chg.size) e).1.o
    omega)
  h1 := k1
  h2 := k2
  a1 := h.a1
  a2 := h.a2
  n12 := h.n12
theorem Stk.call {w' : World} (h : Stk w0 w gs b1 b2 c1 c2 fs S c O) (hc : Chg NoS w w') : Stk w0 w' gs b1 b2 c1 c2 fs S c O := h.far hc (fun _ _ e => e.elim) (h.h1.chg hc (fun e => e)) (h.h2.chg hc (fun e => e))
theorem Stk.set1 {w' : World} {c1' : Array Value} (h : Stk w0 w gs b1 b2 c1 c2 fs S c O) (hc : Chg (fun i => i = b1) w w') (k1 : Blk w' b1 27 c1') : Stk w0 w' gs b1 b2 c1' c2 fs S c O :=
  h.far hc (fun i _ e => by subst e; exact ⟨h.a1, Ne.symm h.gs1⟩) k1 (h.h2.chg hc (Ne.symm h.n12))
theorem Stk.set2 {w' : World} {c2' : Array Value} (h : Stk w0 w gs b1 b2 c1 c2 fs S c O) (hc : Chg (fun i => i = b2) w w') (k2 : Blk w' b2 27 c2') : Stk w0 w' gs b1 b2 c1 c2' fs S c O :=
  h.far hc (fun i _ e => by subst e; exact ⟨h.a2, Ne.symm h.gs2⟩) (h.h1.chg hc h.n12) k2
theorem Stk.cells (h : Stk w0 w gs b1 b2 c1 c2 fs S c O) : w.cell? ⟨gs, 0, none⟩ = some (.slice S fs.length c) := by have := h.box.cell 0; simpa using this

/-- One more is opened. -/
theorem Stk.push {w1 W : World} {S' : Option Addr} {c' g : Nat} {k : Int} (h : Stk w0 w gs b1 b2 c1 c2 fs S c O) (hk : k = 6 ∨ k = 7) (hgr : w.grownBy w1 (Value.slice S fs.length c).ownBlock) (hS' : ob S' = some g) (hat : ob S = some g ∨ g = w.heap.size) (hg1 : g < w1.heap.size)
    (hW : Chg (fun i => i = g ∨ i = gs) w1 W) (hbox : Blk W gs 35 #[.slice S' (fs.length + 1) c']) (hrow : W.ownsRow 0 27 4 (.slice S' (fs.length + 1) c') (fs.length + 1) (vcells (fs.map FrM.vc ++ [⟨k, 0, ⟨#[]⟩, none, 0, 0⟩]))) :
    Stk w0 W gs b1 b2 c1 c2 (fs ++ [⟨k, [], [], none, 0⟩]) S' c' (fun i => O i ∨ i = g) := by
  have hK : Chg (fun i => ob S = some i ∨ i = gs) w W := by
    have e1 : Chg (fun i => ob S = some i ∨ i = gs) w w1 := (Chg.refl _ _).grown hgr (fun i e _ => .inl (by rwa [ob_eq] at e))
    refine e1.trans hW (fun i hi e => ?_)
    rcases e with rfl | rfl
    · rcases hat with e | e
      · exact .inl e
      · omega
    · exact .inr rfl
  have hKO : ∀ i, i < w.heap.size → (ob S = some i ∨ i = gs) → O i := fun i _ e => by
    rcases e with e | rfl
    · exact h.os i e
    · exact h.og
  have hOO : ∀ i, i < w.heap.size → (O i ∨ i = g) → O i := fun i hi e => by
    rcases e with e | rfl
    · exact e
    · rcases hat with e | e
      · exact h.os _ e
      · omega
  have hgf : ∀ f ∈ fs, ob f.A ≠ some g := fun f hf e => by
    rcases hat with e2 | e2
    · exact (h.of f hf g e).2 e2
    · have := h.lt g (h.of f hf g e).1; omega
  have hsz : w.heap.size ≤ W.heap.size := hK.size
  have hgb : ∀ {b : Nat}, Apart O fs S b → b ≠ g := fun {b} hb e => by
    subst e
    rcases hat with e2 | e2
    · exact hb.s e2
    · have := h.lt _ hb.o; omega
  have hfn : ∀ g', ob (FrM.A ⟨k, [], [], none, 0⟩) = some g' → False := fun g' e => by cases e
  have hap : ∀ {b : Nat}, Apart O fs S b → Apart (fun i => O i ∨ i = g) (fs ++ [⟨k, [], [], none, 0⟩]) S' b := fun {b} hb =>
    ⟨.inl hb.o, fun e => hgb hb (by rw [hS'] at e; exact (Option.some.inj e).symm), fun f hf e => by
      rcases List.mem_append.1 hf with hf | hf
      · exact hb.f f hf e
      · rw [List.mem_singleton.1 hf] at e; exact hfn _ e⟩
  refine ⟨by rw [List.length_append]; exact hbox, by rw [List.length_append, List.map_append]; exact hrow, fun f hf => ?_, .inl h.og, fun g' hg' => .inr (by rw [hS'] at hg'; exact (Option.some.inj hg').symm), fun f hf g' hg' => ?_, ?_, fun i hi => ?_, fun i hi => ?_, ?_, ?_, ?_, hap h.a1, hap h.a2, h.n12⟩
  · rcases List.mem_append.1 hf with hf | hf
    · refine (h.fr f hf).turn hK hKO hOO (fun g' hg' e => ?_)
      rcases e with e | rfl
      · exact (h.of f hf g' hg').2 e
      · exact h.gsF hf hg'
    · rw [List.mem_singleton.1 hf]
      exact ⟨own_nil W 0 _ 4, rfl, fun j t e h1 _ => (by simp at h1), hk⟩
  · rcases List.mem_append.1 hf with hf | hf
    · exact ⟨.inl (h.of f hf g' hg').1, fun e => hgf f hf (by rw [hS'] at e; cases e; exact hg')⟩
    · rw [List.mem_singleton.1 hf] at hg'; exact (hfn _ hg').elim
  · rw [List.pairwise_append]
    exact ⟨h.ne, List.pairwise_singleton _ _, fun f _ f' hf' g' _ e => by rw [List.mem_singleton.1 hf'] at e; exact hfn _ e⟩
  · rcases hi with hi | rfl
    · exact h.new i hi
    · rcases hat with e | e
      · exact h.new _ (h.os _ e)
      · rw [e]; exact h.chg.size
  · rcases hi with hi | rfl
    · exact Nat.lt_of_lt_of_le (h.lt i hi) hsz
    · exact Nat.lt_of_lt_of_le hg1 hW.size
  · exact h.chg.trans hK (fun i hi e => by have := h.new i (hKO i (Nat.lt_of_lt_of_le hi h.chg.size) e); omega)
  · exact h.h1.chg hK (fun e => by
      rcases e with e | e
      · exact h.a1.s e
      · exact h.gs1 e.symm)
  · exact h.h2.chg hK (fun e => by
      rcases e with e | e
      · exact h.a2.s e
      · exact h.gs2 e.symm)

/-- A row told with fewer. -/
theorem own_less {W : World} {e : TypeId} {size n m cc : Nat} {A : Option Addr} {xs : List Value} (h : W.ownsRow 0 e size (.slice A n cc) n xs) (hm : m ≤ n) : W.ownsRow 0 e size (.slice A m cc) m (xs.take (m * size)) := by
  have hl : m * size ≤ n * size := Nat.mul_le_mul_right _ hm
  refine ⟨by rw [List.length_take, h.1]; omega, ?_⟩
  rcases h.2 with ⟨h1, h0⟩ | ⟨g, cap, cur, h1, h2, h3, h4, h5, h6, h7⟩
  · simp only [Value.slice.injEq] at h1
    obtain ⟨rfl, _, rfl⟩ := h1
    exact .inl ⟨by rw [show m = 0 by omega], by omega⟩
  · simp only [Value.slice.injEq] at h1
    obtain ⟨rfl, _, rfl⟩ := h1
    refine .inr ⟨g, cc, cur, rfl, h2, h3, by omega, h5, h6, ?_⟩
    rw [← h7, List.take_take, Nat.min_eq_left hl]

/-- The innermost is closed: its row is nobody's from now on. -/
theorem Stk.pop {W : World} {f : FrM} (h : Stk w0 w gs b1 b2 c1 c2 (fs ++ [f]) S c O) (hW : Chg (fun i => i = gs) w W) (hbox : Blk W gs 35 #[.slice S fs.length c]) :
    Stk w0 W gs b1 b2 c1 c2 fs S c (fun i => O i ∧ ob f.A ≠ some i) ∧ FrOk (fun i => O i ∧ ob f.A ≠ some i) W f := by
  have hfm : f ∈ fs ++ [f] := List.mem_append_right _ (List.mem_singleton_self _)
  have hsub : ∀ {x : FrM}, x ∈ fs → x ∈ fs ++ [f] := fun hx => List.mem_append_left _ hx
  have hKO : ∀ i, i < w.heap.size → i = gs → O i := fun i _ e => by rw [e]; exact h.og
  have hap : ∀ {b : Nat}, Apart O (fs ++ [f]) S b → Apart (fun i => O i ∧ ob f.A ≠ some i) fs S b := fun {b} hb => ⟨⟨hb.o, hb.f f hfm⟩, hb.s, fun x hx => hb.f x (hsub hx)⟩
  have hne := (List.pairwise_append.1 h.ne)
  refine ⟨⟨hbox, ?_, fun x hx => (h.fr x (hsub hx)).turn hW hKO (fun i _ e => e.1) (fun g hg e => h.gsF (hsub hx) (by rw [← e]; exact hg)), ⟨h.og, h.gsF hfm⟩, fun g hg => ⟨h.os g hg, fun e => (h.of f hfm g e).2 hg⟩, fun x hx g hg => ⟨⟨(h.of x (hsub hx) g hg).1, hne.2.2 x hx f (List.mem_singleton_self _) g hg⟩, (h.of x (hsub hx) g hg).2⟩, hne.1, fun i hi => h.new i hi.1, fun i hi => Nat.lt_of_lt_of_le (h.lt i hi.1) hW.size, h.chg.trans hW (fun i hi e => by have := h.new gs h.og; omega), h.h1.chg hW (Ne.symm h.gs1), h.h2.chg hW (Ne.symm h.gs2), hap h.a1, hap h.a2, h.n12⟩, (h.fr f hfm).turn hW hKO (fun i _ e => e.1) (fun g hg e => h.gsF hfm (by rw [← e]; exact hg))⟩
  have hr := h.row
  rw [List.length_append, List.map_append, vcells_app] at hr
  have h1 := own_less (m := fs.length) hr (by simp)
  rw [List.take_append_of_le_length (by rw [vcells_len, List.length_map]; omega), List.take_of_length_le (by rw [vcells_len, List.length_map]; omega)] at h1
  exact own_chg h1 hW (fun g hg e => h.gsS (by rw [ob_eq] at hg; rw [← e]; exact hg))

/-- The innermost one gets a value. -/
theorem Stk.add {w1 W : World} {f : FrM} {t : VT} {e : VC} {A' : Option Addr} {c' g : Nat} (h : Stk w0 w gs b1 b2 c1 c2 (fs ++ [f]) S c O) (hv : Ins O w t e) (hgr : w.grownBy w1 (Value.slice f.A f.ts.length f.c).ownBlock) (hA' : ob A' = some g) (hat : ob f.A = some g ∨ g = w.heap.size) (hg1 : g < w1.heap.size)
    (hW : Chg (fun i => i = g ∨ ob S = some i) w1 W) (hrow : W.ownsRow 0 27 4 (.slice A' (f.ts.length + 1) c') (f.ts.length + 1) (vcells (f.es ++ [e])))
    (hst : W.ownsRow 0 27 4 (.slice S (fs.length + 1) c) (fs.length + 1) (vcells (fs.map FrM.vc ++ [⟨f.k, 0, ⟨#[]⟩, A', f.ts.length + 1, c'⟩]))) :
    Stk w0 W gs b1 b2 c1 c2 (fs ++ [⟨f.k, f.es ++ [e], f.ts ++ [t], A', c'⟩]) S c (fun i => O i ∨ i = g) := by
  have hfm : f ∈ fs ++ [f] := List.mem_append_right _ (List.mem_singleton_self _)
  have hsub : ∀ {x : FrM}, x ∈ fs → x ∈ fs ++ [f] := fun hx => List.mem_append_left _ hx
  have hfo := h.fr f hfm
  have hK : Chg (fun i => ob f.A = some i ∨ ob S = some i) w W := by
    have e1 : Chg (fun i => ob f.A = some i ∨ ob S = some i) w w1 := (Chg.refl _ _).grown hgr (fun i e _ => .inl (by rwa [ob_eq] at e))
    refine e1.trans hW (fun i hi e => ?_)
    rcases e with rfl | e
    · rcases hat with e | e
      · exact .inl e
      · omega
    · exact .inr e
  have hKO : ∀ i, i < w.heap.size → (ob f.A = some i ∨ ob S = some i) → O i := fun i _ e => by
    rcases e with e | e
    · exact (h.of f hfm i e).1
    · exact h.os i e
  have hOO : ∀ i, i < w.heap.size → (O i ∨ i = g) → O i := fun i hi e => by
    rcases e with e | rfl
    · exact e
    · rcases hat with e | e
      · exact (h.of f hfm _ e).1
      · omega
  have hne := (List.pairwise_append.1 h.ne)
  have hgf : ∀ x ∈ fs, ob x.A ≠ some g := fun x hx e => by
    rcases hat with e2 | e2
    · exact hne.2.2 x hx f (List.mem_singleton_self _) g e e2
    · have := h.lt g (h.of x (hsub hx) g e).1; omega
  have hgS : ob S ≠ some g := fun e => by
    rcases hat with e2 | e2
    · exact (h.of f hfm g e2).2 e
    · have := h.lt g (h.os g e); omega
  have hgb : ∀ {b : Nat}, Apart O (fs ++ [f]) S b → b ≠ g := fun {b} hb e => by
    subst e
    rcases hat with e2 | e2
    · exact hb.f f hfm e2
    · have := h.lt _ hb.o; omega
  have hggs : gs ≠ g := fun e => by
    subst e
    rcases hat with e2 | e2
    · exact h.gsF hfm e2
    · have := h.lt _ h.og; omega
  have hsz : w.heap.size ≤ W.heap.size := hK.size
  have hap : ∀ {b : Nat}, Apart O (fs ++ [f]) S b → Apart (fun i => O i ∨ i = g) (fs ++ [⟨f.k, f.es ++ [e], f.ts ++ [t], A', c'⟩]) S b := fun {b} hb =>
    ⟨.inl hb.o, hb.s, fun x hx e => by
      rcases List.mem_append.1 hx with hx | hx
      · exact hb.f x (hsub hx) e
      · rw [List.mem_singleton.1 hx] at e
        have e2 : ob A' = some b := e
        rw [hA'] at e2
        exact hgb hb (Option.some.inj e2).symm⟩
  have hbS : ∀ {b : Nat} {T : TypeId} {cs : Array Value}, Blk w b T cs → ob f.A ≠ some b → ob S ≠ some b → Blk W b T cs := fun hb n1 n2 => hb.chg hK (fun e => by
    rcases e with e | e
    · exact n1 e
    · exact n2 e)
  refine ⟨?_, ?_, fun x hx => ?_, .inl h.og, fun g' hg' => .inl (h.os g' hg'), fun x hx g' hg' => ?_, ?_, fun i hi => ?_, fun i hi => ?_, ?_, ?_, ?_, hap h.a1, hap h.a2, h.n12⟩
  · have hb := h.box
    rw [List.length_append] at hb ⊢
    exact hbS hb (h.gsF hfm) h.gsS
  · rw [List.length_append, List.map_append]
    have e1 : (FrM.vc ⟨f.k, f.es ++ [e], f.ts ++ [t], A', c'⟩) = ⟨f.k, 0, ⟨#[]⟩, A', f.ts.length + 1, c'⟩ := by unfold FrM.vc; simp
    show W.ownsRow 0 _ 4 _ _ (vcells (fs.map FrM.vc ++ [FrM.vc ⟨f.k, f.es ++ [e], f.ts ++ [t], A', c'⟩]))
    rw [e1]
    exact hst
  · rcases List.mem_append.1 hx with hx | hx
    · refine (h.fr x (hsub hx)).turn hK hKO hOO (fun g' hg' e => ?_)
      rcases e with e | e
      · exact hne.2.2 x hx f (List.mem_singleton_self _) g' hg' e
      · exact (h.of x (hsub hx) g' hg').2 e
    · rw [List.mem_singleton.1 hx]
      refine ⟨by simp only [List.length_append]; exact hrow, by simp only [List.length_append, hfo.len]; rfl, fun j t' e' h1 h2 => ?_, hfo.kb⟩
      simp only [] at h1 h2
      by_cases hj : j < f.ts.length
      · rw [List.getElem?_append_left hj] at h1
        rw [List.getElem?_append_left (by rw [hfo.len]; exact hj)] at h2
        exact (hfo.is j t' e' h1 h2).turn (hK.mono hKO) hOO
      · rw [List.getElem?_append_right (by omega)] at h1
        rw [List.getElem?_append_right (by rw [hfo.len]; omega), hfo.len] at h2
        obtain ⟨q, hq⟩ : ∃ q, q = j - f.ts.length := ⟨_, rfl⟩
        rw [← hq] at h1 h2
        cases q with
        | zero =>
          simp at h1 h2
          subst h1 h2
          exact hv.turn (hK.mono hKO) hOO
        | succ q => simp at h1
  · rcases List.mem_append.1 hx with hx | hx
    · exact ⟨.inl (h.of x (hsub hx) g' hg').1, (h.of x (hsub hx) g' hg').2⟩
    · rw [List.mem_singleton.1 hx] at hg'
      have e2 : ob A' = some g' := hg'
      rw [hA'] at e2
      cases e2
      exact ⟨.inr rfl, hgS⟩
  · rw [List.pairwise_append]
    refine ⟨hne.1, List.pairwise_singleton _ _, fun x hx x' hx' g' hg' e => ?_⟩
    rw [List.mem_singleton.1 hx'] at e
    have e2 : ob A' = some g' := e
    rw [hA'] at e2
    cases e2
    exact hgf x hx hg'
  · rcases hi with hi | rfl
    · exact h.new i hi
    · rcases hat with e | e
      · exact h.new _ (h.of f hfm _ e).1
      · rw [e]; exact h.chg.size
  · rcases hi with hi | rfl
    · exact Nat.lt_of_lt_of_le (h.lt i hi) hsz
    · exact Nat.lt_of_lt_of_le hg1 hW.size
  · exact h.chg.trans hK (fun i hi e => by have := h.new i (hKO i (Nat.lt_of_lt_of_le hi h.chg.size) e); omega)
  · exact hbS h.h1 (h.a1.f f hfm) h.a1.s
  · exact hbS h.h2 (h.a2.f f hfm) h.a2.s

end

end Go.Proofs.Ytaababegolfjeaa

/- parse.meant: the value that a word is (written by mkqmnt.py). -/
namespace Go.Proofs.Ytaababegolfjeaa
open Go.RowKit
set_option linter.unusedVariables false
set_option linter.unusedSimpArgs false

/-- The error, the kind and the number of what a word is. -/
def meanO (S : ByteArray) : Int × Int × Int := if S = ⟨#[110, 117, 108, 108]⟩ then (0, 0, 0) else if S = ⟨#[102, 97, 108, 115, 101]⟩ then (0, 1, 0) else if S = ⟨#[116, 114, 117, 101]⟩ then (0, 1, 1) else (11, 0, 0)

theorem mean_word (s : List Nat) : (wordO s).1 = (meanO (sb s)).1 ∧ (wordO s).2 = .mk (meanO (sb s)).2.1 (meanO (sb s)).2.2 ⟨#[]⟩ [] := by
  unfold wordO meanO
  split
  · exact ⟨rfl, rfl⟩
  · split
    · exact ⟨rfl, rfl⟩
    · split
      · exact ⟨rfl, rfl⟩
      · exact ⟨rfl, rfl⟩

set_option maxHeartbeats 4000000 in
theorem qmeant_any (S : ByteArray) (w : World) : Calls Try.prog 12 #[.string S] w fun e w' => e = .returned (.tuple #[.agg #[.int .i64 (meanO S).2.1, .int .i64 (meanO S).2.2, .string ⟨#[]⟩, .slice none 0 0], .int .i64 (meanO S).1]) ∧ Chg NoS w w' := by
  by_cases h1 : S = ⟨#[110, 117, 108, 108]⟩
  · subst h1
    have HE := keepf (show meanO ⟨#[110, 117, 108, 108]⟩ = (0, 0, 0) from rfl)
    rw [HE.out]
    simp only []
    go_enter Try.func12, Try.ntmps12
    go_wp2_with fail
    refine bodyPost_ret (v := .tuple #[.agg #[.int .i64 0, .int .i64 0, .string ⟨#[]⟩, .slice none 0 0], .int .i64 0]) (by simp [results, Try.results12, go_sem]) rfl ?_
    exact ⟨rfl, (Chg.refl NoS w).alloc _⟩
  by_cases h2 : S = ⟨#[102, 97, 108, 115, 101]⟩
  · subst h2
    have HE := keepf (show meanO ⟨#[102, 97, 108, 115, 101]⟩ = (0, 1, 0) from rfl)
    rw [HE.out]
    simp only []
    go_enter Try.func12, Try.ntmps12
    go_wp2_with fail
    refine bodyPost_ret (v := .tuple #[.agg #[.int .i64 1, .int .i64 0, .string ⟨#[]⟩, .slice none 0 0], .int .i64 0]) (by simp [results, Try.results12, go_sem]) rfl ?_
    exact ⟨rfl, (Chg.refl NoS w).alloc _⟩
  by_cases h3 : S = ⟨#[116, 114, 117, 101]⟩
  · subst h3
    have HE := keepf (show meanO ⟨#[116, 114, 117, 101]⟩ = (0, 1, 1) from rfl)
    rw [HE.out]
    simp only []
    go_enter Try.func12, Try.ntmps12
    go_wp2_with fail
    refine bodyPost_ret (v := .tuple #[.agg #[.int .i64 1, .int .i64 1, .string ⟨#[]⟩, .slice none 0 0], .int .i64 0]) (by simp [results, Try.results12, go_sem]) rfl ?_
    exact ⟨rfl, (Chg.refl NoS w).alloc _⟩
  have h12 : (S.toList == [110, 117, 108, 108]) = false := by have h := str_ne11 h1; rw [show (ByteArray.mk #[110, 117, 108, 108]).toList = [110, 117, 108, 108] from by kernel_rfl] at h; simpa using h
  have h13 : ¬ S.toList = [110, 117, 108, 108] := by simpa using h12
  have h22 : (S.toList == [102, 97, 108, 115, 101]) = false := by have h := str_ne11 h2; rw [show (ByteArray.mk #[102, 97, 108, 115, 101]).toList = [102, 97, 108, 115, 101] from by kernel_rfl] at h; simpa using h
  have h23 : ¬ S.toList = [102, 97, 108, 115, 101] := by simpa using h22
  have h32 : (S.toList == [116, 114, 117, 101]) = false := by have h := str_ne11 h3; rw [show (ByteArray.mk #[116, 114, 117, 101]).toList = [116, 114, 117, 101] from by kernel_rfl] at h; simpa using h
  have h33 : ¬ S.toList = [116, 114, 117, 101] := by simpa using h32
  have HE := keepf (show meanO S = (11, 0, 0) from by unfold meanO; rw [if_neg h1, if_neg h2, if_neg h3])
  rw [HE.out]
  simp only []
  go_enter Try.func12, Try.ntmps12
  go_wp2_with fail
  refine bodyPost_ret (v := .tuple #[.agg #[.int .i64 0, .int .i64 0, .string ⟨#[]⟩, .slice none 0 0], .int .i64 11]) (by simp [results, Try.results12, go_sem]) rfl ?_
  exact ⟨rfl, (Chg.refl NoS w).alloc _⟩

end Go.Proofs.Ytaababegolfjeaa

