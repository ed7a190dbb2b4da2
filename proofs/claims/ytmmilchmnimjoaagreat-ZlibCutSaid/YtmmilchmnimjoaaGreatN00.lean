/- Merged by program: Mem Bits Bits2 Open Small Put Writer Reader Get. -/
import Derived.WalkKit
import Derived.Deep.Draws
import Derived.Deep.QuietTactic
import Derived.Maps.AppendAt
import Derived.Laws.AppendOwnNone
import Derived.ProofKit
import Derived.Deep.Slices
import Derived.Deep.Fields
import Derived.Test.YtmmilchmnimjoaaGreatShelf
import Derived.BigQuiet
import Derived.Outline
import Derived.Deep.RegionHeld3
import Derived.Deep.DeepCutAuto
import Derived.Deep.Cut
import Derived.Deep.CutRange
import Derived.StillTailTactics
/- Memory: which blocks a call may have changed, blocks that are known whole, and rows that are owned. Plain lemmas, no program. -/
namespace Go.Proofs.YtmmilchmnimjoaaGreat
open Go.RowKit
set_option linter.unusedVariables false
theorem keepf {p : Prop} (h : p) : Hid p := h
structure Chg (S : Nat → Prop) (w w' : World) : Prop where
  os : w'.os = w.os
  tape : w'.tape = w.tape
  output : w'.output = w.output
  size : w.heap.size ≤ w'.heap.size
  block : ∀ k, k < w.heap.size → ¬ S k → w'.heap[k]? = w.heap[k]?
def NoS : Nat → Prop := fun _ => False
theorem Chg.refl (S : Nat → Prop) (w : World) : Chg S w w := ⟨rfl, rfl, rfl, Nat.le_refl _, fun _ _ _ => rfl⟩
theorem Chg.trans {S T : Nat → Prop} {a b c : World} (h : Chg S a b) (k : Chg T b c) (hT : ∀ i, i < a.heap.size → T i → S i) : Chg S a c :=
  ⟨k.os.trans h.os, k.tape.trans h.tape, k.output.trans h.output, Nat.le_trans h.size k.size, fun i hi hs => (k.block i (Nat.lt_of_lt_of_le hi h.size) (fun ht => hs (hT i hi ht))).trans (h.block i hi hs)⟩
theorem Chg.mono {S T : Nat → Prop} {a b : World} (h : Chg S a b) (hT : ∀ i, i < a.heap.size → S i → T i) : Chg T a b :=
  ⟨h.os, h.tape, h.output, h.size, fun i hi ht => h.block i hi (fun hs => ht (hT i hi hs))⟩
theorem Chg.drew {S : Nat → Prop} {a b : World} (h : Chg S a b) : Chg S a b.drew := ⟨h.os, h.tape, h.output, h.size, h.block⟩
theorem Chg.drewN {S : Nat → Prop} {a b : World} (h : Chg S a b) (n : Nat) : Chg S a (b.drewN n) := ⟨h.os, h.tape, h.output, h.size, h.block⟩
theorem Chg.undrewN {S : Nat → Prop} {a b : World} {n : Nat} (h : Chg S (a.drewN n) b) : Chg S a b := ⟨h.os, h.tape, h.output, h.size, h.block⟩
theorem Chg.alloc {S : Nat → Prop} {a b : World} (h : Chg S a b) (o : Obj) : Chg S a (b.alloc o) :=
  ⟨h.os, h.tape, h.output, Nat.le_trans h.size (by simp), fun i hi hs => (Below.heap_alloc b o i (Nat.lt_of_lt_of_le hi h.size)).trans (h.block i hi hs)⟩
theorem Chg.setCell {S : Nat → Prop} {a b : World} (h : Chg S a b) {p : Addr} (hp : p.block < a.heap.size → S p.block) (u : Value) : Chg S a (b.setCell p u) :=
  ⟨h.os, h.tape, h.output, by simpa [World.setCell] using h.size, fun i hi hs => (Below.heap_setCell b p u i (by rintro rfl; exact hs (hp hi))).trans (h.block i hi hs)⟩
theorem Chg.grown {S : Nat → Prop} {a b c : World} {row : Option Nat} (h : Chg S a b) (hg : b.grownBy c row) (hr : ∀ k, row = some k → k < a.heap.size → S k) : Chg S a c :=
  ⟨hg.os.trans h.os, hg.tape.trans h.tape, hg.output.trans h.output, Nat.le_trans h.size hg.size, fun i hi hs => (hg.block i (Nat.lt_of_lt_of_le hi h.size) (fun e => hs (hr i e.symm hi))).trans (h.block i hi hs)⟩
theorem Chg.below {S : Nat → Prop} {a b : World} {B : Nat} (h : Chg S a b) (hB : B ≤ a.heap.size) (hS : ∀ i, i < B → ¬ S i) : Below B a b :=
  ⟨h.os, h.tape, h.output, h.size, fun i hi => h.block i (Nat.lt_of_lt_of_le hi hB) (hS i hi)⟩
theorem Chg.of_below {a b : World} {S : Nat → Prop} (h : Below a.heap.size a b) : Chg S a b := ⟨h.os, h.tape, h.output, h.size, fun i hi _ => h.block i hi⟩
theorem Chg.cell {S : Nat → Prop} {a b : World} (h : Chg S a b) {p : Addr} (hp : p.block < a.heap.size) (hs : ¬ S p.block) : b.cell? p = a.cell? p := World.cell?_of_block (h.block p.block hp hs)
theorem Chg.no_below {a b : World} (h : Chg NoS a b) : Below a.heap.size a b := h.below (Nat.le_refl _) (fun _ _ h => h)
def Blk (w : World) (g : Nat) (t : TypeId) (cs : Array Value) : Prop := w.heap[g]? = some (.cells cs t (0, 0))
section
variable {w w' : World} {g : Nat} {t : TypeId} {cs : Array Value}
theorem Blk.lt (h : Blk w g t cs) : g < w.heap.size := (Array.getElem?_eq_some_iff.1 h).1
theorem Blk.cell (h : Blk w g t cs) (i : Nat) : w.cell? ⟨g, i, none⟩ = cs[i]? := cell_of_row w g i cs t (0, 0) h
theorem Blk.frozen (h : Blk w g t cs) (i : Nat) : w.frozen? ⟨g, i, none⟩ = false := by
  have h' : w.heap[g]? = some (.cells cs t (0, 0)) := h
  simp [World.frozen?, h']
theorem Blk.new (w : World) (t : TypeId) (cs : Array Value) : Blk (w.alloc (.cells cs t)) w.heap.size t cs := heap_alloc_new w _
theorem Blk.chg {S : Nat → Prop} (h : Blk w g t cs) (hc : Chg S w w') (hs : ¬ S g) : Blk w' g t cs := (hc.block g h.lt hs).trans h
theorem Blk.drew (h : Blk w g t cs) : Blk w.drew g t cs := h
theorem Blk.drewN (h : Blk w g t cs) (n : Nat) : Blk (w.drewN n) g t cs := h
theorem Blk.alloc (h : Blk w g t cs) (o : Obj) : Blk (w.alloc o) g t cs := (Below.heap_alloc w o g h.lt).trans h
theorem Blk.set_ (h : Blk w g t cs) (i : Nat) (u : Value) : Blk (w.setCell ⟨g, i, none⟩ u) g t (cs.setIfInBounds i u) := by
  have h' : w.heap[g]? = some (.cells cs t (0, 0)) := h
  show (w.setCell ⟨g, i, none⟩ u).heap[g]? = _
  simp [World.setCell, Array.getElem?_modify, h']
theorem Blk.far (h : Blk w g t cs) {p : Addr} (hp : g ≠ p.block) (u : Value) : Blk (w.setCell p u) g t cs := (Below.heap_setCell w p u g hp).trans h
theorem Blk.grown {row : Option Nat} (h : Blk w g t cs) (hb : w.grownBy w' row) (hg : some g ≠ row) : Blk w' g t cs := (hb.block g h.lt hg).trans h
theorem Blk.ne_ {g' : Nat} {t' : TypeId} {cs' : Array Value} (h : Blk w g t cs) (h' : Blk w g' t' cs') (hne : t ≠ t') : g ≠ g' := by
  rintro rfl
  have e := h.symm.trans h'
  injection e with e
  injection e with _ e
  exact hne e
end
section
variable {w w' : World} {base : Nat} {e : TypeId} {size n : Nat} {v : Value} {xs : List Value}
theorem own_lt (h : w.ownsRow base e size v n xs) {g : Nat} (hg : v.ownBlock = some g) : g < w.heap.size := by
  rcases h.2 with ⟨rfl, _⟩ | ⟨g', cap, cur, rfl, _, hh, _⟩
  · simp [Value.ownBlock] at hg
  · have e : g' = g := by simpa [Value.ownBlock] using hg
    subst e
    exact (Array.getElem?_eq_some_iff.1 hh).1
theorem own_ne_blk {g : Nat} {t : TypeId} {cs : Array Value} (h : w.ownsRow base e size v n xs) (hg : Blk w g t cs) (hne : e ≠ t) : v.ownBlock ≠ some g := by
  rcases h.2 with ⟨rfl, _⟩ | ⟨g', cap, cur, rfl, _, hh, _⟩
  · simp [Value.ownBlock]
  · intro he
    have e1 : g' = g := by simpa [Value.ownBlock] using he
    subst e1
    exact Blk.ne_ (t := e) (t' := t) hh hg hne rfl
theorem own_chg {S : Nat → Prop} (h : w.ownsRow base e size v n xs) (hc : Chg S w w') (hs : ∀ g, v.ownBlock = some g → ¬ S g) : w'.ownsRow base e size v n xs := by
  refine ⟨h.1, ?_⟩
  rcases h.2 with h2 | ⟨g', cap, cur, rfl, hb, hh, r⟩
  · exact .inl h2
  · exact .inr ⟨g', cap, cur, rfl, hb, (hc.block g' (Array.getElem?_eq_some_iff.1 hh).1 (hs g' rfl)).trans hh, r⟩
theorem own_form (h : w.ownsRow base e size v n xs) (hn : 0 < n) : ∃ g cap, v = .slice (some ⟨g, 0, none⟩) n cap ∧ n ≤ cap ∧ cap ≤ maxLen := by
  rcases h.2 with ⟨_, h0⟩ | ⟨g', cap, cur, rfl, hb, hh, h1, h2, _⟩
  · omega
  · exact ⟨g', cap, rfl, h1, h2⟩
theorem own_slice (h : w.ownsRow base e size v n xs) : ∃ A cap, v = .slice A n cap ∧ (A = none → n = 0 ∧ cap = 0) := by
  rcases h.2 with ⟨rfl, rfl⟩ | ⟨g', cap, cur, rfl, _⟩
  · exact ⟨none, 0, rfl, fun _ => ⟨rfl, rfl⟩⟩
  · exact ⟨_, cap, rfl, fun h => by cases h⟩
theorem own_drew (h : w.ownsRow base e size v n xs) : w.drew.ownsRow base e size v n xs := h
theorem own_drewN (h : w.ownsRow base e size v n xs) (k : Nat) : (w.drewN k).ownsRow base e size v n xs := h
theorem own_nil (w : World) (base : Nat) (e : TypeId) (size : Nat) : w.ownsRow base e size (.slice none 0 0) 0 [] := ⟨by simp, .inl ⟨rfl, rfl⟩⟩
end
def Src (w : World) (size : Nat) (A : Option Addr) (n c : Nat) (xs : List Value) : Prop :=
  xs.length = n * size ∧ (A = none → n = 0 ∧ c = 0) ∧ ∀ ad, A = some ad → ∀ j u, xs[j]? = some u → w.cell? (ad.add j) = some u
theorem src_own {w : World} {base : Nat} {e : TypeId} {size n c : Nat} {A : Option Addr} {xs : List Value} (h : w.ownsRow base e size (.slice A n c) n xs) : Src w size A n c xs := by
  refine ⟨h.1, ?_, ?_⟩
  · rintro rfl
    rcases h.2 with ⟨h', h0⟩ | ⟨g', cap, cur, h', _⟩
    · simp only [Value.slice.injEq] at h'
      exact ⟨h0, h'.2.2⟩
    · simp at h'
  · rintro ad rfl j u hu
    rcases h.2 with ⟨h', h0⟩ | ⟨g', cap, cur, h', _⟩
    · simp at h'
    · simp only [Value.slice.injEq, Option.some.injEq] at h'
      obtain ⟨rfl, _, rfl⟩ := h'
      have hj : j < n * size := by
        have := (List.getElem?_eq_some_iff.1 hu).1
        rw [h.1] at this
        exact this
      have hc := h.cellAt j hj
      rw [hu] at hc
      by_cases h0 : j = 0
      · subst h0; simpa [Addr.add] using hc
      · simpa [Addr.add, h0] using hc
theorem wpList_append_src {P : Program} {w : World} {ops : Array Oper} {rest : List Oper} {o : Oper} {a : Act} {Q : Exit → Act → World → Prop} (hgd : o.guard = none) (s x : Operand) (t : TypeId)
    (ho : o.op = .call { callee := .builtin .append, args := #[s, x], argTypes := #[t, t] })
    (e : TypeId) (i : TypeInfo) (z : Value) (size bytes : Nat) (ht : P.underlying t = some (.slice e)) (hi : P.info? e = some i) (hz : i.zero = some z)
    (hsize : i.size = size) (hby : i.bytes = bytes) (hzs : z.cells.size = size) (hsz : 0 < size)
    (v : Value) (n : Nat) (xs : List Value) (hs : a.eval s = v) (hown : w.ownsRow 0 e size v n xs)
    (A : Option Addr) (m c : Nat) (news : List Value) (hx : a.eval x = .slice A m c) (hnews : Src w size A m c news) (h1 : ∀ u ∈ news, u.oneCell' = true)
    (h63 : n + m ≤ maxLen) (hbytes : (n + m) * bytes ≤ 140737488355328)
    (h : ∀ v' w', w'.ownsRow 0 e size v' (n + m) (xs ++ news) → w.grownBy w' v.ownBlock → (v'.ownBlock = v.ownBlock ∨ v'.ownBlock = some w.heap.size) → wpList P ops Q rest (a.put o.dst v') w') :
    wpList P ops Q (o :: rest) a w := by
  rcases A with _ | ad
  · obtain ⟨rfl, rfl⟩ := hnews.2.1 rfl
    have hn : news = [] := List.eq_nil_of_length_eq_zero (by simpa using hnews.1)
    subst hn
    exact wpList_append_own_none hgd s x t ho 0 e i size ht hi v n xs hs hown hx (h v w (by simpa using hown) (World.grownBy.refl w _) (.inl rfl))
  · exact wpList_append_own_at w hgd s x t ho 0 e i z size bytes ht hi hz hsize hby hzs hsz v n xs hs hown ad m c news hx hnews.1 (hnews.2.2 ad rfl) h1 h63 hbytes (Nat.zero_le _) (fun v' w' a b _ d => h v' w' a b d)
theorem same_right {P : Program} {f : FuncId} {args : Array Value} {w : World} {v : Value}
    (h : Calls P f args w fun e w' => e = .returned v ∧ w = w') : Calls P f args w fun e w' => e = .returned v ∧ w' = w :=
  h.mono fun _ _ ⟨he, hm⟩ => ⟨he, hm.symm⟩
theorem quiet_left {P : Program} {f : FuncId} {args : Array Value} {w : World} {n : Nat} {v : Value}
    (h : Calls P f args (w.drewN n) fun e w' => e = .returned v ∧ w.drewN n = w') : Calls P f args (w.drewN n) fun e w'' => e = .returned v ∧ ∃ m, w'' = w.drewN m :=
  h.mono fun _ _ ⟨he, hm⟩ => ⟨he, n, hm.symm⟩
end Go.Proofs.YtmmilchmnimjoaaGreat
/- Rows of bits as bytes and as numbers: plain mathematics, no program. -/
namespace Go.Proofs.YtmmilchmnimjoaaGreat
set_option linter.unusedVariables false
def obf (f : Nat → Bool) : Nat → Nat
  | 0 => 0
  | n + 1 => obf f n + if f n then 2 ^ n else 0
theorem obf_lt (f : Nat → Bool) (n : Nat) : obf f n < 2 ^ n := by
  induction n with
  | zero => simp [obf]
  | succ n ih =>
    rw [obf, Nat.pow_succ]
    split <;> omega
theorem obf_bit (f : Nat → Bool) (n i : Nat) : (obf f n).testBit i = (decide (i < n) && f i) := by
  induction n with
  | zero => simp [obf]
  | succ n ih =>
    have hl := obf_lt f n
    rw [obf]
    by_cases hf : f n = true
    · rw [if_pos hf, Nat.add_comm, show 2 ^ n + obf f n = 2 ^ n * 1 + obf f n from by omega, Nat.testBit_two_pow_mul_add 1 hl]
      by_cases h1 : i < n
      · simp [h1, ih, show i < n + 1 from by omega]
      · by_cases h2 : i = n
        · subst h2; simp [hf]
        · have h3 : ¬ i < n + 1 := by omega
          have h4 : 0 < i - n := by omega
          simp only [h1, if_false, h3, decide_false, Bool.false_and]
          obtain ⟨m, hm⟩ : ∃ m, i - n = m + 1 := ⟨i - n - 1, by omega⟩
          rw [hm, Nat.testBit_succ]
          simp
    · rw [if_neg hf, Nat.add_zero, ih]
      by_cases h1 : i < n
      · simp [h1, show i < n + 1 from by omega]
      · by_cases h2 : i = n
        · subst h2; simp [hf]
        · simp [h1, show ¬ i < n + 1 from by omega]
theorem obf_congr (f g : Nat → Bool) (n : Nat) (h : ∀ p, p < n → f p = g p) : obf f n = obf g n := by
  apply Nat.eq_of_testBit_eq
  intro i
  rw [obf_bit, obf_bit]
  by_cases hi : i < n
  · simp [hi, h i hi]
  · simp [hi]
def rowAt (high : Bool) (p : Nat) : Nat := bif high then 7 - p else p
def byteAt (high : Bool) (L : List Bool) (i : Nat) : Nat := obf (fun p => L.getD (8 * i + rowAt high p) false) 8
def nby (n : Nat) : Nat := (n + 7) / 8
def bytesOf (high : Bool) (L : List Bool) : List Nat := (List.range (nby L.length)).map (byteAt high L)
theorem bytesOf_length (high : Bool) (L : List Bool) : (bytesOf high L).length = nby L.length := by simp [bytesOf]
theorem bytesOf_get (high : Bool) (L : List Bool) (i : Nat) (h : i < nby L.length) : (bytesOf high L)[i]? = some (byteAt high L i) := by
  simp [bytesOf, h]
theorem byteAt_lt (high : Bool) (L : List Bool) (i : Nat) : byteAt high L i < 256 := obf_lt _ 8
def abn (high : Bool) (n d k : Nat) : Nat := bif high then n - d - k else d
def numBits (high : Bool) (x n : Nat) : List Bool := (List.range n).map fun k => x.testBit (bif high then n - 1 - k else k)
theorem numBits_length (high : Bool) (x n : Nat) : (numBits high x n).length = n := by simp [numBits]
theorem numBits_getD (high : Bool) (x n k : Nat) (h : k < n) : (numBits high x n).getD k false = x.testBit (bif high then n - 1 - k else k) := by
  simp [numBits, List.getD_eq_getElem?_getD, h]
theorem getD_take (L : List Bool) (d j : Nat) : (L.take d).getD j false = if j < d then L.getD j false else false := by
  simp only [List.getD_eq_getElem?_getD, List.getElem?_take]
  split <;> rfl
theorem getD_append (L M : List Bool) (j : Nat) : (L ++ M).getD j false = if j < L.length then L.getD j false else M.getD (j - L.length) false := by
  simp only [List.getD_eq_getElem?_getD]
  split
  · rw [List.getElem?_append_left ‹_›]
  · rw [List.getElem?_append_right (by omega)]
theorem put_piece (high : Bool) (L : List Bool) (x n d k : Nat) (hd : d + k ≤ n) (hk : (L.length + d) % 8 + k ≤ 8) :
    byteAt high (L ++ (numBits high x n).take (d + k)) ((L.length + d) / 8) =
      byteAt high (L ++ (numBits high x n).take d) ((L.length + d) / 8) ||| ((x / 2 ^ abn high n d k) % 2 ^ k * 2 ^ abn high 8 ((L.length + d) % 8) k) := by
  apply Nat.eq_of_testBit_eq
  intro p
  rw [Nat.testBit_or, byteAt, byteAt, obf_bit, obf_bit, Nat.testBit_mul_two_pow, Nat.testBit_mod_two_pow, Nat.testBit_div_two_pow]
  by_cases hp : p < 8
  · simp only [hp, decide_true, Bool.true_and]
    rw [getD_append, getD_append, getD_take, getD_take]
    have hm : (L.length + d) = 8 * ((L.length + d) / 8) + (L.length + d) % 8 := by omega
    generalize (L.length + d) / 8 = q at *
    generalize (L.length + d) % 8 = r at *
    by_cases h1 : 8 * q + rowAt high p < L.length
    · simp only [h1, if_true]
      have : ¬ (abn high 8 r k ≤ p ∧ p - abn high 8 r k < k) := by
        cases high <;> simp [rowAt, abn] at h1 ⊢ <;> omega
      by_cases h2 : abn high 8 r k ≤ p
      · have h3 : ¬ (p - abn high 8 r k < k) := fun h => this ⟨h2, h⟩
        simp [h3]
      · simp [h2]
    · simp only [h1, if_false]
      by_cases h2 : 8 * q + rowAt high p - L.length < d
      · simp only [h2, if_true, show 8 * q + rowAt high p - L.length < d + k from by omega]
        have : ¬ (abn high 8 r k ≤ p ∧ p - abn high 8 r k < k) := by
          cases high <;> simp [rowAt, abn] at h1 h2 ⊢ <;> omega
        by_cases h2 : abn high 8 r k ≤ p
        · have h3 : ¬ (p - abn high 8 r k < k) := fun h => this ⟨h2, h⟩
          simp [h3]
        · simp [h2]
      · simp only [h2, if_false, Bool.false_or]
        by_cases h3 : 8 * q + rowAt high p - L.length < d + k
        · simp only [h3, if_true]
          rw [numBits_getD _ _ _ _ (by omega)]
          have h4 : abn high 8 r k ≤ p ∧ p - abn high 8 r k < k := by
            cases high <;> simp [rowAt, abn] at h1 h2 h3 ⊢ <;> omega
          simp only [h4.1, h4.2, decide_true, Bool.true_and]
          congr 1
          cases high <;> simp [rowAt, abn] at h1 h2 h3 h4 ⊢ <;> omega
        · simp only [h3, if_false]
          have : ¬ (abn high 8 r k ≤ p ∧ p - abn high 8 r k < k) := by
            cases high <;> simp [rowAt, abn] at h1 h2 h3 ⊢ <;> omega
          by_cases h5 : abn high 8 r k ≤ p
          · have h6 : ¬ (p - abn high 8 r k < k) := fun h => this ⟨h5, h⟩
            simp [h6]
          · simp [h5]
  · simp only [hp, decide_false, Bool.false_and, Bool.false_or]
    have : ¬ (abn high 8 ((L.length + d) % 8) k ≤ p ∧ p - abn high 8 ((L.length + d) % 8) k < k) := by
      cases high <;> simp [abn] <;> omega
    by_cases h5 : abn high 8 ((L.length + d) % 8) k ≤ p
    · have h6 : ¬ (p - abn high 8 ((L.length + d) % 8) k < k) := fun h => this ⟨h5, h⟩
      simp [h6]
    · simp [h5]
theorem put_other (high : Bool) (L M M' : List Bool) (i : Nat) (h : 8 * i + 8 ≤ L.length) : byteAt high (L ++ M) i = byteAt high (L ++ M') i := by
  apply obf_congr
  intro p hp
  rw [getD_append, getD_append, if_pos, if_pos]
  all_goals (cases high <;> simp [rowAt] <;> omega)
def bitAt (high : Bool) (bs : List Nat) (i : Nat) : Bool := (bs.getD (i / 8) 0).testBit (rowAt high (i % 8))
def getPart (high : Bool) (bs : List Nat) (a n d : Nat) : Nat :=
  obf (fun p => decide ((bif high then n - 1 - p else p) < d) && bitAt high bs (a + (bif high then n - 1 - p else p))) n
def numAt (high : Bool) (bs : List Nat) (a n : Nat) : Nat := obf (fun p => bitAt high bs (a + (bif high then n - 1 - p else p))) n
theorem getPart_zero (high : Bool) (bs : List Nat) (a n : Nat) : getPart high bs a n 0 = 0 := by
  apply Nat.eq_of_testBit_eq
  intro p
  simp [getPart, obf_bit]
theorem getPart_all (high : Bool) (bs : List Nat) (a n : Nat) : getPart high bs a n n = numAt high bs a n := by
  apply obf_congr
  intro p hp
  cases high
  · simp [hp]
  · simp; omega
theorem getPart_lt (high : Bool) (bs : List Nat) (a n d : Nat) : getPart high bs a n d < 2 ^ n := obf_lt _ _
theorem get_piece (high : Bool) (bs : List Nat) (a n d k : Nat) (hd : d + k ≤ n) (hk : (a + d) % 8 + k ≤ 8) :
    getPart high bs a n (d + k) = getPart high bs a n d ||| (bs.getD ((a + d) / 8) 0 / 2 ^ abn high 8 ((a + d) % 8) k % 2 ^ k * 2 ^ abn high n d k) := by
  apply Nat.eq_of_testBit_eq
  intro p
  rw [Nat.testBit_or, getPart, getPart, obf_bit, obf_bit, Nat.testBit_mul_two_pow, Nat.testBit_mod_two_pow, Nat.testBit_div_two_pow]
  have hm : (a + d) = 8 * ((a + d) / 8) + (a + d) % 8 := by omega
  by_cases hp : p < n
  · simp only [hp, decide_true, Bool.true_and]
    by_cases h1 : (bif high then n - 1 - p else p) < d
    · have h3 : ¬ (abn high n d k ≤ p ∧ p - abn high n d k < k) := by
        cases high <;> simp [abn] at h1 ⊢ <;> omega
      have h2 : (bif high then n - 1 - p else p) < d + k := by omega
      simp only [h1, h2, decide_true, Bool.true_and]
      by_cases h5 : abn high n d k ≤ p
      · have h6 : ¬ (p - abn high n d k < k) := fun h => h3 ⟨h5, h⟩
        simp [h6]
      · simp [h5]
    · simp only [h1, decide_false, Bool.false_and, Bool.false_or]
      by_cases h2 : (bif high then n - 1 - p else p) < d + k
      · have h3 : abn high n d k ≤ p ∧ p - abn high n d k < k := by
          cases high <;> simp [abn] at h1 h2 ⊢ <;> omega
        simp only [h2, h3.1, h3.2, decide_true, Bool.true_and]
        rw [bitAt]
        have hq : (a + (bif high then n - 1 - p else p)) / 8 = (a + d) / 8 := by
          cases high <;> simp at h1 h2 ⊢ <;> omega
        rw [hq]
        congr 1
        have hr : (a + (bif high then n - 1 - p else p)) % 8 = (a + d) % 8 + ((bif high then n - 1 - p else p) - d) := by
          cases high <;> simp at h1 h2 ⊢ <;> omega
        rw [hr]
        cases high <;> simp [rowAt, abn] at h1 h2 h3 ⊢ <;> omega
      · have h3 : ¬ (abn high n d k ≤ p ∧ p - abn high n d k < k) := by
          cases high <;> simp [abn] at h1 h2 ⊢ <;> omega
        simp only [h2, decide_false, Bool.false_and]
        by_cases h5 : abn high n d k ≤ p
        · have h6 : ¬ (p - abn high n d k < k) := fun h => h3 ⟨h5, h⟩
          simp [h6]
        · simp [h5]
  · simp only [hp, decide_false, Bool.false_and, Bool.false_or]
    have h3 : ¬ (abn high n d k ≤ p ∧ p - abn high n d k < k) := by
      cases high <;> simp [abn] <;> omega
    by_cases h5 : abn high n d k ≤ p
    · have h6 : ¬ (p - abn high n d k < k) := fun h => h3 ⟨h5, h⟩
      simp [h6]
    · simp [h5]
theorem bitAt_bytes (high : Bool) (L : List Bool) (i : Nat) : bitAt high (bytesOf high L) i = L.getD i false := by
  rw [bitAt]
  by_cases h : i / 8 < nby L.length
  · rw [List.getD_eq_getElem?_getD, bytesOf_get _ _ _ h, Option.getD_some, byteAt, obf_bit]
    have h8 : i % 8 < 8 := Nat.mod_lt _ (by omega)
    have hr : rowAt high (i % 8) < 8 := by cases high <;> simp [rowAt] <;> omega
    have he : 8 * (i / 8) + rowAt high (rowAt high (i % 8)) = i := by cases high <;> simp [rowAt] <;> omega
    simp [hr, he]
  · have h1 : L.length ≤ i := by unfold nby at h; omega
    have h2 : (bytesOf high L).length ≤ i / 8 := by rw [bytesOf_length]; omega
    rw [List.getD_eq_getElem?_getD, List.getElem?_eq_none h2, List.getD_eq_getElem?_getD, List.getElem?_eq_none h1]
    simp
theorem numAt_put (high : Bool) (L M : List Bool) (x n : Nat) (hx : x < 2 ^ n) : numAt high (bytesOf high (L ++ (numBits high x n ++ M))) L.length n = x := by
  apply Nat.eq_of_testBit_eq
  intro p
  rw [numAt, obf_bit]
  by_cases hp : p < n
  · have h1 : (bif high then n - 1 - p else p) < n := by cases high <;> simp <;> omega
    rw [bitAt_bytes, getD_append, if_neg (by omega), getD_append, numBits_length, if_pos (by omega), Nat.add_sub_cancel_left, numBits_getD _ _ _ _ h1]
    simp only [hp, decide_true, Bool.true_and]
    congr 1
    cases high <;> simp <;> omega
  · simp only [hp, decide_false, Bool.false_and]
    symm
    exact Nat.testBit_lt_two_pow (Nat.lt_of_lt_of_le hx (Nat.pow_le_pow_right (by decide) (by omega)))
end Go.Proofs.YtmmilchmnimjoaaGreat
/- Rows of bits got back as numbers: plain mathematics, no program. -/
namespace Go.Proofs.YtmmilchmnimjoaaGreat
set_option linter.unusedVariables false
theorem obf_shift (f : Nat → Bool) : ∀ n, obf f (n + 1) = (if f 0 then 1 else 0) + 2 * obf (fun p => f (p + 1)) n
  | 0 => by simp [obf]
  | n + 1 => by
    rw [obf, obf_shift f n, obf]
    split <;> split <;> simp [Nat.pow_succ] <;> omega
def allBits (high : Bool) (bs : List Nat) : List Bool := (List.range (8 * bs.length)).map (bitAt high bs)
theorem allBits_length (high : Bool) (bs : List Nat) : (allBits high bs).length = 8 * bs.length := by simp [allBits]
def ofPart (high : Bool) (M : List Bool) (k : Nat) : Nat := obf (fun p => M.getD (bif high then k - 1 - p else M.length - 1 - (k - 1 - p)) false) k
theorem ofPart_succ (high : Bool) (M : List Bool) (k : Nat) (b : Bool) (h : M.getD (bif high then k else M.length - 1 - k) false = b) :
    ofPart high M (k + 1) = 2 * ofPart high M k + (if b then 1 else 0) := by
  subst h
  rw [ofPart, obf_shift, ofPart, Nat.add_comm]
  congr 1
  · congr 1
    apply obf_congr
    intro p hp
    congr 1
    cases high <;> simp <;> omega
theorem ofPart_lt (high : Bool) (M : List Bool) (k : Nat) : ofPart high M k < 2 ^ k := obf_lt _ _
theorem ofPart_all (high : Bool) (bs : List Nat) (a n : Nat) (h : a + n ≤ 8 * bs.length) : ofPart high (((allBits high bs).drop a).take n) n = numAt high bs a n := by
  have hl : (((allBits high bs).drop a).take n).length = n := by simp [allBits_length]; omega
  apply obf_congr
  intro p hp
  rw [hl]
  have e : (bif high then n - 1 - p else n - 1 - (n - 1 - p)) = (bif high then n - 1 - p else p) := by cases high <;> simp <;> omega
  rw [e]
  have h1 : (bif high then n - 1 - p else p) < n := by cases high <;> simp <;> omega
  generalize (bif high then n - 1 - p else p) = q at *
  rw [getD_take, if_pos h1, List.getD_eq_getElem?_getD, List.getElem?_drop]
  simp [allBits, show a + q < 8 * bs.length from by omega]
theorem allBits_next (high : Bool) (bs : List Nat) (k j : Nat) (hj : j < 8) (hk : k < bs.length) :
    (allBits high bs).take (8 * k + (j + 1)) = (allBits high bs).take (8 * k + j) ++ [(bs.getD k 0).testBit (rowAt high j)] := by
  rw [← Nat.add_assoc, List.take_succ_eq_append_getElem (by rw [allBits_length]; omega)]
  congr 2
  simp [allBits, bitAt, show (8 * k + j) / 8 = k from by omega, show (8 * k + j) % 8 = j from by omega]
end Go.Proofs.YtmmilchmnimjoaaGreat
/- How slices that come in are opened: each element's cells, by what it reads as. -/
namespace Go.Proofs.YtmmilchmnimjoaaGreat
open Go.RowKit Go.Deep Go.ChangeShapes Go.WideShapes
set_option linter.unusedVariables false
theorem cell_lt {w : World} {p : Addr} {u : Value} (h : w.cell? p = some u) : p.block < w.heap.size := by
  rcases Nat.lt_or_ge p.block w.heap.size with h1 | h1
  · exact h1
  · exfalso
    simp [World.cell?, Array.getElem?_eq_none h1] at h
theorem add_block (a : Addr) (n : Nat) : (a.add n).block = a.block := by unfold Addr.add; split <;> rfl
theorem Src.chg {S : Nat → Prop} {w w' : World} {size n c : Nat} {A : Option Addr} {xs : List Value} (h : Src w size A n c xs) (hc : Chg S w w') (hS : ∀ a, A = some a → 0 < n → ¬ S a.block) (hsz : 0 < xs.length → 0 < n) : Src w' size A n c xs :=
  ⟨h.1, h.2.1, fun ad hA j u hu => by
    have h1 := h.2.2 ad hA j u hu
    have hl : 0 < xs.length := by have := (List.getElem?_eq_some_iff.1 hu).1; omega
    rw [hc.cell (by exact cell_lt h1) (by rw [add_block]; exact hS ad hA (hsz hl))]
    exact h1⟩
theorem Src.below {w0 w w' : World} {size n c : Nat} {A : Option Addr} {xs : List Value} (h : Src w size A n c xs) (hc : Chg NoS w w') : Src w' size A n c xs :=
  ⟨h.1, h.2.1, fun ad hA j u hu => by
    have h1 := h.2.2 ad hA j u hu
    rw [hc.cell (by exact cell_lt h1) (fun h => h)]
    exact h1⟩
theorem Src.plain {w : World} {size n c : Nat} {A : Option Addr} {xs : List Value} (h : Src w size A n c xs) (hn : 0 < xs.length) :
    ∃ b off, A = some ⟨b, off, none⟩ ∧ ∀ j u, xs[j]? = some u → w.cell? ⟨b, off + j, none⟩ = some u := by
  rcases A with _ | ⟨b, off, sp⟩
  · have h1 := (h.2.1 rfl).1
    have h2 := h.1
    rw [h1, Nat.zero_mul] at h2
    omega
  · have h0 := h.2.2 _ rfl 0 _ (List.getElem?_eq_getElem hn)
    have hs : sp = none := by simpa [Addr.add] using World.cell?_spot h0
    subst hs
    refine ⟨b, off, rfl, fun j u hu => ?_⟩
    have h1 := h.2.2 _ rfl j u hu
    by_cases hj : j = 0
    · subst hj; simpa [Addr.add] using h1
    · simpa [Addr.add, hj] using h1
theorem flat_len {α : Type} (f : α → List Value) (size : Nat) (hf : ∀ p, (f p).length = size) : ∀ ps : List α, (ps.flatMap f).length = ps.length * size
  | [] => by simp
  | p :: ps => by
    rw [List.flatMap_cons, List.length_append, hf, flat_len f size hf ps, List.length_cons, Nat.succ_mul]
    omega
theorem flat_get {α : Type} (f : α → List Value) (size : Nat) (hf : ∀ p, (f p).length = size) : ∀ (ps : List α) (i j : Nat) (p : α), ps[i]? = some p → j < size → (ps.flatMap f)[i * size + j]? = (f p)[j]?
  | [], i, j, p, h, _ => by simp at h
  | q :: ps, 0, j, p, h, hj => by
    simp at h
    subst h
    rw [List.flatMap_cons, List.getElem?_append_left (by rw [hf]; omega)]
    simp
  | q :: ps, i + 1, j, p, h, hj => by
    simp at h
    rw [List.flatMap_cons, List.getElem?_append_right (by rw [hf, Nat.succ_mul]; omega), hf, show (i + 1) * size + j - size = i * size + j from by rw [Nat.succ_mul]; omega]
    exact flat_get f size hf ps i j p h hj
theorem open_rows {α : Type} [Inhabited α] {H : Type} {en : TypeId × Value → H} {P : Program} {w : World} {base fuel : Nat} {spare : Nat → Bool} {held : Bool} {t e : TypeId} {A : Option Addr} {len cap : Nat} {x : DataW H × List MemPlace}
    (enc : α → List Value) (good : α → Prop) (size : Nat) (ht : P.underlying t = some (.slice e)) (hc : P.cellsOf e = size) (henc : ∀ p, (enc p).length = size)
    (hel : ∀ (n : Nat) (cs : List Value) (y : DataW H × List MemPlace), DataW.trod en P w base spare held n e cs = some y → cs.length = size → ∃ p, cs = enc p ∧ good p)
    (h : DataW.trod en P w base spare held fuel t [.slice A len cap] = some x) :
    len ≤ maxLen ∧ ∃ ps : List α, ps.length = len ∧ Src w size A len cap (ps.flatMap enc) ∧ ∀ p ∈ ps, good p := by
  rcases open_slice ht h with ⟨h0, _⟩ | ⟨a, len', cap', m, n, D, Pl, hcs, hb, hl, hm, hmm, hx, hi⟩
  · simp only [List.cons.injEq, Value.slice.injEq, and_true] at h0
    obtain ⟨rfl, rfl, rfl⟩ := h0
    exact ⟨by simp, [], rfl, ⟨by simp, fun _ => ⟨rfl, rfl⟩, fun _ h => (by cases h)⟩, fun _ h => (by cases h)⟩
  · simp only [List.cons.injEq, Value.slice.injEq, and_true] at hcs
    obtain ⟨rfl, rfl, rfl⟩ := hcs
    have hlm : len ≤ m := by rw [hmm]; split <;> omega
    have hex : ∀ i, i < len → ∃ p : α, good p ∧ ∀ j, j < size → w.cell? (a.add (i * size + j)) = (enc p)[j]? := by
      intro i hil
      obtain ⟨cs', hcs', ht'⟩ := hi i (by omega)
      rw [hc] at hcs'
      obtain ⟨_, hcl, hat⟩ := World.cells?_some hcs'
      obtain ⟨p, rfl, hg⟩ := hel n cs' _ ht' hcl
      exact ⟨p, hg, fun j hj => by rw [← Go.Deep.add_add]; exact hat j hj⟩
    obtain ⟨f, hf⟩ := choose_lt hex
    refine ⟨by omega, (List.range len).map f, by simp, ⟨by rw [flat_len enc size henc]; simp, fun h => (by cases h), ?_⟩, ?_⟩
    · intro ad had j u hu
      cases had
      have hjl : j < len * size := by
        have := (List.getElem?_eq_some_iff.1 hu).1
        rw [flat_len enc size henc] at this
        simpa using this
      rcases Nat.eq_zero_or_pos size with h0 | h0
      · subst h0; simp at hjl
      · have hq : j / size < len := Nat.div_lt_of_lt_mul (by rw [Nat.mul_comm]; exact hjl)
        have hr : j % size < size := Nat.mod_lt _ h0
        have hd : j / size * size + j % size = j := by rw [Nat.mul_comm]; exact Nat.div_add_mod j size
        have hg := flat_get enc size henc ((List.range len).map f) (j / size) (j % size) (f (j / size)) (by simp [hq]) hr
        rw [hd, hu] at hg
        have := (hf (j / size) hq).2 (j % size) hr
        rw [hd] at this
        rw [this, ← hg]
    · intro p hp
      obtain ⟨i, hi', rfl⟩ := List.mem_map.1 hp
      exact (hf i (List.mem_range.1 hi')).1
theorem el_int {H : Type} {en : TypeId × Value → H} {P : Program} {w : World} {base n : Nat} {spare : Nat → Bool} {held : Bool} {e : TypeId} {cs : List Value} {y : DataW H × List MemPlace} {k : IntKind}
    (he : P.underlying e = some (.int k)) (h : DataW.trod en P w base spare held n e cs = some y) : ∃ z : Int, cs = [.int k z] ∧ (Lit.int k z).wf = true := by
  obtain ⟨z, rfl, _, hz⟩ := DataW.trod_int he h
  exact ⟨z, rfl, hz⟩
end Go.Proofs.YtmmilchmnimjoaaGreat
/- Contracts of the small functions of package bits: what each tells of a place, a writer or a reader that a call made. -/
namespace Go.Proofs.YtmmilchmnimjoaaGreat
open Go.RowKit
set_option linter.unusedVariables false
theorem ret_i64 {a b : Int} (h : a = b) : Ending.returned (.int .i64 a) = .returned (.int .i64 b) := by rw [h]
theorem neg_and7 (a : Nat) (h : a < 9223372036854775808) : bits .and .i64 (-(a : Int)) 7 = ((8 - a % 8) % 8 : Nat) := by
  have hx : (BitVec.ofInt 64 (-(a : Int)) &&& BitVec.ofInt 64 7).toNat = (8 - a % 8) % 8 := by
    rw [BitVec.toNat_and]
    have e7 : (BitVec.ofInt 64 7).toNat = 2 ^ 3 - 1 := by decide
    rw [e7, Nat.and_two_pow_sub_one_eq_mod, BitVec.toNat_ofInt]
    omega
  show IntKind.i64.wrap ((BitVec.ofInt 64 (-(a : Int)) &&& BitVec.ofInt 64 7).toNat : Int) = _
  rw [hx, IntKind.wrap_i64]
  omega
def abv (high : Bool) (n d k : Int) : Int := bif high then n - d - k else d
theorem gap_any (g : Nat) (a : Nat) (w : World) (h : a < 4294967296) (h2 : w.cell? ⟨g, 2, none⟩ = some (.int .i64 a)) :
    Calls Tryz.prog 98 #[.pointer (some ⟨g, 0, none⟩)] w fun e w' => e = .returned (.int .i64 ((8 - a % 8) % 8 : Nat)) ∧ w = w' := by
  go_enter Tryz.func98, Tryz.ntmps98
  go_wp2
  go_ret
  exact ⟨ret_i64 (neg_and7 a (by omega)), rfl⟩
theorem room_any (g : Nat) (a : Nat) (w : World) (h : a < 4294967296) (h2 : w.cell? ⟨g, 2, none⟩ = some (.int .i64 a)) :
    Calls Tryz.prog 68 #[.pointer (some ⟨g, 0, none⟩)] w fun e w' => e = .returned (.int .i64 (8 - a % 8 : Nat)) ∧ w = w' := by
  go_enter Tryz.func68, Tryz.ntmps68
  go_wp2
  go_ret
  exact ⟨ret_i64 (by omega), rfl⟩
theorem above_any (g : Nat) (high : Bool) (n d k : Int) (w : World) (hd : 0 ≤ d) (hk : 0 ≤ k) (hn : d + k ≤ n) (hn2 : n ≤ 4294967296) (h1 : w.cell? ⟨g, 1, none⟩ = some (.bool high)) :
    Calls Tryz.prog 70 #[.pointer (some ⟨g, 0, none⟩), .int .i64 n, .int .i64 d, .int .i64 k] w fun e w' => e = .returned (.int .i64 (abv high n d k)) ∧ w = w' := by
  cases high
  all_goals
    go_enter Tryz.func70, Tryz.ntmps70
    go_wp2
    go_ret
    exact ⟨rfl, rfl⟩
theorem inByte_any (g : Nat) (high : Bool) (a : Nat) (k : Int) (w : World) (h : a < 4294967296) (hk : 0 ≤ k) (hk8 : k + (a % 8 : Nat) ≤ 8) (h1 : w.cell? ⟨g, 1, none⟩ = some (.bool high)) (h2 : w.cell? ⟨g, 2, none⟩ = some (.int .i64 a)) :
    Calls Tryz.prog 69 #[.pointer (some ⟨g, 0, none⟩), .int .i64 k] w fun e w' => e = .returned (.int .i64 (abv high 8 (a % 8 : Nat) k)) ∧ w = w' := by
  go_enter Tryz.func69, Tryz.ntmps69
  go_wp2_with (go_at_call 70; refine (above_any g high _ _ _ _ (by omega) (by omega) (by omega) (by omega) h1).mono ?_; rintro e w' ⟨rfl, rfl⟩)
  go_ret
  exact ⟨rfl, rfl⟩
theorem width_any (x : Int) (w : World) (h0 : 0 ≤ x) (h1 : x ≤ 4294967295) :
    Calls Tryz.prog 142 #[.int .u32 x] w fun e w' => e = .returned (.int .i64 (Lib.bitLen x.toNat)) ∧ w = w' := by
  go_enter Tryz.func142, Tryz.ntmps142
  go_wp2_with (go_at_call 156; refine (Tryz.bits_Len32 _ _ h0 h1).mono ?_; rintro e w' ⟨rfl, rfl⟩)
  go_ret
  exact ⟨rfl, rfl⟩
theorem wready_any (g : Nat) (w : World) (h0 : w.cell? ⟨g, 0, none⟩ = some (.bool true)) :
    Calls Tryz.prog 86 #[.pointer (some ⟨g, 0, none⟩)] w fun e w' => e = .returned (.bool true) ∧ w = w' := by
  go_enter Tryz.func86, Tryz.ntmps86
  go_wp2
  go_ret
  exact ⟨rfl, rfl⟩
theorem len_any (g : Nat) (a : Int) (w : World) (h0 : w.cell? ⟨g, 0, none⟩ = some (.bool true)) (h2 : w.cell? ⟨g, 2, none⟩ = some (.int .i64 a)) :
    Calls Tryz.prog 85 #[.pointer (some ⟨g, 0, none⟩)] w fun e w' => e = .returned (.int .i64 a) ∧ w = w' := by
  go_enter Tryz.func85, Tryz.ntmps85
  go_wp2_with (go_at_call 86; refine (wready_any g _ h0).mono ?_; rintro e w' ⟨rfl, rfl⟩)
  go_ret
  exact ⟨rfl, rfl⟩
theorem rready_any (g : Nat) (w : World) (h0 : w.cell? ⟨g, 0, none⟩ = some (.bool true)) :
    Calls Tryz.prog 51 #[.pointer (some ⟨g, 0, none⟩)] w fun e w' => e = .returned (.bool true) ∧ w = w' := by
  go_enter Tryz.func51, Tryz.ntmps51
  go_wp2
  go_ret
  exact ⟨rfl, rfl⟩
theorem at_any (g : Nat) (a : Int) (w : World) (h0 : w.cell? ⟨g, 0, none⟩ = some (.bool true)) (h2 : w.cell? ⟨g, 2, none⟩ = some (.int .i64 a)) :
    Calls Tryz.prog 31 #[.pointer (some ⟨g, 0, none⟩)] w fun e w' => e = .returned (.int .i64 a) ∧ w = w' := by
  go_enter Tryz.func31, Tryz.ntmps31
  go_wp2_with (go_at_call 51; refine (rready_any g _ h0).mono ?_; rintro e w' ⟨rfl, rfl⟩)
  go_ret
  exact ⟨rfl, rfl⟩
theorem left_any (g a n c : Nat) (A : Option Addr) (w : World) (hn : n < 4294967296) (ha : a ≤ 8 * n) (h0 : w.cell? ⟨g, 0, none⟩ = some (.bool true)) (h2 : w.cell? ⟨g, 2, none⟩ = some (.int .i64 a)) (h3 : w.cell? ⟨g, 3, none⟩ = some (.slice A n c)) :
    Calls Tryz.prog 67 #[.pointer (some ⟨g, 0, none⟩)] w fun e w' => e = .returned (.int .i64 (8 * n - a)) ∧ ∃ m, w' = w.drewN m := by
  go_enter Tryz.func67, Tryz.ntmps67
  go_wp2_with (go_at_call 51; refine (rready_any g _ h0).mono ?_; rintro e w' ⟨rfl, rfl⟩)
  go_quiet (fail)
  go_wp2
  go_ret
  exact ⟨rfl, _, rfl⟩
theorem bit_int (x j : Nat) : (((x / 2 ^ j : Nat) : Int) % 2 == 1) = x.testBit j := by
  rw [Nat.testBit_eq_decide_div_mod_eq, Bool.eq_iff_iff]
  simp only [beq_iff_eq, decide_eq_true_eq]
  omega
theorem bit_any (x : Nat) (k : Int) (w : World) (hx : x < 4294967296) (hk0 : 0 ≤ k) (hk : k ≤ 4294967296) :
    Calls Tryz.prog 52 #[.int .u32 x, .int .i64 k] w fun e w' => e = .returned (.bool (x.testBit k.toNat)) ∧ w = w' := by
  obtain ⟨k, rfl⟩ := Int.eq_ofNat_of_zero_le hk0
  go_enter Tryz.func52, Tryz.ntmps52
  go_wp2
  go_loop [0, 5] (fun t i => ∃ j q : Nat, j ≤ k ∧ i = .int .i64 j ∧ t = .int .u32 q ∧ q = x / 2 ^ j) (fun _ i => k - (intOf i).toNat)
  case atStart => exact ⟨0, x, Nat.zero_le _, rfl, rfl, by simp⟩
  case round =>
    obtain ⟨j, q, hj, rfl, rfl, hq⟩ := hrel
    have hb : q ≤ x := by rw [hq]; exact Nat.div_le_self _ _
    have hs : q / 2 = x / 2 ^ (j + 1) := by rw [hq, Nat.pow_succ, Nat.div_div_eq_div_mul]
    have HS := keepf hs
    have HQ := keepf hq
    clear hs hq
    by_cases hlt : j < k
    · go_wp2
      go_round
      case rel => exact ⟨j + 1, q / 2, by omega, by go_num, by go_num, HS.out⟩
      case measure => simp [intOf]; omega
    · obtain rfl : j = k := by omega
      go_wp2
      go_ret
      exact ⟨congrArg (fun b => Ending.returned (.bool b)) (by have := bit_int x j; rw [← HQ.out] at this; exact this), rfl⟩
end Go.Proofs.YtmmilchmnimjoaaGreat
/- What Put does to a writer: the bits that come behind, or the error. -/
namespace Go.Proofs.YtmmilchmnimjoaaGreat
open Go.RowKit
set_option linter.unusedVariables false
theorem info_u8 : (Tryz.prog.info? 5).map (fun i => (i.zero, i.size, i.bytes)) = some (some (.int .u8 0), 1, 1) := by kernel_rfl
def bcells (high : Bool) (L : List Bool) : List Value := (bytesOf high L).map fun b => .int .u8 (b : Nat)
def Wr (w : World) (g : Nat) (high : Bool) (L : List Bool) (S : Value) : Prop :=
  Blk w g 131 #[.bool true, .bool high, .int .i64 L.length, S] ∧ w.ownsRow 0 5 1 S (nby L.length) (bcells high L)
def WS (g : Nat) (S : Value) : Nat → Prop := fun i => i = g ∨ S.ownBlock = some i
def PutTo (w : World) (g : Nat) (high : Bool) (L : List Bool) (S : Value) (e : Ending) (w' : World) : Prop :=
  e = .returned (.int .i64 0) ∧ ∃ S', Wr w' g high L S' ∧ Chg (WS g S) w w' ∧ (∀ i, i < w.heap.size → S'.ownBlock = some i → S.ownBlock = some i)
def Wr1 (w : World) (g : Nat) (high : Bool) (M : List Bool) (S : Value) : Prop :=
  Blk w g 131 #[.bool true, .bool high, .int .i64 M.length, S] ∧ w.ownsRow 0 5 1 S (M.length / 8 + 1) ((List.range (M.length / 8 + 1)).map fun i => .int .u8 (byteAt high M i : Nat))
theorem byteAt_out (high : Bool) (M : List Bool) (i : Nat) (h : M.length ≤ 8 * i) : byteAt high M i = 0 := by
  have e : byteAt high M i = obf (fun _ => false) 8 := by
    apply obf_congr
    intro p _
    rw [List.getD_eq_getElem?_getD, List.getElem?_eq_none (by cases high <;> simp [rowAt] <;> omega)]
    rfl
  rw [e]
  decide
theorem cells_more (high : Bool) (M : List Bool) (h : M.length % 8 = 0) : bcells high M ++ [.int .u8 0] = (List.range (M.length / 8 + 1)).map fun i => .int .u8 (byteAt high M i : Nat) := by
  have e : nby M.length = M.length / 8 := by unfold nby; omega
  rw [List.range_succ, List.map_append, bcells, bytesOf, e, List.map_map]
  simp [byteAt_out high M (M.length / 8) (by omega)]
theorem cells_same (high : Bool) (M : List Bool) (h : M.length % 8 ≠ 0) : bcells high M = (List.range (M.length / 8 + 1)).map fun i => .int .u8 (byteAt high M i : Nat) := by
  have e : nby M.length = M.length / 8 + 1 := by unfold nby; omega
  rw [bcells, bytesOf, e, List.map_map]
  rfl
theorem abv_n (high : Bool) (n d k : Nat) (h : d + k ≤ n) : abv high n d k = (abn high n d k : Nat) := by
  cases high <;> simp [abv, abn] <;> omega
theorem piece_eq (x up k : Nat) (hx : x ≤ 4294967295) (hk : k ≤ 8) : bits BinOp.and IntKind.u32 ((x : Int) / 2 ^ up) ((2 ^ k - 1) % 4294967296) = ((x / 2 ^ up % 2 ^ k : Nat) : Int) := by
  have h2 : 2 ^ k ≤ 2 ^ 8 := Nat.pow_le_pow_right (by decide) hk
  have h0 := Nat.two_pow_pos k
  have hd : x / 2 ^ up ≤ x := Nat.div_le_self _ _
  have e1 : ((x : Int) / 2 ^ up) = ((x / 2 ^ up : Nat) : Int) := by simp
  have e2 : (((2 : Int) ^ k - 1) % 4294967296) = ((2 ^ k - 1 : Nat) : Int) := by
    rw [Int.natCast_sub h0]
    simp
    have : (((2 : Nat) ^ k : Nat) : Int) = (2 : Int) ^ k := by simp
    omega
  rw [e1, e2, u32_and_nat _ _ (by omega) (by omega), Nat.and_two_pow_sub_one_eq_mod]
theorem zero_one : ∀ u ∈ [Value.int .u8 0], u.oneCell' = true := by
  intro u hu
  simp at hu
  subst hu
  rfl
theorem src_one (w : World) (x : Value) (t : TypeId) : Src (w.alloc (.cells #[x] t)) 1 (some ⟨w.heap.size, 0, none⟩) 1 1 [x] :=
  ⟨rfl, fun h => (by cases h), fun ad had => by
    cases had
    exact cell_one_new w x t⟩
theorem put_grown {w wr w2 : World} {g a : Nat} {high : Bool} {M : List Bool} {S S1 S2 : Value} (hl : M.length = a) (h8 : a % 8 = 0)
    (hc2 : Chg (fun i => S1.ownBlock = some i) wr w2) (b2 : Blk w2 g 131 #[.bool true, .bool high, .int .i64 (a : Nat), S1]) (hown2 : w2.ownsRow 0 5 1 S2 (nby a + 1) (bcells high M ++ [.int .u8 0]))
    (hat : S2.ownBlock = S1.ownBlock ∨ S2.ownBlock = some (wr.heap.size + 1)) (hch : Chg (WS g S) w wr) (hf : ∀ i, i < w.heap.size → S1.ownBlock = some i → S.ownBlock = some i) :
    ∃ S2', Wr1 (w2.setCell ⟨g, 3, none⟩ S2) g high M S2' ∧ Chg (WS g S) w (w2.setCell ⟨g, 3, none⟩ S2) ∧ (∀ i, i < w.heap.size → S2'.ownBlock = some i → S.ownBlock = some i) := by
  have hne2 := own_ne_blk hown2 b2 (by decide)
  have e : nby a = a / 8 := by unfold nby; omega
  refine ⟨S2, ⟨?_, ?_⟩, ?_, ?_⟩
  · have := b2.set_ 3 S2
    rw [hl]
    simpa using this
  · rw [hl]
    have hm := cells_more high M (by rw [hl]; exact h8)
    rw [hl] at hm
    rw [← hm, ← e]
    exact own_chg (S := fun i => i = g) hown2 ((Chg.refl (fun i => i = g) _).setCell (p := ⟨g, 3, none⟩) (fun _ => rfl) _) (fun i hi he => hne2 (by rw [hi, he]))
  · refine (hch.trans hc2 (fun i hi h => .inr (hf i hi h))).setCell (fun _ => .inl rfl) _
  · intro i hi h
    rcases hat with hat | hat
    · exact hf i hi (hat ▸ h)
    · have h1 := hch.size
      rw [hat] at h
      injection h with h
      omega
theorem or_piece (b pc ib : Nat) (hb : b < 256) (hp : pc * 2 ^ ib < 256) : bits BinOp.or IntKind.u8 (b : Int) ((pc : Int) * 2 ^ ib % 256) = ((b ||| pc * 2 ^ ib : Nat) : Int) := by
  have e : ((pc : Int) * 2 ^ ib % 256) = ((pc * 2 ^ ib : Nat) : Int) := by
    have : ((pc * 2 ^ ib : Nat) : Int) = (pc : Int) * 2 ^ ib := by simp
    rw [← this]
    omega
  rw [e, u8_or_nat b _ hb hp]
theorem cells_put (high : Bool) (L : List Bool) (x n j k q : Nat) (hn : j + k ≤ n) (hq : q = (L.length + j) / 8) (hk1 : 1 ≤ k) (hk : (L.length + j) % 8 + k ≤ 8) :
    ((List.range (q + 1)).map fun i => Value.int .u8 (byteAt high (L ++ (numBits high x n).take j) i : Nat)).set q (.int .u8 (byteAt high (L ++ (numBits high x n).take j) q ||| (x / 2 ^ abn high n j k % 2 ^ k * 2 ^ abn high 8 ((L.length + j) % 8) k) : Nat)) =
      bcells high (L ++ (numBits high x n).take (j + k)) ∧ nby (L ++ (numBits high x n).take (j + k)).length = q + 1 := by
  have hlen : (L ++ (numBits high x n).take (j + k)).length = L.length + j + k := by simp [numBits_length]; omega
  have hnb : nby (L ++ (numBits high x n).take (j + k)).length = q + 1 := by rw [hlen]; unfold nby; omega
  refine ⟨?_, hnb⟩
  have hp := put_piece high L x n j k hn hk
  rw [← hq] at hp
  rw [bcells, bytesOf, hnb, List.map_map]
  apply List.ext_getElem?
  intro i
  by_cases hi : i = q
  · subst hi
    simp [← hp]
  · rw [List.getElem?_set_ne (by omega)]
    by_cases hi2 : i < q + 1
    · simp [hi2]
      have := put_other high (L ++ (numBits high x n).take j) [] (((numBits high x n).take (j + k)).drop j) i (by simp [numBits_length]; omega)
      rw [List.append_nil, List.append_assoc] at this
      rw [this]
      congr 2
      have e : List.take j (numBits high x n) = List.take j (List.take (j + k) (numBits high x n)) := by rw [List.take_take]; congr 1; omega
      rw [e, List.take_append_drop]
    · simp [hi2]
theorem pc_lt (x up k ib : Nat) (h : ib + k ≤ 8) : x / 2 ^ up % 2 ^ k * 2 ^ ib < 256 := by
  have h1 : x / 2 ^ up % 2 ^ k < 2 ^ k := Nat.mod_lt _ (Nat.two_pow_pos k)
  have h2 : x / 2 ^ up % 2 ^ k * 2 ^ ib < 2 ^ k * 2 ^ ib := Nat.mul_lt_mul_of_pos_right h1 (Nat.two_pow_pos ib)
  have h3 : 2 ^ k * 2 ^ ib ≤ 2 ^ 8 := by rw [← Nat.pow_add]; exact Nat.pow_le_pow_right (by decide) (by omega)
  omega
theorem put_stored {w wc : World} {g gb q n x j k cap2 nq up ib pc : Nat} {high : Bool} {L : List Bool} {S : Value} {av : Int} (hn : j + k ≤ n) (hq : q = (L.length + j) / 8) (hk1 : 1 ≤ k) (hk : (L.length + j) % 8 + k ≤ 8)
    (hup : up = abn high n j k) (hib : ib = abn high 8 ((L.length + j) % 8) k) (hpc : x / 2 ^ up % 2 ^ k = pc) (hav : av = (L.length + j + k : Nat))
    (hb : Blk wc g 131 #[.bool true, .bool high, .int .i64 (L.length + j : Nat), .slice (some ⟨gb, 0, none⟩) (q + 1) cap2])
    (ho : wc.ownsRow 0 5 1 (.slice (some ⟨gb, 0, none⟩) (q + 1) cap2) (q + 1) ((List.range (q + 1)).map fun i => .int .u8 (byteAt high (L ++ (numBits high x n).take j) i : Nat)))
    (hne : gb ≠ g) (hc : Chg (WS g S) w wc) (hf : ∀ i, i < w.heap.size → (Value.slice (some ⟨gb, 0, none⟩) (q + 1) cap2).ownBlock = some i → S.ownBlock = some i) :
    ∃ S1, Wr (((wc.drewN nq).setCell ⟨gb, q, none⟩ (.int .u8 (bits BinOp.or IntKind.u8 (byteAt high (L ++ (numBits high x n).take j) q : Nat) ((pc : Int) * 2 ^ ib % 256)))).setCell ⟨g, 2, none⟩ (.int .i64 av)) g high (L ++ (numBits high x n).take (j + k)) S1 ∧
      Chg (WS g S) w (((wc.drewN nq).setCell ⟨gb, q, none⟩ (.int .u8 (bits BinOp.or IntKind.u8 (byteAt high (L ++ (numBits high x n).take j) q : Nat) ((pc : Int) * 2 ^ ib % 256)))).setCell ⟨g, 2, none⟩ (.int .i64 av)) ∧
      (∀ i, i < w.heap.size → S1.ownBlock = some i → S.ownBlock = some i) := by
  have hlen : (L ++ (numBits high x n).take (j + k)).length = L.length + j + k := by simp [numBits_length]; omega
  obtain ⟨hcs, hnb⟩ := cells_put high L x n j k q hn hq hk1 hk
  have hor : bits BinOp.or IntKind.u8 (byteAt high (L ++ (numBits high x n).take j) q : Nat) ((pc : Int) * 2 ^ ib % 256) = ((byteAt high (L ++ (numBits high x n).take j) q ||| (x / 2 ^ abn high n j k % 2 ^ k * 2 ^ abn high 8 ((L.length + j) % 8) k) : Nat) : Int) := by
    subst hup hib hpc
    exact or_piece _ _ _ (byteAt_lt _ _ _) (pc_lt _ _ _ _ (by cases high <;> simp [abn] <;> omega))
  rw [hor]
  subst hav
  refine ⟨.slice (some ⟨gb, 0, none⟩) (q + 1) cap2, ⟨?_, ?_⟩, ?_, hf⟩
  · have h1 := ((hb.drewN nq).far (p := ⟨gb, q, none⟩) (fun h => hne h.symm) (.int .u8 ((byteAt high (L ++ (numBits high x n).take j) q ||| (x / 2 ^ abn high n j k % 2 ^ k * 2 ^ abn high 8 ((L.length + j) % 8) k) : Nat) : Int))).set_ 2 (.int .i64 (L.length + j + k : Nat))
    rw [hlen]
    simpa using h1
  · have h1 := ((own_drewN ho nq).stored q (.int .u8 ((byteAt high (L ++ (numBits high x n).take j) q ||| (x / 2 ^ abn high n j k % 2 ^ k * 2 ^ abn high 8 ((L.length + j) % 8) k) : Nat) : Int))).1
    rw [hnb, ← hcs]
    exact own_chg (S := fun i => i = g) h1 ((Chg.refl (fun i => i = g) _).setCell (p := ⟨g, 2, none⟩) (fun _ => rfl) _) (fun i hi he => hne (by
      have : gb = i := by simpa [Value.ownBlock] using hi
      rw [this, he]))
  · exact ((hc.drewN nq).setCell (p := ⟨gb, q, none⟩) (fun h => .inr (hf gb h rfl)) _).setCell (p := ⟨g, 2, none⟩) (fun _ => .inl rfl) _
set_option maxHeartbeats 1000000 in
set_option maxRecDepth 100000 in
theorem put_ok (g : Nat) (high : Bool) (L : List Bool) (S : Value) (x n : Nat) (w : World) (hW : Wr w g high L S) (hL : L.length ≤ 1073741824) (hn : n ≤ 32) (hx : x < 2 ^ n) :
    Calls Tryz.prog 125 #[.pointer (some ⟨g, 0, none⟩), .int .u32 x, .int .i64 n] w (PutTo w g high (L ++ numBits high x n) S) := by
  have h0 := hW.1.cell 0
  have hx32 : x ≤ 4294967295 := by
    have : 2 ^ n ≤ 2 ^ 32 := Nat.pow_le_pow_right (by decide) hn
    omega
  have hwid : Lib.bitLen x ≤ n := Lib.bitLen_le x n (by omega) hx
  have Hx := keepf hx
  clear hx
  simp at h0
  obtain ⟨i0, hi, hz0, hz1, hz2⟩ := info_parts info_u8
  have d1 : decide ((n : Int) < 0) = false := by simp
  have d2 : decide ((32 : Int) < (n : Int)) = false := by simp; omega
  have d3 : decide (n < Lib.bitLen x) = false := by simp; omega
  go_enter Tryz.func125, Tryz.ntmps125
  go_wp2_with (first
    | (go_at_call 86; refine (wready_any g _ h0).mono ?_; rintro e w' ⟨rfl, rfl⟩)
    | (go_at_call 142; refine (width_any _ _ (by omega) (by omega)).mono ?_; rintro e w' ⟨rfl, rfl⟩))
  go_loopw [7] (fun d wr => ∃ (j : Nat) (S1 : Value), j ≤ n ∧ d = .int .i64 j ∧ Wr wr g high (L ++ (numBits high x n).take j) S1 ∧ Chg (WS g S) w wr ∧ (∀ i, i < w.heap.size → S1.ownBlock = some i → S.ownBlock = some i)) (fun d _ => n - (intOf d).toNat)
  case atStart => exact ⟨0, S, Nat.zero_le _, rfl, by simpa using hW, Chg.refl _ _, fun _ _ h => h⟩
  case round =>
    obtain ⟨j, S1, hj, rfl, hW1, hch, hfr⟩ := hrel
    have hlen : (L ++ (numBits high x n).take j).length = L.length + j := by simp [numBits_length]; omega
    have hb := hW1.1
    have hown := hW1.2
    rw [hlen] at hb hown
    obtain ⟨A, cap, rfl, hA⟩ := own_slice hown
    have hne := own_ne_blk hown hb (by decide)
    have hmod := cells_more high (L ++ (numBits high x n).take j)
    have hmod2 := cells_same high (L ++ (numBits high x n).take j)
    rw [hlen] at hmod hmod2
    have h1 := hb.cell 1
    have h2 := hb.cell 2
    have h3 := hb.cell 3
    have f3 := hb.frozen 3
    have f2 := hb.frozen 2
    simp at h1 h2 h3
    have HB := keepf hb
    have HO := keepf hown
    have HC := keepf hch
    have HF := keepf hfr
    have HN := keepf hne
    have HL := keepf hlen
    have HM := keepf hmod
    have HM2 := keepf hmod2
    clear hW1 hb hlen hown hch hfr hA hne hmod hmod2
    by_cases hlt : j < n
    · go_upto_if 32 with (first
        | (go_at_call 98; refine (gap_any g (L.length + j) _ (by omega) h2).mono ?_; rintro e w' ⟨rfl, rfl⟩))
      go_cut [] from 25 to 97 (fun wc => ∃ S2, Wr1 wc g high (L ++ (numBits high x n).take j) S2 ∧ Chg (WS g S) w wc ∧ (∀ i, i < w.heap.size → S2.ownBlock = some i → S.ownBlock = some i))
      case first =>
        by_cases h8 : (L.length + j) % 8 = 0
        · have hg : ((((8 - (L.length + j) % 8) % 8 : Nat) : Int) == 0) = true := by rw [h8]; rfl
          have H8 := keepf h8
          clear h8
          go_wp2_with (first
            | (at_builtin; refine wpList_append_src rfl (.tmp 37) (.tmp 38) 22 rfl 5 i0 (.int .u8 0) 1 1 Tryz.underlying22 hi hz0 hz1 hz2 rfl (by decide) (.slice A (nby (L.length + j)) cap) _ _ rfl (own_chg (S := NoS) HO.out ((Chg.refl _ _).alloc _) (fun _ _ h => h)) _ _ _ _ rfl (src_one _ _ _) zero_one (by unfold maxLen nby; omega) (by unfold nby; omega) ?_; intro S2 w2 hown2 hgr hat; obtain ⟨A2, c2, rfl, hA2⟩ := own_slice hown2; have hc2 := ((Chg.refl (fun i => (Value.slice A (nby (L.length + j)) cap).ownBlock = some i) wr).alloc _).grown hgr (fun k e _ => e); have b2 := HB.out.chg hc2 HN.out; have k3 := b2.cell 3; have q3 := b2.frozen 3; simp at k3; have HB2 := keepf b2; have HC2 := keepf hc2; have HO2 := keepf hown2; have HA2 := keepf hat; clear b2 hc2 hown2 hat hgr hA2))
          go_meet
          exact put_grown HL.out H8.out HC2.out HB2.out HO2.out (by simpa using HA2.out) HC.out HF.out
        · have hg : ((((8 - (L.length + j) % 8) % 8 : Nat) : Int) == 0) = false := by simp; omega
          have H8 := keepf h8
          clear h8
          go_wp2
          go_meet
          refine ⟨_, ⟨?_, ?_⟩, HC.out, HF.out⟩
          · rw [HL.out]; exact HB.out
          · rw [HL.out, ← HM2.out H8.out]
            have e : nby (L.length + j) = (L.length + j) / 8 + 1 := by have := H8.out; unfold nby; omega
            rw [← e]
            exact HO.out
      case rest =>
        obtain ⟨S2, hW2, hch2, hfr2⟩ := hcut
        have hb := hW2.1
        have hown := hW2.2
        rw [HL.out] at hb hown
        obtain ⟨q, hq⟩ : ∃ q, q = (L.length + j) / 8 := ⟨_, rfl⟩
        rw [← hq] at hown
        obtain ⟨gb, cap2, rfl, hcap1, hcap2⟩ := own_form hown (by omega)
        have hne := own_ne_blk hown hb (by decide)
        have hq1 : q ≤ 134217732 := by omega
        have cb := hown.cellAt q (by omega)
        have fb := hown.frozenAt q
        have c1 := hb.cell 1
        have c2 := hb.cell 2
        have c3 := hb.cell 3
        have q2 := hb.frozen 2
        simp at c1 c2 c3 cb
        have HB2 := keepf hb
        have HO2 := keepf hown
        have HC2 := keepf hch2
        have HF2 := keepf hfr2
        have HN2 := keepf hne
        have HQ := keepf hq
        clear hW2 hb hown hch2 hfr2 hne hq HB HO HC HF HN HM HM2 f3 f2 h1 h2 h3 hwid
        go_upto_region 9 with fail
        go_cut [8] from 25 to 97 (fun kk wx => ∃ k : Nat, 1 ≤ k ∧ j + k ≤ n ∧ (L.length + j) % 8 + k ≤ 8 ∧ kk = .int .i64 k ∧ wc = wx)
        case first =>
          go_wp2_with (go_at_call 68; refine (room_any g (L.length + j) _ (by omega) c2).mono ?_; rintro e w' ⟨rfl, rfl⟩)
          go_meet
          exact ⟨min (n - j) (8 - (L.length + j) % 8), by omega, by omega, by omega, by congr 1; omega, rfl⟩
        case rest =>
          obtain ⟨k, hk1, hk2, hk3, rfl, rfl⟩ := hcut
          obtain ⟨up, hup⟩ : ∃ up : Nat, up = abn high n j k := ⟨_, rfl⟩
          obtain ⟨ib, hib⟩ : ∃ ib : Nat, ib = abn high 8 ((L.length + j) % 8) k := ⟨_, rfl⟩
          have hup2 : up ≤ 31 := by rw [hup]; cases high <;> simp [abn] <;> omega
          have hib2 : ib ≤ 7 := by rw [hib]; cases high <;> simp [abn] <;> omega
          have hk8 : k ≤ 8 := by omega
          have HU : Hid (∀ W : World, W.cell? ⟨g, 1, none⟩ = some (.bool high) → Calls Tryz.prog 70 #[.pointer (some ⟨g, 0, none⟩), .int .i64 n, .int .i64 j, .int .i64 k] W fun e w' => e = .returned (.int .i64 up) ∧ W = w') := by
            intro W h
            have := above_any g high n j k W (by omega) (by omega) (by omega) (by omega) h
            rw [abv_n _ _ _ _ (by omega), ← hup] at this
            exact this
          have HI : Hid (∀ W : World, W.cell? ⟨g, 1, none⟩ = some (.bool high) → W.cell? ⟨g, 2, none⟩ = some (.int .i64 (L.length + j : Nat)) → Calls Tryz.prog 69 #[.pointer (some ⟨g, 0, none⟩), .int .i64 k] W fun e w' => e = .returned (.int .i64 ib) ∧ W = w') := by
            intro W h h'
            have := inByte_any g high (L.length + j) k W (by omega) (by omega) (by omega) h h'
            rw [show (8 : Int) = ((8 : Nat) : Int) from rfl, abv_n _ _ _ _ (by omega), ← hib] at this
            exact this
          have HUp := keepf hup
          have HIb := keepf hib
          clear hup hib
          go_upto_region 10 with fail
          go_quiet ((go_at_call 70; exact quiet_left (HU.out _ c1)))
          go_upto_region 11 with fail
          have hq3 : IntKind.i64.wrap (q : Int) = q := by rw [IntKind.wrap_i64]; omega
          have hq4 : (0 : Int) ≤ (q : Int) ∧ (q : Int) < (q : Int) + 1 := by omega
          rw [piece_eq x up k hx32 hk8]
          generalize hP : x / 2 ^ up % 2 ^ k = pc
          have hpc : pc < 256 := by
            have h1 : pc < 2 ^ k := by rw [← hP]; exact Nat.mod_lt _ (Nat.two_pow_pos k)
            have h2 : 2 ^ k ≤ 2 ^ 8 := Nat.pow_le_pow_right (by decide) hk8
            omega
          have HP := keepf hP
          clear hP
          refine wp_region_still_tail 22 (by kernel_rfl) (by kernel_rfl) ?_
          simp only [List.take_succ_cons, List.take_zero, List.drop_succ_cons, List.drop_zero]
          change wpStill _ _ (wc.drewN nq).drew _ _ _
          rw [World.drew_drewN]
          repeat still_step
          still_call (same_right (HI.out _ c1 c2))
          repeat still_step
          refine wpStill_nil ?_
          change wpList _ _ _ _ _ (wc.drewN nq).drew
          rw [World.drew_drewN]
          have hgg : ¬ gb = g := fun h => HN2.out (by rw [h]; rfl)
          have hgg2 : ¬ g = gb := fun h => hgg h.symm
          go_wp2
          go_roundw
          case rel =>
            obtain ⟨S3, r1, r2, r3⟩ := put_stored (nq := nq + 1) (by omega) HQ.out hk1 hk3 HUp.out HIb.out HP.out (av := ↑L.length + ↑j + ↑k) (by omega) HB2.out HO2.out hgg HC2.out HF2.out
            exact ⟨j + k, S3, by omega, by go_num, r1, r2, r3⟩
          case measure => simp [intOf]; omega
    · obtain rfl : j = n := by omega
      go_wp2
      go_ret
      have e : L ++ numBits high x j = L ++ (numBits high x j).take j := by rw [List.take_of_length_le (by rw [numBits_length]; exact Nat.le_refl _)]
      refine ⟨rfl, _, ⟨?_, ?_⟩, HC.out, HF.out⟩
      · rw [e, HL.out]; exact HB.out
      · rw [e, HL.out]; exact HO.out
end Go.Proofs.YtmmilchmnimjoaaGreat
/- What New, Bytes and Align do. -/
namespace Go.Proofs.YtmmilchmnimjoaaGreat
open Go.RowKit
set_option linter.unusedVariables false
theorem new_any (high : Bool) (w : World) :
    Calls Tryz.prog 87 #[.bool high] w fun e w' => e = .returned (.pointer (some ⟨w.heap.size, 0, none⟩)) ∧ w.alloc (.cells #[.bool true, .bool high, .int .i64 0, .slice none 0 0] 131) = w' := by
  go_enter Tryz.func87, Tryz.ntmps87
  go_wp2
  go_ret
  exact ⟨rfl, rfl⟩
theorem wr_new (high : Bool) (w : World) : Wr (w.alloc (.cells #[.bool true, .bool high, .int .i64 0, .slice none 0 0] 131)) w.heap.size high [] (.slice none 0 0) :=
  ⟨Blk.new _ _ _, own_nil _ _ _ _⟩
theorem Wr.chg {w w' : World} {g : Nat} {high : Bool} {L : List Bool} {S : Value} {T : Nat → Prop} (h : Wr w g high L S) (hc : Chg T w w') (hT : ∀ i, WS g S i → ¬ T i) : Wr w' g high L S :=
  ⟨h.1.chg hc (hT g (.inl rfl)), own_chg h.2 hc (fun i hi => hT i (.inr hi))⟩
theorem Wr.lt {w : World} {g : Nat} {high : Bool} {L : List Bool} {S : Value} (h : Wr w g high L S) (i : Nat) (hi : WS g S i) : i < w.heap.size := by
  rcases hi with rfl | hi
  · exact h.1.lt
  · exact own_lt h.2 hi
def NewRow (w : World) (t : TypeId) (size n : Nat) (xs : List Value) (e : Ending) (w' : World) : Prop :=
  ∃ A cap, e = .returned (.slice A n cap) ∧ w'.ownsRow 0 t size (.slice A n cap) n xs ∧ Chg NoS w w' ∧ (∀ i, i < w.heap.size → (Value.slice A n cap).ownBlock ≠ some i)
theorem bcells_one (high : Bool) (L : List Bool) : ∀ u ∈ bcells high L, u.oneCell' = true := by
  intro u hu
  obtain ⟨_, _, rfl⟩ := List.mem_map.1 hu
  rfl
theorem bytes_any (g : Nat) (high : Bool) (L : List Bool) (S : Value) (w : World) (hW : Wr w g high L S) (hL : L.length ≤ 1073741824) :
    Calls Tryz.prog 62 #[.pointer (some ⟨g, 0, none⟩)] w (NewRow w 5 1 (nby L.length) (bcells high L)) := by
  have h0 := hW.1.cell 0
  have h3 := hW.1.cell 3
  have hown := hW.2
  obtain ⟨A, cap, rfl, hA⟩ := own_slice hown
  simp at h0 h3
  have HO := keepf hown
  have HS := keepf (src_own hown)
  clear hW hown hA
  obtain ⟨i0, hi, hz0, hz1, hz2⟩ := info_parts info_u8
  go_enter Tryz.func62, Tryz.ntmps62
  go_wp2_with (first
    | (go_at_call 86; refine (wready_any g _ h0).mono ?_; rintro e w' ⟨rfl, rfl⟩)
    | (at_builtin; refine wpList_append_src rfl (.const (.slice none 0 0)) (.tmp 9) 22 rfl 5 i0 (.int .u8 0) 1 1 Tryz.underlying22 hi hz0 hz1 hz2 rfl (by decide) (.slice none 0 0) 0 [] rfl (own_nil _ _ _ _) _ _ _ _ rfl HS.out (bcells_one _ _) (by unfold maxLen nby; omega) (by unfold nby; omega) ?_; intro S2 w2 hown2 hgr hat; obtain ⟨A2, c2, rfl, hA2⟩ := own_slice hown2; have HG := keepf hgr; have HO2 := keepf hown2; have HA2 := keepf hat; clear hgr hown2 hat hA2))
  go_ret
  have h1 := HO2.out
  rw [Nat.zero_add, List.nil_append] at h1
  exact ⟨A2, c2, rfl, h1, (Chg.refl NoS w).grown HG.out (fun k e _ => by cases e), fun i hi he => by
    rcases HA2.out with h | h
    · rw [Nat.zero_add] at h; rw [h] at he; cases he
    · rw [Nat.zero_add] at h; rw [h] at he; injection he with he; omega⟩
def padOf (n : Nat) : List Bool := List.replicate ((8 - n % 8) % 8) false
theorem byteAt_pad (high : Bool) (L : List Bool) (i k : Nat) : byteAt high (L ++ List.replicate k false) i = byteAt high L i := by
  apply obf_congr
  intro p _
  rw [getD_append]
  split
  · rfl
  · rename_i h
    simp only [List.getD_eq_getElem?_getD, List.getElem?_replicate]
    rw [List.getElem?_eq_none (by omega)]
    split <;> rfl
theorem bcells_pad (high : Bool) (L : List Bool) : bcells high (L ++ padOf L.length) = bcells high L ∧ nby (L ++ padOf L.length).length = nby L.length := by
  have e : nby (L ++ padOf L.length).length = nby L.length := by
    simp [padOf, nby]
    omega
  refine ⟨?_, e⟩
  rw [bcells, bcells, bytesOf, bytesOf, e]
  congr 2
  funext i
  exact byteAt_pad high L i _
def FillTo (w : World) (g : Nat) (high : Bool) (L : List Bool) (S : Value) (e : Ending) (w' : World) : Prop :=
  e = .returned (.tuple #[]) ∧ Wr w' g high L S ∧ Chg (fun i => i = g) w w'
set_option maxRecDepth 100000 in
theorem align_any (g : Nat) (high : Bool) (L : List Bool) (S : Value) (w : World) (hW : Wr w g high L S) (hL : L.length ≤ 1073741824) :
    Calls Tryz.prog 106 #[.pointer (some ⟨g, 0, none⟩)] w (FillTo w g high (L ++ padOf L.length) S) := by
  have h0 := hW.1.cell 0
  have h2 := hW.1.cell 2
  have f2 := hW.1.frozen 2
  have hne := own_ne_blk hW.2 hW.1 (by decide)
  simp at h0 h2
  have HW := keepf hW
  have HN := keepf hne
  clear hW hne
  go_enter Tryz.func106, Tryz.ntmps106
  go_wp2_with (go_at_call 86; refine (wready_any g _ h0).mono ?_; rintro e w' ⟨rfl, rfl⟩)
  have HG := keepf (fun W h => gap_any g L.length W (by omega) h)
  have hs : IntKind.i64.wrap ((L.length : Int) + ((8 - L.length % 8) % 8 : Nat)) = (L.length : Int) + ((8 - L.length % 8) % 8 : Nat) := by rw [IntKind.wrap_i64]; omega
  refine wp_region_still_tail 13 (by kernel_rfl) (by kernel_rfl) ?_
  simp only [List.take_succ_cons, List.take_zero, List.drop_succ_cons, List.drop_zero]
  change wpStill _ _ w.drew _ _ _
  repeat still_step
  still_call (same_right (HG.out _ h2))
  repeat still_step
  refine wpStill_nil ?_
  change wpList _ _ _ _ _ w.drew
  go_wp2
  go_end0
  refine ⟨rfl, ?_, ?_⟩
  · have hl : (L ++ padOf L.length).length = L.length + (8 - L.length % 8) % 8 := by simp [padOf]
    refine ⟨?_, ?_⟩
    · have h1 := (HW.out.1.set_ 2 (.int .i64 ((L.length + (8 - L.length % 8) % 8 : Nat) : Int))).drew
      rw [hl]
      simpa using h1
    · obtain ⟨e1, e2⟩ := bcells_pad high L
      rw [e1, e2]
      exact own_chg (S := fun i => i = g) HW.out.2 (((Chg.refl (fun i => i = g) w).setCell (p := ⟨g, 2, none⟩) (fun _ => rfl) _).drew) (fun i hi he => HN.out (by rw [hi, he]))
  · exact ((Chg.refl (fun i => i = g) w).drew).setCell (p := ⟨g, 2, none⟩) (fun _ => rfl) _
theorem PutTo.got {w w' : World} {g : Nat} {high : Bool} {L : List Bool} {S : Value} {e : Ending} (h : PutTo w g high L S e w') :
    e = .returned (.int .i64 0) ∧ ∃ S', Wr w' g high L S' ∧ Chg (WS g S) w w' ∧ (∀ i, WS g S' i → WS g S i ∨ w.heap.size ≤ i) := by
  obtain ⟨he, S', hW, hc, hf⟩ := h
  refine ⟨he, S', hW, hc, fun i hi => ?_⟩
  rcases hi with hi | hi
  · exact .inl (.inl hi)
  · rcases Nat.lt_or_ge i w.heap.size with h1 | h1
    · exact .inl (.inr (hf i h1 hi))
    · exact .inr h1
end Go.Proofs.YtmmilchmnimjoaaGreat
/- What Read, Get and Align of a reader do. -/
namespace Go.Proofs.YtmmilchmnimjoaaGreat
open Go.RowKit
set_option linter.unusedVariables false
def ucells (bs : List Nat) : List Value := bs.map fun b => .int .u8 (b : Nat)
def Rd (w : World) (g : Nat) (high : Bool) (bs : List Nat) (a : Nat) (S : Value) : Prop :=
  Blk w g 88 #[.bool true, .bool high, .int .i64 a, S] ∧ w.ownsRow 0 5 1 S bs.length (ucells bs)
def ReadTo (w : World) (high : Bool) (bs : List Nat) (e : Ending) (w' : World) : Prop :=
  ∃ g S, e = .returned (.pointer (some ⟨g, 0, none⟩)) ∧ Rd w' g high bs 0 S ∧ Chg NoS w w' ∧ w.heap.size ≤ g ∧ (∀ i, i < w.heap.size → S.ownBlock ≠ some i)
theorem ucells_one (bs : List Nat) : ∀ u ∈ ucells bs, u.oneCell' = true := by
  intro u hu
  obtain ⟨_, _, rfl⟩ := List.mem_map.1 hu
  rfl
theorem read_any (high : Bool) (bs : List Nat) (A : Option Addr) (c : Nat) (w : World) (hS : Src w 1 A bs.length c (ucells bs)) (hL : bs.length ≤ 140737488355328) :
    Calls Tryz.prog 29 #[.slice A bs.length c, .bool high] w (ReadTo w high bs) := by
  have HS := keepf hS
  clear hS
  obtain ⟨i0, hi, hz0, hz1, hz2⟩ := info_parts info_u8
  go_enter Tryz.func29, Tryz.ntmps29
  go_wp2_with (first
    | (at_builtin; refine wpList_append_src rfl (.const (.slice none 0 0)) (.tmp 7) 22 rfl 5 i0 (.int .u8 0) 1 1 Tryz.underlying22 hi hz0 hz1 hz2 rfl (by decide) (.slice none 0 0) 0 [] rfl (own_nil _ _ _ _) _ _ _ _ rfl HS.out (ucells_one _) (by unfold maxLen; omega) (by omega) ?_; intro S2 w2 hown2 hgr hat; obtain ⟨A2, c2, rfl, hA2⟩ := own_slice hown2; have HG := keepf hgr; have HO2 := keepf hown2; have HA2 := keepf hat; clear hgr hown2 hat hA2))
  go_ret
  have h1 := HO2.out
  have h2 := HA2.out
  rw [Nat.zero_add, List.nil_append] at h1
  rw [Nat.zero_add] at h2
  have hc := (Chg.refl NoS w).grown HG.out (fun k e _ => by cases e)
  refine ⟨w2.heap.size, _, rfl, ⟨Blk.new _ _ _, own_chg (S := NoS) h1 ((Chg.refl _ _).alloc _) (fun _ _ h => h)⟩, hc.alloc _, hc.size, fun i hi he => ?_⟩
  rcases h2 with h | h
  · rw [h] at he; cases he
  · rw [h] at he; injection he with he; omega
end Go.Proofs.YtmmilchmnimjoaaGreat
/- What Get does to a reader. -/
namespace Go.Proofs.YtmmilchmnimjoaaGreat
open Go.RowKit
set_option linter.unusedVariables false
def GetTo (w : World) (g : Nat) (high : Bool) (bs : List Nat) (a n : Nat) (S : Value) (e : Ending) (w' : World) : Prop :=
  e = .returned (.tuple #[.int .u32 (numAt high bs a n : Nat), .int .i64 0]) ∧ Rd w' g high bs (a + n) S ∧ Chg (fun i => i = g) w w'
def GetErr (w : World) (code : Int) (e : Ending) (w' : World) : Prop :=
  e = .returned (.tuple #[.int .u32 0, .int .i64 code]) ∧ ∃ m, w' = w.drewN m
theorem get_cut (g a n : Nat) (high : Bool) (bs : List Nat) (S : Value) (w : World) (hR : Rd w g high bs a S) (hL : bs.length ≤ 268435456) (ha : a ≤ 8 * bs.length) (hn : n ≤ 32) (hc : 8 * bs.length - a < n) :
    Calls Tryz.prog 46 #[.pointer (some ⟨g, 0, none⟩), .int .i64 n] w (GetErr w 10) := by
  have h0 := hR.1.cell 0
  have h2 := hR.1.cell 2
  have h3 := hR.1.cell 3
  obtain ⟨A, cap, rfl, hA⟩ := own_slice hR.2
  simp at h0 h2 h3
  clear hR hA
  have d1 : decide ((n : Int) < 0) = false := by simp
  have d2 : decide ((32 : Int) < (n : Int)) = false := by simp; omega
  have d3 : (8 * (bs.length : Int) - a) < n := by omega
  go_enter Tryz.func46, Tryz.ntmps46
  go_wp2_with (first
    | (go_at_call 51; refine (rready_any g _ h0).mono ?_; rintro e w' ⟨rfl, rfl⟩)
    | (go_at_call 67; refine (left_any g a bs.length cap A _ (by omega) ha h0 h2 h3).mono ?_; rintro e w' ⟨rfl, m, rfl⟩))
  go_ret2
  exact ⟨rfl, _, rfl⟩
theorem or_piece32 (y pc up : Nat) (hy : y < 4294967296) (hp : pc * 2 ^ up < 4294967296) : bits BinOp.or IntKind.u32 (y : Int) ((pc : Int) * 2 ^ up % 4294967296) = ((y ||| pc * 2 ^ up : Nat) : Int) := by
  have e : ((pc : Int) * 2 ^ up % 4294967296) = ((pc * 2 ^ up : Nat) : Int) := by
    have : ((pc * 2 ^ up : Nat) : Int) = (pc : Int) * 2 ^ up := by simp
    rw [← this]
    omega
  rw [e, u32_or_nat y _ hy hp]
theorem get_stored {w wr : World} {g n a j k nq up ib pc bq : Nat} {high : Bool} {bs : List Nat} {S : Value} {av : Int} (hn : j + k ≤ n) (hn32 : n ≤ 32) (hk : (a + j) % 8 + k ≤ 8)
    (hup : up = abn high n j k) (hib : ib = abn high 8 ((a + j) % 8) k) (hbq : bq = bs.getD ((a + j) / 8) 0) (hpc : bq / 2 ^ ib % 2 ^ k = pc) (hav : av = (a + j + k : Nat))
    (hR : Rd wr g high bs (a + j) S) (hc : Chg (fun i => i = g) w wr) :
    bits BinOp.or IntKind.u32 (getPart high bs a n j : Nat) ((pc : Int) * 2 ^ up % 4294967296) = (getPart high bs a n (j + k) : Nat) ∧
    Rd ((wr.drewN nq).setCell ⟨g, 2, none⟩ (.int .i64 av)) g high bs (a + (j + k)) S ∧
    Chg (fun i => i = g) w ((wr.drewN nq).setCell ⟨g, 2, none⟩ (.int .i64 av)) := by
  have hne := own_ne_blk hR.2 hR.1 (by decide)
  refine ⟨?_, ⟨?_, ?_⟩, (hc.drewN nq).setCell (p := ⟨g, 2, none⟩) (fun _ => rfl) _⟩
  · have h1 := getPart_lt high bs a n j
    have h2 : 2 ^ n ≤ 2 ^ 32 := Nat.pow_le_pow_right (by decide) hn32
    have h3 : pc * 2 ^ up < 2 ^ n := by
      have h4 : pc < 2 ^ k := by rw [← hpc]; exact Nat.mod_lt _ (Nat.two_pow_pos k)
      have h5 : pc * 2 ^ up < 2 ^ k * 2 ^ up := Nat.mul_lt_mul_of_pos_right h4 (Nat.two_pow_pos up)
      have h6 : 2 ^ k * 2 ^ up ≤ 2 ^ n := by
        rw [← Nat.pow_add]
        exact Nat.pow_le_pow_right (by decide) (by rw [hup]; cases high <;> simp [abn] <;> omega)
      omega
    rw [or_piece32 _ _ _ (by omega) (by omega), get_piece high bs a n j k hn hk]
    subst hup hib hbq hpc
    rfl
  · have h1 := (hR.1.drewN nq).set_ 2 (.int .i64 (a + j + k : Nat))
    subst hav
    rw [show a + (j + k) = a + j + k from by omega]
    simpa using h1
  · exact own_chg (S := fun i => i = g) (own_drewN hR.2 nq) ((Chg.refl (fun i => i = g) _).setCell (p := ⟨g, 2, none⟩) (fun _ => rfl) _) (fun i hi he => hne (by rw [hi, he]))
set_option maxHeartbeats 1000000 in
set_option maxRecDepth 100000 in
theorem get_ok (g a n : Nat) (high : Bool) (bs : List Nat) (S : Value) (w : World) (hR : Rd w g high bs a S) (hL : bs.length ≤ 268435456) (hbs : ∀ b ∈ bs, b < 256) (hn : n ≤ 32) (hc : a + n ≤ 8 * bs.length) :
    Calls Tryz.prog 46 #[.pointer (some ⟨g, 0, none⟩), .int .i64 n] w (GetTo w g high bs a n S) := by
  have h0 := hR.1.cell 0
  have h2 := hR.1.cell 2
  have h3 := hR.1.cell 3
  have hR0 := hR
  obtain ⟨A, cap, rfl, hA⟩ := own_slice hR.2
  simp at h0 h2 h3
  have HR := keepf hR
  have Hbs := keepf hbs
  clear hR hA hR0 hbs
  have d1 : decide ((n : Int) < 0) = false := by simp
  have d2 : decide ((32 : Int) < (n : Int)) = false := by simp; omega
  have d3 : decide ((8 * (bs.length : Int) - a) < n) = false := by simp; omega
  go_enter Tryz.func46, Tryz.ntmps46
  go_wp2_with (first
    | (go_at_call 51; refine (rready_any g _ h0).mono ?_; rintro e w' ⟨rfl, rfl⟩)
    | (go_at_call 67; refine (left_any g a bs.length cap A _ (by omega) (by omega) h0 h2 h3).mono ?_; rintro e w' ⟨rfl, m, rfl⟩))
  clear h0 h2 h3
  go_loopw [6, 7] (fun x d wr => ∃ j : Nat, j ≤ n ∧ d = .int .i64 j ∧ x = .int .u32 (getPart high bs a n j : Nat) ∧ Rd wr g high bs (a + j) (.slice A bs.length cap) ∧ Chg (fun i => i = g) w wr) (fun _ d _ => n - (intOf d).toNat)
  case atStart => exact ⟨0, Nat.zero_le _, rfl, by rw [getPart_zero]; rfl, ⟨HR.out.1.drewN m, own_drewN HR.out.2 m⟩, (Chg.refl _ _).drewN m⟩
  case round =>
    obtain ⟨j, hj, rfl, rfl, hRj, hch⟩ := hrel
    have hx32 := getPart_lt high bs a n j
    have hp32 : 2 ^ n ≤ 2 ^ 32 := Nat.pow_le_pow_right (by decide) hn
    have hx33 : getPart high bs a n j ≤ 4294967295 := by omega
    have c1 := hRj.1.cell 1
    have c2 := hRj.1.cell 2
    have c3 := hRj.1.cell 3
    have q2 := hRj.1.frozen 2
    have hne := own_ne_blk hRj.2 hRj.1 (by decide)
    simp at c1 c2 c3
    have HRj := keepf hRj
    have HC := keepf hch
    have HN := keepf hne
    clear hRj hch hne hx32 hp32
    by_cases hlt : j < n
    · obtain ⟨gb, cap', hA, hcap1, hcap2⟩ := own_form HRj.out.2 (by omega)
      simp only [Value.slice.injEq] at hA
      obtain ⟨rfl, _, rfl⟩ := hA
      have hlq : (a + j) / 8 < bs.length := by omega
      have cb := HRj.out.2.cellAt ((a + j) / 8) (by omega)
      have hbq : (bs.getD ((a + j) / 8) 0) < 256 := by
        rw [List.getD_eq_getElem?_getD, List.getElem?_eq_getElem hlq]
        exact Hbs.out _ (List.getElem_mem hlq)
      have hcb : (ucells bs)[(a + j) / 8]? = some (.int .u8 (bs.getD ((a + j) / 8) 0 : Nat)) := by
        simp [ucells, hlq]
      rw [hcb] at cb
      clear hcb
      obtain ⟨bq, hbe⟩ : ∃ bq, bq = bs.getD ((a + j) / 8) 0 := ⟨_, rfl⟩
      rw [← hbe] at cb hbq
      have HB := keepf hbe
      clear hbe
      go_upto_region 10 with fail
      go_cut [8] from 23 to 80 (fun kk wx => ∃ k : Nat, 1 ≤ k ∧ j + k ≤ n ∧ (a + j) % 8 + k ≤ 8 ∧ kk = .int .i64 k ∧ wr = wx)
      case first =>
        go_wp2_with (go_at_call 68; refine (room_any g (a + j) _ (by omega) c2).mono ?_; rintro e w' ⟨rfl, rfl⟩)
        all_goals go_meet
        all_goals first
          | exact ⟨min (n - j) (8 - (a + j) % 8), by omega, by omega, by omega, by congr 1; omega, rfl⟩
          | exact ⟨n - j, by omega, by omega, by omega, by congr 1; omega, rfl⟩
          | exact ⟨8 - (a + j) % 8, by omega, by omega, by omega, by congr 1, rfl⟩
      case rest =>
        obtain ⟨k, hk1, hk2, hk3, rfl, rfl⟩ := hcut
        obtain ⟨up, hup⟩ : ∃ up : Nat, up = abn high n j k := ⟨_, rfl⟩
        obtain ⟨ib, hib⟩ : ∃ ib : Nat, ib = abn high 8 ((a + j) % 8) k := ⟨_, rfl⟩
        have hup2 : up ≤ 31 := by rw [hup]; cases high <;> simp [abn] <;> omega
        have hib2 : ib ≤ 7 := by rw [hib]; cases high <;> simp [abn] <;> omega
        have hk8 : k ≤ 8 := by omega
        have HU : Hid (∀ W : World, W.cell? ⟨g, 1, none⟩ = some (.bool high) → Calls Tryz.prog 70 #[.pointer (some ⟨g, 0, none⟩), .int .i64 n, .int .i64 j, .int .i64 k] W fun e w' => e = .returned (.int .i64 up) ∧ W = w') := by
          intro W h
          have := above_any g high n j k W (by omega) (by omega) (by omega) (by omega) h
          rw [abv_n _ _ _ _ (by omega), ← hup] at this
          exact this
        have HI : Hid (∀ W : World, W.cell? ⟨g, 1, none⟩ = some (.bool high) → W.cell? ⟨g, 2, none⟩ = some (.int .i64 (a + j : Nat)) → Calls Tryz.prog 69 #[.pointer (some ⟨g, 0, none⟩), .int .i64 k] W fun e w' => e = .returned (.int .i64 ib) ∧ W = w') := by
          intro W h h'
          have := inByte_any g high (a + j) k W (by omega) (by omega) (by omega) h h'
          rw [show (8 : Int) = ((8 : Nat) : Int) from rfl, abv_n _ _ _ _ (by omega), ← hib] at this
          exact this
        have HUp := keepf hup
        have HIb := keepf hib
        clear hup hib
        go_upto_region 11 with fail
        go_quiet ((go_at_call 69; exact quiet_left (HI.out _ c1 c2)))
        go_upto_region 12 with fail
        rw [piece_eq bq ib k (by omega) hk8]
        generalize hP : bq / 2 ^ ib % 2 ^ k = pc
        have hpc : pc < 256 := by
          have h1 : pc < 2 ^ k := by rw [← hP]; exact Nat.mod_lt _ (Nat.two_pow_pos k)
          have h2 : 2 ^ k ≤ 2 ^ 8 := Nat.pow_le_pow_right (by decide) hk8
          omega
        have HP := keepf hP
        clear hP
        go_wp2_with (go_at_call 70; refine (HU.out _ (by exact c1)).mono ?_; rintro e w' ⟨rfl, rfl⟩)
        go_roundw
        case rel =>
          obtain ⟨r1, r2, r3⟩ := get_stored (nq := nq) (av := ↑a + ↑j + ↑k) (by omega) hn hk3 HUp.out HIb.out HB.out HP.out (by omega) HRj.out HC.out
          exact ⟨j + k, by omega, by go_num, by rw [r1], r2, r3⟩
        case measure => simp [intOf]; omega
    · obtain rfl : j = n := by omega
      go_wp2
      go_ret2
      exact ⟨by rw [← getPart_all]; rfl, HRj.out, HC.out⟩
end Go.Proofs.YtmmilchmnimjoaaGreat
