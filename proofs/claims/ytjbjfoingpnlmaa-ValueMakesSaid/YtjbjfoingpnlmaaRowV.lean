/- Rows of values (api.Value) of the call's own that grow, and the tree that such a row makes. -/
import Derived.Test.YtjbjfoingpnlmaaRVt3
import Derived.Test.YtjbjfoingpnlmaaPB
import Derived.Deep.AppendLies
namespace Go.Proofs.Ytjbjfoingpnlmaa
open Go.RowKit
set_option linter.unusedVariables false
set_option linter.unusedSimpArgs false

def vcells (es : List VC) : List Value := es.flatMap VC.cells
theorem vcells_nil : vcells [] = [] := rfl
theorem vcells_app (a b : List VC) : vcells (a ++ b) = vcells a ++ vcells b := by simp [vcells]
theorem vcells_one (e : VC) : vcells [e] = e.cells := by simp [vcells]
theorem vcells_len (es : List VC) : (vcells es).length = es.length * 4 := by
  induction es with
  | nil => rfl
  | cons e es ih =>
    rw [show vcells (e :: es) = e.cells ++ vcells es from rfl, List.length_append, ih, List.length_cons, show e.cells.length = 4 from rfl]
    omega
theorem vcells_cell (es : List VC) : ∀ u ∈ vcells es, u.oneCell' = true := by
  intro u hu
  obtain ⟨e, _, h⟩ := List.mem_flatMap.1 hu
  unfold VC.cells at h
  simp only [List.mem_cons, List.not_mem_nil, or_false] at h
  rcases h with rfl | rfl | rfl | rfl <;> rfl
theorem vcells_at : ∀ {es : List VC} {j i : Nat} {e : VC}, es[j]? = some e → i < 4 → (vcells es)[j * 4 + i]? = e.cells[i]? := by
  intro es
  induction es with
  | nil => intro j i e h; simp at h
  | cons x es ih =>
    intro j i e h hi
    rw [show vcells (x :: es) = x.cells ++ vcells es from rfl]
    cases j with
    | zero =>
      simp at h
      subst h
      rw [Nat.zero_mul, Nat.zero_add, List.getElem?_append_left (by exact hi)]
    | succ j =>
      have h4 : x.cells.length = 4 := rfl
      rw [List.getElem?_append_right (by rw [h4]; omega), h4, show (j + 1) * 4 + i - 4 = j * 4 + i from by omega]
      exact ih (by simpa using h) hi

/-- A row of values of the call's own; its trees lie in the world from which the call began. -/
structure GV (w wr : World) (es : List VC) (ts : List VT) (n : Nat) (A : Option Addr) (c : Nat) : Prop where
  own : wr.ownsRow 0 24 4 (.slice A n c) n (vcells es)
  chg : Chg NoS w wr
  new : ∀ a, A = some a → w.heap.size ≤ a.block
  len : es.length = n
  tlen : ts.length = n
  is : ∀ (j : Nat) (t : VT) (e : VC), ts[j]? = some t → es[j]? = some e → ValIs w t e
theorem GV.start {w wr : World} (h : Chg NoS w wr) : GV w wr [] [] 0 none 0 := ⟨own_nil wr 0 _ 4, h, fun _ h => (by cases h), rfl, rfl, fun j t e h => (by simp at h)⟩
theorem GV.start0 {w wr : World} (h : Chg NoS w wr) : GV w (wr.alloc (.cells #[] 24)) [] [] 0 (some ⟨wr.heap.size, 0, none⟩) 0 :=
  ⟨⟨rfl, .inr ⟨wr.heap.size, 0, #[], rfl, Nat.zero_le _, heap_alloc_new wr _, Nat.le_refl _, Nat.zero_le _, rfl, rfl⟩⟩, h.alloc _, fun a ha => (by cases ha; exact h.size), rfl, rfl, fun j t e h => (by simp at h)⟩
theorem GV.call {w wr w2 : World} {es : List VC} {ts : List VT} {n c : Nat} {A : Option Addr} (h : GV w wr es ts n A c) (hc : Chg NoS wr w2) : GV w w2 es ts n A c :=
  ⟨own_chg (S := NoS) h.own hc (fun _ _ e => e), h.chg.trans hc (fun _ _ e => e), h.new, h.len, h.tlen, h.is⟩
theorem GV.far {w wr : World} {es : List VC} {ts : List VT} {n c g : Nat} {A : Option Addr} (h : GV w wr es ts n A c) (hne : (Value.slice A n c).ownBlock ≠ some g) (hg : w.heap.size ≤ g) (i : Nat) (u : Value) : GV w (wr.setCell ⟨g, i, none⟩ u) es ts n A c :=
  ⟨own_chg (S := fun x => x = g) h.own (Chg.setCell (S := fun x => x = g) (Chg.refl (fun x => x = g) wr) (p := ⟨g, i, none⟩) (fun _ => rfl) u) (fun g' hg' e => hne (by rw [hg', e])), h.chg.setCell (p := ⟨g, i, none⟩) (fun h2 => absurd h2 (Nat.not_lt.2 hg)) u, h.new, h.len, h.tlen, h.is⟩
/-- What the row reads as. -/
theorem GV.row {w wr : World} {es : List VC} {ts : List VT} {n c : Nat} {A : Option Addr} (h : GV w wr es ts n A c) : RowIs wr A 0 ts := by
  have hsrc := src_own h.own
  rcases A with _ | ad
  · have h0 := (hsrc.2.1 rfl).1
    have h1 := h.tlen
    rw [h0] at h1
    rw [List.eq_nil_of_length_eq_zero h1]
    exact .nil _ _
  · have key : ∀ (m j : Nat), j + m = n → RowIs wr (some ad) j (ts.drop j) := by
      intro m
      induction m with
      | zero =>
        intro j hj
        rw [List.drop_of_length_le (by rw [h.tlen]; omega)]
        exact .nil _ _
      | succ m ih =>
        intro j hj
        have hjt : j < ts.length := by rw [h.tlen]; omega
        have hje : j < es.length := by rw [h.len]; omega
        rw [List.drop_eq_getElem_cons hjt]
        refine .cons ad j _ _ es[j] (fun i hi => ?_) ((h.is j _ _ (List.getElem?_eq_getElem hjt) (List.getElem?_eq_getElem hje)).chg h.chg) (ih (j + 1) (by omega))
        have h1 := vcells_at (List.getElem?_eq_getElem hje) hi
        rw [List.getElem?_eq_getElem (show i < es[j].cells.length from hi)] at h1 ⊢
        exact hsrc.2.2 ad rfl _ _ h1
    have := key n 0 (by omega)
    rwa [List.drop_zero] at this
theorem GV.good {w wr : World} {es : List VC} {ts : List VT} {n c : Nat} {A : Option Addr} (h : GV w wr es ts n A c) (hn : n ≤ maxLen) : (A = none → n = 0 ∧ c = 0) ∧ n ≤ c := by
  rcases h.own.2 with ⟨h1, h0⟩ | ⟨g', cap, cur, h1, hb, hh, h2, h3, _⟩
  · simp only [Value.slice.injEq] at h1
    obtain ⟨rfl, _, rfl⟩ := h1
    exact ⟨fun _ => ⟨h0, rfl⟩, by omega⟩
  · simp only [Value.slice.injEq] at h1
    obtain ⟨rfl, _, rfl⟩ := h1
    exact ⟨fun e => (by cases e), h2⟩
/-- The value that has the row. -/
theorem GV.val {w wr : World} {es : List VC} {ts : List VT} {n c : Nat} {A : Option Addr} (h : GV w wr es ts n A c) (hn : n ≤ maxLen) (k v : Int) (s : ByteArray) (hk : -9223372036854775808 ≤ k ∧ k ≤ 9223372036854775807) (hv : -9223372036854775808 ≤ v ∧ v ≤ 9223372036854775807) (hs : s.size ≤ maxLen) :
    ValIs wr (.mk k v s ts) ⟨k, v, s, A, n, c⟩ :=
  .mk ⟨k, v, s, A, n, c⟩ ts ⟨hk, hv, hs, (h.good hn).1, (h.good hn).2, hn⟩ h.tlen h.row
theorem info_VC : (Try.prog.info? 24).map (fun i => (i.zero, i.size, i.bytes)) = some (some (.agg #[.int .i64 0, .int .i64 0, .string ⟨#[]⟩, .slice none 0 0]), 4, 56) := by kernel_rfl
theorem info_partsV {o : Option TypeInfo} {z : Value} {a b : Nat} (h : o.map (fun i => (i.zero, i.size, i.bytes)) = some (some z, a, b)) : ∃ i, o = some i ∧ i.zero = some z ∧ i.size = a ∧ i.bytes = b := by
  rcases o with _ | i
  · cases h
  · simp at h
    exact ⟨i, rfl, h.1, h.2.1, h.2.2⟩
/-- Values are appended. -/
theorem appV {w wr W : World} {ops : Array Oper} {rest : List Oper} {o : Oper} {a : Act} {Q : Exit → Act → World → Prop} {es new : List VC} {ts tn : List VT} {n c m cx : Nat} {A X : Option Addr} (hgd : o.guard = none) (s x : Operand)
    (ho : o.op = .call { callee := .builtin .append, args := #[s, x], argTypes := #[22, 22] }) (hs : a.eval s = .slice A n c) (hx : a.eval x = .slice X m cx)
    (h : GV w wr es ts n A c) (hc : Chg NoS wr W) (hn : n ≤ 2000000000) (hm : m ≤ 2000000000) (hsrc : Src W 4 X m cx (vcells new)) (hlen : new.length = m) (htl : tn.length = m) (his : ∀ (j : Nat) (t : VT) (e : VC), tn[j]? = some t → new[j]? = some e → ValIs w t e)
    (k : ∀ A3 c3 w', GV w w' (es ++ new) (ts ++ tn) (n + m) A3 c3 → (∀ (g : Nat) (T : TypeId) (cs : Array Value), Blk W g T cs → (Value.slice A n c).ownBlock ≠ some g → Blk w' g T cs ∧ (Value.slice A3 (n + m) c3).ownBlock ≠ some g) → wpList Try.prog ops Q rest (a.put o.dst (.slice A3 (n + m) c3)) w') :
    wpList Try.prog ops Q (o :: rest) a W := by
  obtain ⟨i0, hi, hz0, hz1, hz2⟩ := info_partsV info_VC
  refine wpList_append_src hgd s x 22 ho 24 i0 _ 4 56 Try.underlying22 hi hz0 hz1 hz2 rfl (by decide) (.slice A n c) n (vcells es) hs (own_chg (S := NoS) h.own hc (fun _ _ e => e)) X m cx (vcells new) hx hsrc (vcells_cell _) (by unfold maxLen; omega) (by omega) ?_
  intro S2 w4 hown4 hgr4 hat4
  obtain ⟨A4, c4, rfl, hA4⟩ := own_slice hown4
  refine k A4 c4 w4 ⟨by rw [vcells_app]; exact hown4, ?_, ?_, by rw [List.length_append, h.len, hlen], by rw [List.length_append, h.tlen, htl], fun j t e ht he => ?_⟩ (fun g T cs hb hne => ⟨hb.grown hgr4 (fun e => hne e.symm), fun e => ?_⟩)
  · refine (h.chg.trans hc (fun _ _ e => e)).grown hgr4 (fun kk e hk => ?_)
    rcases A with _ | b
    · simp [Value.ownBlock] at e
    · have e2 : b.block = kk := by simpa [Value.ownBlock] using e
      have := h.new b rfl
      omega
  · rintro b rfl
    have hsz := h.chg.size
    have hsz2 := hc.size
    rcases hat4 with e | e
    · rcases A with _ | d
      · simp [Value.ownBlock] at e
      · have e2 : b.block = d.block := by simpa [Value.ownBlock] using e
        rw [e2]
        exact h.new d rfl
    · have e2 : b.block = W.heap.size := by simpa [Value.ownBlock] using e
      omega
  · by_cases hj : j < n
    · rw [List.getElem?_append_left (by rw [h.tlen]; exact hj)] at ht
      rw [List.getElem?_append_left (by rw [h.len]; exact hj)] at he
      exact h.is j t e ht he
    · rw [List.getElem?_append_right (by rw [h.tlen]; omega), h.tlen] at ht
      rw [List.getElem?_append_right (by rw [h.len]; omega), h.len] at he
      exact his _ t e ht he
  · rcases hat4 with h2 | h2
    · exact hne (h2.symm.trans e)
    · have h3 := hb.lt
      rw [h2] at e
      cases e
      exact absurd h3 (Nat.lt_irrefl _)
theorem PB.kept {w W w' : World} {g : Nat} {cs : Array Value} {A A3 : Option Addr} {n c n3 c3 : Nat} (h : PB w W g cs) (k : ∀ (g : Nat) (T : TypeId) (cs : Array Value), Blk W g T cs → (Value.slice A n c).ownBlock ≠ some g → Blk w' g T cs ∧ (Value.slice A3 n3 c3).ownBlock ≠ some g) (hne : (Value.slice A n c).ownBlock ≠ some g) : PB w w' g cs ∧ (Value.slice A3 n3 c3).ownBlock ≠ some g :=
  ⟨⟨(k g _ cs h.blk hne).1, h.new⟩, (k g _ cs h.blk hne).2⟩
/-- One value's cells in a block of their own. -/
theorem src_one {W : World} {B : Nat} {e : VC} (h : ∀ i, i < 4 → W.cell? ⟨B, i, none⟩ = e.cells[i]?) : Src W 4 (some ⟨B, 0, none⟩) 1 1 (vcells [e]) := by
  refine ⟨by rw [vcells_len]; rfl, fun e => (by cases e), fun ad ha j u hj => ?_⟩
  cases ha
  rw [vcells_one] at hj
  have hj4 : j < 4 := (List.getElem?_eq_some_iff.1 hj).1
  have hadd : (⟨B, 0, none⟩ : Addr).add j = ⟨B, j, none⟩ := by unfold Addr.add; split <;> simp_all
  rw [hadd, h j hj4, hj]
end Go.Proofs.Ytjbjfoingpnlmaa
