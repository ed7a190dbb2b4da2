/- VMkM, VRow, RPk, VMkW in one text (written by mergen.py). -/
import Derived.Test.YtjbjfoingpnlmaaVPutM
import Derived.Test.YtjbjfoingpnlmaaVDi2
import Derived.Test.YtjbjfoingpnlmaaTree
import Derived.OpenShut
import Derived.Deep.Slices
import Derived.Deep.Fields
import Derived.Lib.SmallJoins
import Derived.Test.YtjbjfoingpnlmaaRVt11
import Derived.Test.YtjbjfoingpnlmaaVOk
import Derived.Test.YtjbjfoingpnlmaaVMk
import Derived.Test.YtjbjfoingpnlmaaVDi3
import Derived.Test.YtjbjfoingpnlmaaHeldZ
import Derived.Deep.RegionHeld3
import Derived.BigRegion
namespace Go.Proofs.Ytjbjfoingpnlmaa
set_option linter.unusedVariables false
set_option linter.unusedSimpArgs false

/-- What is told of a row of numbers from its end. -/
def emR (S : Nat → ByteArray) (V : Nat → VT) : Option ByteArray → List Nat → List VT
  | _, [] => []
  | prev, p :: R => emR S V (some (S p)) R ++ (if prev = some (S p) then [] else [nmT (S p), V p])
theorem emF_rev {S : Nat → ByteArray} {V : Nat → VT} : ∀ (R : List Nat) (p : Nat) (t : List Nat), emF S V (R.reverse ++ p :: t) = emR S V (some (S p)) R ++ emF S V (p :: t)
  | [], p, t => by rw [emR]; rfl
  | q :: R, p, t => by
    rw [List.reverse_cons, List.append_assoc, List.singleton_append, emF_rev R q (p :: t), emF, emR]
    by_cases h : S p = S q
    · rw [if_pos h, if_pos (by rw [h])]; simp
    · rw [if_neg h, if_neg (fun e => h (Option.some.inj e))]; simp
theorem emF_none {S : Nat → ByteArray} {V : Nat → VT} : ∀ R : List Nat, emF S V R.reverse = emR S V none R
  | [] => by rw [emR]; rfl
  | p :: R => by
    rw [List.reverse_cons, emF_rev R p [], emR, if_neg (by simp)]
    rfl
/-- A row of names that are all less. -/
def lowL (key : ByteArray) : List VT → Prop
  | [] => True
  | [_] => False
  | t :: _ :: l => Op.bytesLess t.str.toList key.toList = true ∧ lowL key l
theorem low_two {P : List VT → Prop} {key : ByteArray} (h0 : P []) (h2 : ∀ t u l, Op.bytesLess t.str.toList key.toList = true → lowL key l → P l → P (t :: u :: l)) : ∀ l : List VT, lowL key l → P l
  | [], _ => h0
  | [t], h => h.elim
  | t :: u :: l, h => h2 t u l h.1 h.2 (low_two h0 h2 l h.2)
theorem no_hit {key : ByteArray} {t : VT} (h : Op.bytesLess t.str.toList key.toList = true) : ¬ hitT key t := fun e => by
  rw [e.2, less_self] at h
  cases h
theorem no_gt {key : ByteArray} {t : VT} (h : Op.bytesLess t.str.toList key.toList = true) : ¬ gtT key t := fun e => by
  have := less_tr h e.2
  rw [less_self] at this
  cases this
theorem low_mono {a b : ByteArray} (hab : Op.bytesLess a.toList b.toList = true) : ∀ l : List VT, lowL a l → lowL b l := low_two trivial (fun t u l h _ ih => ⟨less_tr h hab, ih⟩)
theorem low_app {key s : ByteArray} {v : VT} (hs : Op.bytesLess s.toList key.toList = true) : ∀ l : List VT, lowL key l → lowL key (l ++ [nmT s, v]) := low_two ⟨hs, trivial⟩ (fun t u l h _ ih => ⟨h, ih⟩)
theorem low_find {key : ByteArray} : ∀ l : List VT, lowL key l → findL key l = none := low_two (findL_nil key) (fun t u l h _ ih => by rw [find_two (no_hit h), ih]; rfl)
theorem low_ins {key : ByteArray} {x : VT} : ∀ l : List VT, lowL key l → insL key x l = l ++ [nmT key, x] := low_two (by rw [insL]; rfl) (fun t u l h _ ih => by rw [ins_le (no_gt h), ih]; rfl)
theorem low_put {key : ByteArray} {x : VT} {l : List VT} (h : lowL key l) : putL key x l = l ++ [nmT key, x] := by
  unfold putL
  rw [low_find l h, low_ins l h]
theorem low_last {key : ByteArray} {x v : VT} : ∀ l : List VT, lowL key l → ∃ j, findL key (l ++ [nmT key, v]) = some j ∧ replL j x (l ++ [nmT key, v]) = l ++ [nmT key, x] :=
  low_two ⟨0, findL_hit (hit_nm key), rfl⟩ (fun t u l h _ ih => by
    obtain ⟨j, h1, h2⟩ := ih
    refine ⟨j + 1, ?_, ?_⟩
    · show findL key (t :: u :: (l ++ [nmT key, v])) = _
      rw [find_two (no_hit h), h1]
      rfl
    · show replL (j + 1) x (t :: u :: (l ++ [nmT key, v])) = _
      rw [repl_succ, h2]
      rfl)
theorem low_eq {key : ByteArray} {x v : VT} {l : List VT} (h : lowL key l) : putL key x (l ++ [nmT key, v]) = l ++ [nmT key, x] := by
  obtain ⟨j, h1, h2⟩ := low_last (x := x) (v := v) l h
  unfold putL
  rw [h1]
  exact h2
/-- What is greater stands behind what is put in. -/
theorem find_app {key s : ByteArray} {v : VT} (hs : Op.bytesLess key.toList s.toList = true) : ∀ l : List VT, l.length % 2 = 0 → findL key (l ++ [nmT s, v]) = findL key l := by
  have hno : ¬ hitT key (nmT s) := fun e => by
    have h2 : s = key := e.2
    rw [h2, less_self] at hs
    cases hs
  refine two_ind ?_ (fun t u l hl ih => ?_)
  · show findL key [nmT s, v] = _
    rw [find_two hno, findL_nil]
    rfl
  · show findL key (t :: u :: (l ++ [nmT s, v])) = _
    by_cases ht : hitT key t
    · rw [findL_hit ht, findL_hit ht]
    · rw [find_two ht, find_two ht, ih]
theorem ins_app {key s : ByteArray} {x v : VT} (hs : Op.bytesLess key.toList s.toList = true) : ∀ l : List VT, l.length % 2 = 0 → insL key x (l ++ [nmT s, v]) = insL key x l ++ [nmT s, v] := by
  refine two_ind ?_ (fun t u l hl ih => ?_)
  · show insL key x [nmT s, v] = _
    rw [ins_gt ⟨rfl, hs⟩, insL]
    rfl
  · show insL key x (t :: u :: (l ++ [nmT s, v])) = _
    by_cases hg : gtT key t
    · rw [ins_gt hg, ins_gt hg]; rfl
    · rw [ins_le hg, ins_le hg, ih]; rfl
theorem repl_app {x : VT} {T : List VT} {j : Nat} {l : List VT} (h : 2 * j + 2 ≤ l.length) : replL j x (l ++ T) = replL j x l ++ T := by
  unfold replL
  rw [List.take_append_of_le_length (by omega), List.drop_append_of_le_length (by omega), List.append_assoc, List.cons_append]
theorem put_app {key s : ByteArray} {x v : VT} {l : List VT} (hs : Op.bytesLess key.toList s.toList = true) (hl : l.length % 2 = 0) : putL key x (l ++ [nmT s, v]) = putL key x l ++ [nmT s, v] := by
  unfold putL
  rw [find_app hs l hl]
  cases hf : findL key l with
  | none => exact ins_app hs l hl
  | some j =>
    have := findL_lt key _ l (Nat.le_refl _) j hf
    exact repl_app (by omega)
/-- The numbers' names fall. -/
def fallR (S : Nat → ByteArray) : List Nat → Prop
  | [] => True
  | [_] => True
  | p :: q :: R => Op.bytesLess (S p).toList (S q).toList ≠ true ∧ fallR S (q :: R)
theorem fall_tail {S : Nat → ByteArray} {p : Nat} : ∀ {R : List Nat}, fallR S (p :: R) → fallR S R
  | [], _ => trivial
  | q :: R, h => h.2
theorem less_as {a b : ByteArray} (h : Op.bytesLess a.toList b.toList = true) : Op.bytesLess b.toList a.toList ≠ true := fun e => by
  have := less_tr h e
  rw [less_self] at this
  cases this
theorem fall_cons {S : Nat → ByteArray} {k : Nat} : ∀ (R : List Nat) (p : Nat), Op.bytesLess (S k).toList (S p).toList = true → fallR S (p :: R) → fallR S (p :: insR S k R)
  | [], p, h, _ => ⟨less_as h, trivial⟩
  | q :: R, p, h, hf => by
    rw [insR]
    by_cases hq : Op.bytesLess (S k).toList (S q).toList = true
    · rw [if_pos hq]
      exact ⟨hf.1, fall_cons R q hq hf.2⟩
    · rw [if_neg hq]
      exact ⟨less_as h, hq, hf.2⟩
theorem fall_ins {S : Nat → ByteArray} {k : Nat} : ∀ {R : List Nat}, fallR S R → fallR S (insR S k R)
  | [], _ => trivial
  | p :: R, h => by
    rw [insR]
    by_cases hp : Op.bytesLess (S k).toList (S p).toList = true
    · rw [if_pos hp]
      exact fall_cons R p hp h
    · rw [if_neg hp]
      exact ⟨hp, h⟩
theorem emR_even {S : Nat → ByteArray} {V : Nat → VT} : ∀ (R : List Nat) (prev : Option ByteArray), (emR S V prev R).length % 2 = 0
  | [], _ => by rw [emR]; rfl
  | p :: R, prev => by
    rw [emR, List.length_append]
    have := emR_even (S := S) (V := V) R (some (S p))
    split
    · simp only [List.length_nil]; omega
    · simp only [List.length_cons, List.length_nil]; omega
theorem emR_low {S : Nat → ByteArray} {V : Nat → VT} : ∀ (R : List Nat) (p : Nat), fallR S (p :: R) → lowL (S p) (emR S V (some (S p)) R)
  | [], _, _ => by rw [emR]; trivial
  | q :: R, p, h => by
    rw [emR]
    have ih := emR_low (V := V) R q h.2
    by_cases hq : S p = S q
    · rw [if_pos (by rw [hq]), List.append_nil, hq]
      exact ih
    · rw [if_neg (fun e => hq (Option.some.inj e))]
      have hl := less_tot h.1 hq
      exact low_app hl _ (low_mono hl _ ih)
theorem put_em {S : Nat → ByteArray} {V : Nat → VT} {k : Nat} : ∀ (R : List Nat) (prev : Option ByteArray), (∀ s, prev = some s → Op.bytesLess (S k).toList s.toList = true) → fallR S R → putL (S k) (V k) (emR S V prev R) = emR S V prev (insR S k R)
  | [], prev, hp, _ => by
    have hne : prev ≠ some (S k) := fun e => by
      have := hp _ e
      rw [less_self] at this
      cases this
    rw [insR, emR, emR, emR, if_neg hne]
    exact low_put (l := []) trivial
  | p :: R, prev, hp, hf => by
    have hne : prev ≠ some (S k) := fun e => by
      have := hp _ e
      rw [less_self] at this
      cases this
    rw [insR]
    by_cases h : Op.bytesLess (S k).toList (S p).toList = true
    · rw [if_pos h, emR, emR, ← put_em R (some (S p)) (fun s e => by cases e; exact h) (fall_tail hf)]
      by_cases h2 : prev = some (S p)
      · rw [if_pos h2, List.append_nil, List.append_nil]
      · rw [if_neg h2]
        exact put_app h (emR_even R _)
    · have h2 : prev ≠ some (S p) := fun e => h (hp _ e)
      have hlow := emR_low (V := V) R p hf
      rw [if_neg h, emR, if_neg h2, emR, if_neg hne, emR]
      by_cases hk : S k = S p
      · rw [if_pos (by rw [hk]), List.append_nil, hk]
        exact low_eq hlow
      · rw [if_neg (fun e => hk (Option.some.inj e))]
        have hl := less_tot h hk
        exact low_put (low_app hl _ (low_mono hl _ hlow))
/-- One put in behind another. -/
noncomputable def dictF (S : Nat → ByteArray) (V : Nat → VT) (d : List Nat) : List VT := d.foldl (fun D k => putL (S k) (V k) D) []
theorem dictF_snoc (S : Nat → ByteArray) (V : Nat → VT) (d : List Nat) (k : Nat) : dictF S V (d ++ [k]) = putL (S k) (V k) (dictF S V d) := by simp [dictF]
theorem dictF_em {S : Nat → ByteArray} {V : Nat → VT} : ∀ m : Nat, fallR S (sortR S (List.range m)) ∧ dictF S V (List.range m) = emR S V none (sortR S (List.range m))
  | 0 => by
    refine ⟨trivial, ?_⟩
    show [] = emR S V none []
    rw [emR]
  | m + 1 => by
    obtain ⟨h1, h2⟩ := dictF_em (S := S) (V := V) m
    rw [List.range_succ, sortR_snoc, dictF_snoc, h2]
    exact ⟨fall_ins h1, put_em _ none (fun s e => by cases e) h1⟩
/-- The names and values of a row, put in one behind another. -/
theorem dictF_T (l : List VT) : dictF (keyAt l) (valAt l) (List.range (l.length / 2)) = dictT l := by
  unfold dictT
  rw [emF_none, (dictF_em _).2]
end Go.Proofs.Ytjbjfoingpnlmaa

namespace Go.Proofs.Ytjbjfoingpnlmaa
open Go.RowKit Go.Deep Go.ChangeShapes Go.WideShapes
set_option linter.unusedVariables false

/-- A row of values that came in: its trees. -/
def VRow (w : World) (A : Option Addr) (n e : Nat) (l : List VT) : Prop := RowIs w A 0 l ∧ l.length = n ∧ (A = none → n = 0 ∧ e = 0) ∧ n ≤ e ∧ n ≤ maxLen
set_option maxHeartbeats 1000000 in
theorem open_vrow {H : Type} {enc : TypeId × Value → H} {w : World} {base b0 : Nat} {spare : Nat → Bool} {held : Bool} {r : Reach} {v : Value} {d : DataW H} {p : List MemPlace} (hv : Value.okWide Try.prog w r b0 22 v)
    (h : DataW.Trod enc Try.prog w base spare held 22 v d p) : ∃ (A : Option Addr) (n e : Nat) (l : List VT), v = .slice A n e ∧ VRow w A n e l := by
  obtain ⟨A, len, cap, rfl⟩ := okWide_slice Try.underlying22 hv
  obtain ⟨fuel, hf⟩ := h
  have h3 : DataW.trod enc Try.prog w base spare held fuel 22 [.slice A len cap] = some (d, p) := by simpa [Value.cells] using hf
  rcases DataW.trod_slice Try.underlying22 h3 with ⟨e3, _⟩ | ⟨a, len', cap', elems, rest, n, _, e3, _, hb, hl, hm, hlen, hel, _, _⟩
  · simp only [List.cons.injEq, Value.slice.injEq, and_true] at e3
    obtain ⟨rfl, rfl, rfl⟩ := e3
    exact ⟨_, _, _, [], rfl, .nil _ _, rfl, fun _ => ⟨rfl, rfl⟩, Nat.le_refl _, Nat.zero_le _⟩
  · simp only [List.cons.injEq, Value.slice.injEq, and_true] at e3
    obtain ⟨rfl, rfl, rfl⟩ := e3
    have hex : ∀ j, j < len → ∃ p : VC × VT, (∀ i, i < 4 → w.cell? (a.add (j * 4 + i)) = p.1.cells[i]?) ∧ ValIs w p.2 p.1 := by
      intro j hj
      have h4 := hel j hj
      rw [List.getElem?_eq_getElem (by omega)] at h4
      obtain ⟨cs', hcs', ht'⟩ := Option.bind_eq_some_iff.1 h4
      rw [show Try.prog.cellsOf 24 = 4 from by kernel_rfl] at hcs'
      obtain ⟨_, hcl, hat⟩ := World.cells?_some hcs'
      obtain ⟨c, t, rfl, hv⟩ := vt_el n _ _ ht'
      exact ⟨(c, t), fun i hi => by rw [← Go.Deep.add_add]; exact hat i hi, hv⟩
    haveI : Inhabited VT := ⟨.mk 0 0 ⟨#[]⟩ []⟩
    obtain ⟨f, hf⟩ := choose_lt hex
    obtain ⟨l, hll, hr⟩ := row_of f hf len 0 (by omega)
    exact ⟨_, _, _, l, rfl, hr, hll, fun e => (by cases e), hl, Nat.le_trans hl hm⟩
end Go.Proofs.Ytjbjfoingpnlmaa

namespace Go.Proofs.Ytjbjfoingpnlmaa.rk
open Go.RowKit
set_option linter.unusedVariables false
set_option linter.unusedSimpArgs false

/-- The caller's box. -/
class LBox where
  g : Nat
variable [LBox]
/-- A tree that stands whatever lies in the caller's box. -/
def KV (w : World) (t : VT) (e : VC) : Prop := ∀ V, Chg (fun i => i = LBox.g) w V → ValIs V t e
theorem KV.now {w : World} {t : VT} {e : VC} (h : KV w t e) : ValIs w t e := h w (Chg.refl _ w)
theorem KV.chg {w V : World} {t : VT} {e : VC} (h : KV w t e) (hc : Chg (fun i => i = LBox.g) w V) : KV V t e := fun V' h' => h V' (hc.trans h' (fun _ _ e => e))
theorem KV.call {w V : World} {t : VT} {e : VC} (h : KV w t e) (hc : Chg NoS w V) : KV V t e := h.chg (hc.mono (fun _ _ e => e.elim))
theorem nm_is (w : World) (key : ByteArray) (hk : key.size ≤ maxLen) : KV w (nmT key) ⟨5, 0, key, none, 0, 0⟩ := fun V _ => Go.Proofs.Ytjbjfoingpnlmaa.nm_is V key hk
/-- A row whose elements stand so. -/
def KRow (w : World) (A : Option Addr) (l : List VT) : Prop := ∀ (j : Nat) (t : VT), l[j]? = some t → ∃ (ad : Addr) (e : VC), A = some ad ∧ (∀ i, i < 4 → w.cell? (ad.add (j * 4 + i)) = e.cells[i]?) ∧ KV w t e
structure RowK (w : World) (A : Option Addr) (l : List VT) : Prop where
  r : RowIs w A 0 l
  k : KRow w A l
theorem RowK.start {w : World} {A : Option Addr} {t : VT} {l : List VT} (h : RowK w A (t :: l)) : ∃ b off, A = some ⟨b, off, none⟩ := h.r.start
theorem el_at {w : World} {b off q : Nat} {l : List VT} {t : VT} (h : RowK w (some ⟨b, off, none⟩) l) (ht : l[q]? = some t) : ∃ (eA : Option Addr) (el ec : Nat), KV w t ⟨t.kind, t.num, t.str, eA, el, ec⟩ ∧
    ∀ W, Chg NoS w W → W.cell? ⟨b, off + q * 4, none⟩ = some (.int .i64 t.kind) ∧ W.cell? ⟨b, off + q * 4 + 1, none⟩ = some (.int .i64 t.num) ∧ W.cell? ⟨b, off + q * 4 + 2, none⟩ = some (.string t.str) ∧ W.cell? ⟨b, off + q * 4 + 3, none⟩ = some (.slice eA el ec) := by
  obtain ⟨fA, fl, fc, hv, hcell⟩ := Go.Proofs.Ytjbjfoingpnlmaa.el_at h.r ht
  obtain ⟨ad, ⟨ek, en, es, eA, el, ec⟩, had, hc, hk⟩ := h.k q t ht
  obtain ⟨c0, c1, c2, c3⟩ := hcell w (Chg.refl NoS w)
  cases had
  have hadd : ∀ i, (⟨b, off, none⟩ : Addr).add i = ⟨b, off + i, none⟩ := fun i => by unfold Addr.add; split <;> simp_all
  have d0 := hc 0 (by decide)
  have d1 := hc 1 (by decide)
  have d2 := hc 2 (by decide)
  have d3 := hc 3 (by decide)
  rw [hadd] at d0 d1 d2 d3
  simp only [← Nat.add_assoc, Nat.add_zero] at d0 d1 d2 d3
  rw [c0] at d0
  rw [c1] at d1
  rw [c2] at d2
  rw [c3] at d3
  simp [VC.cells] at d0 d1 d2 d3
  obtain ⟨rfl, rfl, rfl⟩ := d3
  subst d0 d1 d2
  exact ⟨_, _, _, hk, hcell⟩
/-- A row of values of the call's own; its trees lie in the world from which the call began. -/
structure GV (w wr : World) (es : List VC) (ts : List VT) (n : Nat) (A : Option Addr) (c : Nat) : Prop where
  own : wr.ownsRow 0 24 4 (.slice A n c) n (vcells es)
  chg : Chg NoS w wr
  new : ∀ a, A = some a → w.heap.size ≤ a.block
  len : es.length = n
  tlen : ts.length = n
  is : ∀ (j : Nat) (t : VT) (e : VC), ts[j]? = some t → es[j]? = some e → KV w t e
theorem GV.start {w wr : World} (h : Chg NoS w wr) : GV w wr [] [] 0 none 0 := ⟨own_nil wr 0 _ 4, h, fun _ h => (by cases h), rfl, rfl, fun j t e h => (by simp at h)⟩
theorem GV.start0 {w wr : World} (h : Chg NoS w wr) : GV w (wr.alloc (.cells #[] 24)) [] [] 0 (some ⟨wr.heap.size, 0, none⟩) 0 :=
  ⟨⟨rfl, .inr ⟨wr.heap.size, 0, #[], rfl, Nat.zero_le _, heap_alloc_new wr _, Nat.le_refl _, Nat.zero_le _, rfl, rfl⟩⟩, h.alloc _, fun a ha => (by cases ha; exact h.size), rfl, rfl, fun j t e h => (by simp at h)⟩
theorem GV.call {w wr w2 : World} {es : List VC} {ts : List VT} {n c : Nat} {A : Option Addr} (h : GV w wr es ts n A c) (hc : Chg NoS wr w2) : GV w w2 es ts n A c :=
  ⟨own_chg (S := NoS) h.own hc (fun _ _ e => e), h.chg.trans hc (fun _ _ e => e), h.new, h.len, h.tlen, h.is⟩
theorem GV.far {w wr : World} {es : List VC} {ts : List VT} {n c g : Nat} {A : Option Addr} (h : GV w wr es ts n A c) (hne : (Value.slice A n c).ownBlock ≠ some g) (hg : w.heap.size ≤ g) (i : Nat) (u : Value) : GV w (wr.setCell ⟨g, i, none⟩ u) es ts n A c :=
  ⟨own_chg (S := fun x => x = g) h.own (Chg.setCell (S := fun x => x = g) (Chg.refl (fun x => x = g) wr) (p := ⟨g, i, none⟩) (fun _ => rfl) u) (fun g' hg' e => hne (by rw [hg', e])), h.chg.setCell (p := ⟨g, i, none⟩) (fun h2 => absurd h2 (Nat.not_lt.2 hg)) u, h.new, h.len, h.tlen, h.is⟩
/-- What the row reads as. -/
theorem GV.row {w wr : World} {es : List VC} {ts : List VT} {n c : Nat} {A : Option Addr} (h : GV w wr es ts n A c) : RowIs wr A 0 ts := by
  have hsrc := src_own h.own
  rcases A with _ | ad
  · have h0 := (hsrc.2.1 rfl).1
    have h1 := h.tlen
    rw [h0] at h1
    rw [List.eq_nil_of_length_eq_zero h1]
    exact .nil _ _
  · have key : ∀ (m j : Nat), j + m = n → RowIs wr (some ad) j (ts.drop j) := by
      intro m
      induction m with
      | zero =>
        intro j hj
        rw [List.drop_of_length_le (by rw [h.tlen]; omega)]
        exact .nil _ _
      | succ m ih =>
        intro j hj
        have hjt : j < ts.length := by rw [h.tlen]; omega
        have hje : j < es.length := by rw [h.len]; omega
        rw [List.drop_eq_getElem_cons hjt]
        refine .cons ad j _ _ es[j] (fun i hi => ?_) ((h.is j _ _ (List.getElem?_eq_getElem hjt) (List.getElem?_eq_getElem hje)).now.chg h.chg) (ih (j + 1) (by omega))
        have h1 := vcells_at (List.getElem?_eq_getElem hje) hi
        rw [List.getElem?_eq_getElem (show i < es[j].cells.length from hi)] at h1 ⊢
        exact hsrc.2.2 ad rfl _ _ h1
    have := key n 0 (by omega)
    rwa [List.drop_zero] at this
theorem GV.good {w wr : World} {es : List VC} {ts : List VT} {n c : Nat} {A : Option Addr} (h : GV w wr es ts n A c) (hn : n ≤ maxLen) : (A = none → n = 0 ∧ c = 0) ∧ n ≤ c := by
  rcases h.own.2 with ⟨h1, h0⟩ | ⟨g', cap, cur, h1, hb, hh, h2, h3, _⟩
  · simp only [Value.slice.injEq] at h1
    obtain ⟨rfl, _, rfl⟩ := h1
    exact ⟨fun _ => ⟨h0, rfl⟩, by omega⟩
  · simp only [Value.slice.injEq] at h1
    obtain ⟨rfl, _, rfl⟩ := h1
    exact ⟨fun e => (by cases e), h2⟩
/-- The value that has the row. -/
theorem GV.val {w wr : World} {es : List VC} {ts : List VT} {n c : Nat} {A : Option Addr} (h : GV w wr es ts n A c) (hn : n ≤ maxLen) (k v : Int) (s : ByteArray) (hk : -9223372036854775808 ≤ k ∧ k ≤ 9223372036854775807) (hv : -9223372036854775808 ≤ v ∧ v ≤ 9223372036854775807) (hs : s.size ≤ maxLen) :
    ValIs wr (.mk k v s ts) ⟨k, v, s, A, n, c⟩ :=
  .mk ⟨k, v, s, A, n, c⟩ ts ⟨hk, hv, hs, (h.good hn).1, (h.good hn).2, hn⟩ h.tlen h.row
/-- Values are appended. -/
theorem appV {w wr W : World} {ops : Array Oper} {rest : List Oper} {o : Oper} {a : Act} {Q : Exit → Act → World → Prop} {es new : List VC} {ts tn : List VT} {n c m cx : Nat} {A X : Option Addr} (hgd : o.guard = none) (s x : Operand)
    (ho : o.op = .call { callee := .builtin .append, args := #[s, x], argTypes := #[22, 22] }) (hs : a.eval s = .slice A n c) (hx : a.eval x = .slice X m cx)
    (h : GV w wr es ts n A c) (hc : Chg NoS wr W) (hn : n ≤ 2000000000) (hm : m ≤ 2000000000) (hsrc : Src W 4 X m cx (vcells new)) (hlen : new.length = m) (htl : tn.length = m) (his : ∀ (j : Nat) (t : VT) (e : VC), tn[j]? = some t → new[j]? = some e → KV w t e)
    (k : ∀ A3 c3 w', GV w w' (es ++ new) (ts ++ tn) (n + m) A3 c3 → (∀ (g : Nat) (T : TypeId) (cs : Array Value), Blk W g T cs → (Value.slice A n c).ownBlock ≠ some g → Blk w' g T cs ∧ (Value.slice A3 (n + m) c3).ownBlock ≠ some g) → wpList Try.prog ops Q rest (a.put o.dst (.slice A3 (n + m) c3)) w') :
    wpList Try.prog ops Q (o :: rest) a W := by
  obtain ⟨i0, hi, hz0, hz1, hz2⟩ := info_partsV info_VC
  refine wpList_append_src hgd s x 22 ho 24 i0 _ 4 56 Try.underlying22 hi hz0 hz1 hz2 rfl (by decide) (.slice A n c) n (vcells es) hs (own_chg (S := NoS) h.own hc (fun _ _ e => e)) X m cx (vcells new) hx hsrc (vcells_cell _) (by unfold maxLen; omega) (by omega) ?_
  intro S2 w4 hown4 hgr4 hat4
  obtain ⟨A4, c4, rfl, hA4⟩ := own_slice hown4
  refine k A4 c4 w4 ⟨by rw [vcells_app]; exact hown4, ?_, ?_, by rw [List.length_append, h.len, hlen], by rw [List.length_append, h.tlen, htl], fun j t e ht he => ?_⟩ (fun g T cs hb hne => ⟨hb.grown hgr4 (fun e => hne e.symm), fun e => ?_⟩)
  · refine (h.chg.trans hc (fun _ _ e => e)).grown hgr4 (fun kk e hk => ?_)
    rcases A with _ | b
    · simp [Value.ownBlock] at e
    · have e2 : b.block = kk := by simpa [Value.ownBlock] using e
      have := h.new b rfl
      omega
  · rintro b rfl
    have hsz := h.chg.size
    have hsz2 := hc.size
    rcases hat4 with e | e
    · rcases A with _ | d
      · simp [Value.ownBlock] at e
      · have e2 : b.block = d.block := by simpa [Value.ownBlock] using e
        rw [e2]
        exact h.new d rfl
    · have e2 : b.block = W.heap.size := by simpa [Value.ownBlock] using e
      omega
  · by_cases hj : j < n
    · rw [List.getElem?_append_left (by rw [h.tlen]; exact hj)] at ht
      rw [List.getElem?_append_left (by rw [h.len]; exact hj)] at he
      exact h.is j t e ht he
    · rw [List.getElem?_append_right (by rw [h.tlen]; omega), h.tlen] at ht
      rw [List.getElem?_append_right (by rw [h.len]; omega), h.len] at he
      exact his _ t e ht he
  · rcases hat4 with h2 | h2
    · exact hne (h2.symm.trans e)
    · have h3 := hb.lt
      rw [h2] at e
      cases e
      exact absurd h3 (Nat.lt_irrefl _)
/-- Three values' blocks of the call's own, and a row that grows. -/
structure PS (w W : World) (g gx go : Nat) (cv cx cz : Array Value) (es : List VC) (ts : List VT) (m : Nat) (A : Option Addr) (c : Nat) : Prop where
  bv : PB w W g cv
  bx : PB w W gx cx
  bo : PB w W go cz
  gv : GV w W es ts m A c
  nv : (Value.slice A m c).ownBlock ≠ some g
  nx : (Value.slice A m c).ownBlock ≠ some gx
  no : (Value.slice A m c).ownBlock ≠ some go
theorem PS.app {w W W' : World} {g gx go : Nat} {cv cx cz : Array Value} {es es' : List VC} {ts ts' : List VT} {m m' c c' : Nat} {A A' : Option Addr} (h : PS w W g gx go cv cx cz es ts m A c) (o : Obj) (hg : GV w W' es' ts' m' A' c')
    (hk : ∀ (g : Nat) (T : TypeId) (cs : Array Value), Blk (W.alloc o) g T cs → (Value.slice A m c).ownBlock ≠ some g → Blk W' g T cs ∧ (Value.slice A' m' c').ownBlock ≠ some g) : PS w W' g gx go cv cx cz es' ts' m' A' c' :=
  ⟨((h.bv.alloc o).kept hk h.nv).1, ((h.bx.alloc o).kept hk h.nx).1, ((h.bo.alloc o).kept hk h.no).1, hg, ((h.bv.alloc o).kept hk h.nv).2, ((h.bx.alloc o).kept hk h.nx).2, ((h.bo.alloc o).kept hk h.no).2⟩
theorem PS.call {w W W' : World} {g gx go : Nat} {cv cx cz : Array Value} {es : List VC} {ts : List VT} {m c : Nat} {A : Option Addr} (h : PS w W g gx go cv cx cz es ts m A c) (hc : Chg NoS W W') : PS w W' g gx go cv cx cz es ts m A c :=
  ⟨h.bv.call hc, h.bx.call hc, h.bo.call hc, h.gv.call hc, h.nv, h.nx, h.no⟩
theorem is_one {w : World} {t : VT} {e : VC} (h : KV w t e) : ∀ (j : Nat) (t' : VT) (e' : VC), [t][j]? = some t' → [e][j]? = some e' → KV w t' e' := by
  intro j t' e' h1 h2
  cases j with
  | zero => simp at h1 h2; subst h1 h2; exact h
  | succ j => simp at h1
theorem is_two {w : World} {t u : VT} {e f : VC} (h : KV w t e) (k : KV w u f) : ∀ (j : Nat) (t' : VT) (e' : VC), [t, u][j]? = some t' → [e, f][j]? = some e' → KV w t' e' := by
  intro j t' e' h1 h2
  match j with
  | 0 => simp at h1 h2; subst h1 h2; exact h
  | 1 => simp at h1 h2; subst h1 h2; exact k
  | j + 2 => simp at h1
/-- What Put tells: a row of its own, whose elements stand whatever lies in the caller's box. -/
def PutTo (w : World) (n : Int) (s : ByteArray) (L : List VT) (e : Ending) (w' : World) : Prop := ∃ (es : List VC) (m : Nat) (A : Option Addr) (c : Nat), e = .returned (.agg #[.int .i64 7, .int .i64 n, .string s, .slice A m c]) ∧ GV w w' es L m A c ∧ m ≤ maxLen ∧ (-9223372036854775808 ≤ n ∧ n ≤ 9223372036854775807) ∧ s.size ≤ maxLen ∧ Chg NoS w w'
set_option maxHeartbeats 8000000 in
set_option maxRecDepth 100000 in
theorem kput_none (c cx : VC) (l : List VT) (tx : VT) (key : ByteArray) (w : World) (hv : ValIs w (.mk c.k c.n c.s l) c) (hvx : KV w tx cx) (hkr : KRow w c.A l) (hsz : sizL l ≤ 1000000000) (hkey : key.size ≤ maxLen) (h7 : c.k = 7) (hf : findL key l = none) :
    Calls Try.prog 22 #[c.val, .string key, cx.val] w (PutTo w c.n c.s (putL key tx l)) := by
  obtain ⟨_, _, _, hg, hl, hr⟩ := hv.inv
  have HF := keepf (fun W (h : ValIs W (.mk c.k c.n c.s l) c) => rfind_any c l key W h hsz)
  have HV := keepf hv
  have HVX := keepf hvx
  have HNM := keepf (nm_is w key hkey)
  have HGD := keepf hg
  obtain ⟨k, n, s, A, len, cap⟩ := c
  obtain ⟨xk, xn, xs, xA, xl, xc⟩ := cx
  simp only [] at hl hr hkr
  have hcap := hg.cap
  simp only [] at hcap
  have hl9 : len ≤ 1000000000 := by have := sizL_len l; omega
  have HL := keepf hl
  have HR := keepf (⟨hr, hkr⟩ : RowK w A l)
  unfold VC.val at HF
  simp only [] at HF HV HVX h7 ⊢
  show Calls Try.prog 22 #[.agg #[.int .i64 k, .int .i64 n, .string s, .slice A len cap], .string key, .agg #[.int .i64 xk, .int .i64 xn, .string xs, .slice xA xl xc]] w _
  have HS0 := keepf (⟨⟨((Blk.new w 24 #[.int .i64 k, .int .i64 n, .string s, .slice A len cap]).alloc (.cells #[.int .i64 xk, .int .i64 xn, .string xs, .slice xA xl xc] 24)).alloc (.cells #[.int .i64 0, .int .i64 0, .string ⟨#[]⟩, .slice none 0 0] 24), Nat.le_refl _⟩,
    ⟨(Blk.new (w.alloc (.cells #[.int .i64 k, .int .i64 n, .string s, .slice A len cap] 24)) 24 #[.int .i64 xk, .int .i64 xn, .string xs, .slice xA xl xc]).alloc (.cells #[.int .i64 0, .int .i64 0, .string ⟨#[]⟩, .slice none 0 0] 24), by simp⟩,
    ⟨Blk.new ((w.alloc (.cells #[.int .i64 k, .int .i64 n, .string s, .slice A len cap] 24)).alloc (.cells #[.int .i64 xk, .int .i64 xn, .string xs, .slice xA xl xc] 24)) 24 #[.int .i64 0, .int .i64 0, .string ⟨#[]⟩, .slice none 0 0], by simp; omega⟩, GV.start (((Chg.refl NoS w).alloc _).alloc _ |>.alloc _), fun e => (by cases e), fun e => (by cases e), fun e => (by cases e)⟩ : PS w _ w.heap.size _ _ _ _ _ [] [] 0 none 0)
  have hs1 : (w.alloc (.cells #[.int .i64 k, .int .i64 n, .string s, .slice A len cap] 24)).heap.size = w.heap.size + 1 := by simp
  have hs2 : ((w.alloc (.cells #[.int .i64 k, .int .i64 n, .string s, .slice A len cap] 24)).alloc (.cells #[.int .i64 xk, .int .i64 xn, .string xs, .slice xA xl xc] 24)).heap.size = w.heap.size + 1 + 1 := by simp
  rw [hs1, hs2] at HS0
  obtain ⟨W0, hW⟩ : ∃ W, W = ((w.alloc (.cells #[.int .i64 k, .int .i64 n, .string s, .slice A len cap] 24)).alloc (.cells #[.int .i64 xk, .int .i64 xn, .string xs, .slice xA xl xc] 24)).alloc (.cells #[.int .i64 0, .int .i64 0, .string ⟨#[]⟩, .slice none 0 0] 24) := ⟨_, rfl⟩
  rw [← hW] at HS0
  obtain ⟨g, hg1⟩ : ∃ g, g = w.heap.size := ⟨_, rfl⟩
  obtain ⟨gx, hg2⟩ : ∃ g, g = w.heap.size + 1 := ⟨_, rfl⟩
  obtain ⟨go, hg3⟩ : ∃ g, g = w.heap.size + 1 + 1 := ⟨_, rfl⟩
  rw [← hg3, ← hg2, ← hg1] at HS0
  have HNE : Hid (g ≠ go ∧ g ≠ gx ∧ gx ≠ go) := ⟨by omega, by omega, by omega⟩
  subst h7
  have HFI := keepf (show findI 7 l key = (match findL key l with | some j => ((2 * j : Nat) : Int) | none => -1) from if_pos rfl)
  rw [hf] at HFI
  simp only [] at HFI
  rw [HFI.out] at HF
  have HE := keepf (put_7 (n := n) (s := s) (key := key) (x := tx) (l := l))
  have hpl := putL_len key tx l
  rw [hl] at hpl
  have HPL := keepf hpl
  obtain ⟨L, hL⟩ : ∃ L, L = putL key tx l := ⟨_, rfl⟩
  rw [← hL] at HE HPL
  have HLL := keepf hL
  have HLN := keepf (show L = insL key tx l from by rw [HLL.out]; unfold putL; rw [hf])
  clear hv hvx hg hr hkr hsz hkey hpl hL hl hf
  go_enter Try.func22, Try.ntmps22
  go_upto_region 1 with fail
  rw [← hW, ← hg3, ← hg2, ← hg1]
  clear hW hg1 hg2 hg3 hs1 hs2
  have p0 := HS0.out.bv.blk.cell 0
  have p1 := HS0.out.bv.blk.cell 1
  have p2 := HS0.out.bv.blk.cell 2
  have p3 := HS0.out.bv.blk.cell 3
  simp at p0 p1 p2 p3
  go_upto_region 7 with (go_at_call 42; refine (HF.out _ (HV.out.chg HS0.out.gv.chg)).mono ?_; rintro e w2 ⟨rfl, hc2⟩; have HS2 := keepf (HS0.out.call hc2); clear hc2)
  clear p0 p1 p2 p3 HS0 HF
  have mm : (-1 : Int) < 0 := by decide
  go_loopw [7, 9, 10] (fun vo vd vk wr => ∃ (k m c2 : Nat) (done : Bool) (A2 : Option Addr) (es : List VC) (ts : List VT), k ≤ len + 1 ∧ m ≤ k + 2 ∧ vo = .slice A2 m c2 ∧ vd = .bool done ∧ vk = .int .i64 (k : Nat) ∧ Hid (PS w wr g gx go #[.int .i64 7, .int .i64 n, .string s, .slice A len cap] #[.int .i64 xk, .int .i64 xn, .string xs, .slice xA xl xc] #[.int .i64 0, .int .i64 0, .string ⟨#[]⟩, .slice none 0 0] es ts m A2 c2 ∧ L = ts ++ leftL key tx done (l.drop k) ∧ (done = false → m ≤ k) ∧ (len ≤ k → k = len ∨ k = len + 1))) (fun _ _ vk _ => len + 1 - (intOf vk).toNat)
  case atStart => exact ⟨0, 0, 0, false, none, [], [], by omega, by omega, rfl, rfl, by go_num, keepf ⟨HS2.out, by rw [HLN.out]; rfl, fun _ => Nat.le_refl _, fun h => .inl (by omega)⟩⟩
  case round =>
    obtain ⟨k, m, c2, done, A2, es, ts, hk, hm, rfl, rfl, rfl, HI⟩ := hrel
    have p0 := HI.out.1.bv.blk.cell 0
    have x0 := HI.out.1.bx.blk.cell 0
    have p1 := HI.out.1.bv.blk.cell 1
    have x1 := HI.out.1.bx.blk.cell 1
    have p2 := HI.out.1.bv.blk.cell 2
    have x2 := HI.out.1.bx.blk.cell 2
    have p3 := HI.out.1.bv.blk.cell 3
    have x3 := HI.out.1.bx.blk.cell 3
    simp at p0 p1 p2 p3 x0 x1 x2 x3
    by_cases h1 : k < len
    · obtain ⟨t, ht, hd⟩ := drop_vt (l := l) (k := k) (by rw [HL.out]; exact h1)
      obtain ⟨b, off, rfl⟩ : ∃ b off, A = some ⟨b, off, none⟩ := by
        have h := HR.out
        cases hll : l with
        | nil => rw [hll] at ht; simp at ht
        | cons t0 l0 => rw [hll] at h; exact h.start
      obtain ⟨eA, el, ec, hve, hce⟩ := el_at HR.out ht
      obtain ⟨c0, c1, c2, c3⟩ := hce _ HI.out.1.gv.chg
      have HCE := keepf hce
      have HVE := keepf hve
      have i1 : (k : Int) < len := by omega
      obtain ⟨tk, htk⟩ : ∃ tk, t.kind = tk := ⟨_, rfl⟩
      obtain ⟨tn, htn⟩ : ∃ tn, t.num = tn := ⟨_, rfl⟩
      obtain ⟨tss, hts⟩ : ∃ ts, t.str = ts := ⟨_, rfl⟩
      rw [htk] at c0 HCE HVE
      rw [htn] at c1 HCE HVE
      rw [hts] at c2 HCE HVE
      have HD := keepf hd
      have HT := keepf ht
      clear hve hce
      have hkw : IntKind.i64.wrap ((k : Int) + 2) = (k : Int) + 2 := by rw [IntKind.wrap_i64]; omega
      have hneg : ((k : Int) == -1) = false := by first | (simp; done) | (simp; omega)
      cases done
      · by_cases h5 : tk = 5
        · subst h5
          by_cases hgt : Op.bytesLess key.toList tss.toList = true
          · have HGT := keepf (show gtT key t from ⟨htk, by rw [hts]; exact hgt⟩)
            have f1 : (Op.bytesLess tss.toList key.toList || tss.toList == key.toList) = false := by rw [less_leq, hgt]; rfl
            clear htk htn hts hd ht hgt
            by_cases hmore : k + 1 < len
            · obtain ⟨u, hu⟩ : ∃ u, u = k + 1 := ⟨_, rfl⟩
              have hul : u < len := by omega
              have HU := keepf hu
              have e1 : (k : Int) + 1 = (u : Int) := by omega
              have k1 : IntKind.i64.wrap (u : Int) = (u : Int) := by rw [IntKind.wrap_i64]; omega
              have i2 : (u : Int) < len := by omega
              obtain ⟨t2, ht2, hd2⟩ := drop_vt (l := l) (k := u) (by rw [HL.out]; exact hul)
              obtain ⟨fA, fl, fc, hvf, hcf⟩ := el_at HR.out ht2
              obtain ⟨uk, huk⟩ : ∃ tk, t2.kind = tk := ⟨_, rfl⟩
              obtain ⟨un, hun⟩ : ∃ tn, t2.num = tn := ⟨_, rfl⟩
              obtain ⟨us, hus⟩ : ∃ ts, t2.str = ts := ⟨_, rfl⟩
              rw [huk, hun, hus] at hvf
              rw [huk, hun, hus] at hcf
              have HCF := keepf hcf
              have HVF := keepf hvf
              have HD2 := keepf hd2
              have HT2 := keepf ht2
              clear hvf hcf hd2 ht2 hu huk hun hus
              have HP0 := keepf HI.out.1
              go_wp2_with first
                | (at_builtin; refine appV (w := w) (new := [⟨5, 0, key, none, 0, 0⟩, ⟨xk, xn, xs, xA, xl, xc⟩]) (tn := [nmT key, tx]) rfl (.tmp 50) (.tmp 54) rfl rfl rfl HP0.out.gv ((Chg.refl _ _).alloc _) (by first | omega | (simp only [List.length_cons, List.length_nil]; omega)) (by first | omega | (simp only [List.length_cons, List.length_nil]; omega)) (src_new _ _ [⟨5, 0, key, none, 0, 0⟩, ⟨xk, xn, xs, xA, xl, xc⟩] _ rfl _ _ rfl) rfl rfl (is_two HNM.out HVX.out) ?_; intro A1 cc1 w1 hg1 hk1; have HP1 := keepf (HP0.out.app _ hg1 hk1); clear hg1 hk1; have p3 := HP1.out.bv.blk.cell 3; simp at p3; obtain ⟨c0, c1, c2, c3⟩ := HCE.out _ HP1.out.gv.chg)
                | (at_builtin; refine appV (w := w) (new := [⟨5, tn, tss, eA, el, ec⟩]) (tn := [t]) rfl (.tmp 56) (.tmp 62) rfl rfl rfl HP1.out.gv ((Chg.refl _ _).alloc _) (by first | omega | (simp only [List.length_cons, List.length_nil]; omega)) (by first | omega | (simp only [List.length_cons, List.length_nil]; omega)) (src_new _ _ [⟨5, tn, tss, eA, el, ec⟩] _ rfl _ _ rfl) rfl rfl (is_one HVE.out) ?_; intro A2 cc2 w2 hg2 hk2; have HP2 := keepf (HP1.out.app _ hg2 hk2); clear hg2 hk2; have p3 := HP2.out.bv.blk.cell 3; have x0 := HP2.out.bx.blk.cell 0; have x1 := HP2.out.bx.blk.cell 1; have x2 := HP2.out.bx.blk.cell 2; have x3 := HP2.out.bx.blk.cell 3; simp at p3 x0 x1 x2 x3; obtain ⟨f0, f1, f2, f3⟩ := HCF.out _ HP2.out.gv.chg)
                | (at_builtin; refine appV (w := w) (new := [⟨uk, un, us, fA, fl, fc⟩]) (tn := [t2]) rfl (.tmp 77) (.tmp 84) rfl rfl rfl HP2.out.gv ((Chg.refl _ _).alloc _) (by first | omega | (simp only [List.length_cons, List.length_nil]; omega)) (by first | omega | (simp only [List.length_cons, List.length_nil]; omega)) (src_new _ _ [⟨uk, un, us, fA, fl, fc⟩] _ rfl _ _ rfl) rfl rfl (is_one HVF.out) ?_; intro A3 cc3 w3 hg3 hk3; have HP3 := keepf (HP2.out.app _ hg3 hk3); clear hg3 hk3)
              go_roundw
              case rel => exact ⟨k + 2, (((m + 2) + 1) + 1), cc3, true, A3, _, (((ts ++ [nmT key, tx]) ++ [t]) ++ [t2]), by omega, by have := HI.out.2.2.1; have h8 := this rfl; omega, rfl, rfl, by go_num, keepf ⟨HP3.out, by rw [HI.out.2.1, HD.out, left_gt HGT.out, left_done]; rw [← HU.out, HD2.out, HU.out]; simp, fun h => by (cases h), fun _ => by omega⟩⟩
              case measure => simp [intOf]; omega
            · have hul : k + 1 = len := by omega
              have HZ1 := keepf (show l.drop (k + 1) = [] from List.drop_of_length_le (by rw [HL.out]; omega))
              have HZ2 := keepf (show l.drop (k + 2) = [] from List.drop_of_length_le (by rw [HL.out]; omega))
              have e1 : ¬ (k : Int) + 1 < len := by omega
              have d3 : decide ((k : Int) + 1 < len) = false := by simp; omega
              have k1 : IntKind.i64.wrap ((k : Int) + 1) = (k : Int) + 1 := by rw [IntKind.wrap_i64]; omega
              have HP0 := keepf HI.out.1
              go_wp2_with first
                | (at_builtin; refine appV (w := w) (new := [⟨5, 0, key, none, 0, 0⟩, ⟨xk, xn, xs, xA, xl, xc⟩]) (tn := [nmT key, tx]) rfl (.tmp 50) (.tmp 54) rfl rfl rfl HP0.out.gv ((Chg.refl _ _).alloc _) (by first | omega | (simp only [List.length_cons, List.length_nil]; omega)) (by first | omega | (simp only [List.length_cons, List.length_nil]; omega)) (src_new _ _ [⟨5, 0, key, none, 0, 0⟩, ⟨xk, xn, xs, xA, xl, xc⟩] _ rfl _ _ rfl) rfl rfl (is_two HNM.out HVX.out) ?_; intro A1 cc1 w1 hg1 hk1; have HP1 := keepf (HP0.out.app _ hg1 hk1); clear hg1 hk1; have p3 := HP1.out.bv.blk.cell 3; simp at p3; obtain ⟨c0, c1, c2, c3⟩ := HCE.out _ HP1.out.gv.chg)
                | (at_builtin; refine appV (w := w) (new := [⟨5, tn, tss, eA, el, ec⟩]) (tn := [t]) rfl (.tmp 56) (.tmp 62) rfl rfl rfl HP1.out.gv ((Chg.refl _ _).alloc _) (by first | omega | (simp only [List.length_cons, List.length_nil]; omega)) (by first | omega | (simp only [List.length_cons, List.length_nil]; omega)) (src_new _ _ [⟨5, tn, tss, eA, el, ec⟩] _ rfl _ _ rfl) rfl rfl (is_one HVE.out) ?_; intro A2 cc2 w2 hg2 hk2; have HP2 := keepf (HP1.out.app _ hg2 hk2); clear hg2 hk2; have p3 := HP2.out.bv.blk.cell 3; have x0 := HP2.out.bx.blk.cell 0; have x1 := HP2.out.bx.blk.cell 1; have x2 := HP2.out.bx.blk.cell 2; have x3 := HP2.out.bx.blk.cell 3; simp at p3 x0 x1 x2 x3)
              go_roundw
              case rel => exact ⟨k + 2, ((m + 2) + 1), cc2, true, A2, _, ((ts ++ [nmT key, tx]) ++ [t]), by omega, by have := HI.out.2.2.1; have h8 := this rfl; omega, rfl, rfl, by go_num, keepf ⟨HP2.out, by rw [HI.out.2.1, HD.out, left_gt HGT.out, left_done]; rw [HZ1.out, HZ2.out]; simp, fun h => by (cases h), fun _ => by omega⟩⟩
              case measure => simp [intOf]; omega
          · have HGT := keepf (show ¬ gtT key t from fun h => hgt (by rw [← hts]; exact h.2))
            have hgf : Op.bytesLess key.toList tss.toList = false := by simpa using hgt
            have f1 : (Op.bytesLess tss.toList key.toList || tss.toList == key.toList) = true := by rw [less_leq, hgf]; rfl
            clear hgf htk htn hts hd ht hgt
            by_cases hmore : k + 1 < len
            · obtain ⟨u, hu⟩ : ∃ u, u = k + 1 := ⟨_, rfl⟩
              have hul : u < len := by omega
              have HU := keepf hu
              have e1 : (k : Int) + 1 = (u : Int) := by omega
              have k1 : IntKind.i64.wrap (u : Int) = (u : Int) := by rw [IntKind.wrap_i64]; omega
              have i2 : (u : Int) < len := by omega
              obtain ⟨t2, ht2, hd2⟩ := drop_vt (l := l) (k := u) (by rw [HL.out]; exact hul)
              obtain ⟨fA, fl, fc, hvf, hcf⟩ := el_at HR.out ht2
              obtain ⟨uk, huk⟩ : ∃ tk, t2.kind = tk := ⟨_, rfl⟩
              obtain ⟨un, hun⟩ : ∃ tn, t2.num = tn := ⟨_, rfl⟩
              obtain ⟨us, hus⟩ : ∃ ts, t2.str = ts := ⟨_, rfl⟩
              rw [huk, hun, hus] at hvf
              rw [huk, hun, hus] at hcf
              have HCF := keepf hcf
              have HVF := keepf hvf
              have HD2 := keepf hd2
              have HT2 := keepf ht2
              clear hvf hcf hd2 ht2 hu huk hun hus
              have HP0 := keepf HI.out.1
              go_wp2_with first
                | (at_builtin; refine appV (w := w) (new := [⟨5, tn, tss, eA, el, ec⟩]) (tn := [t]) rfl (.tmp 56) (.tmp 62) rfl rfl rfl HP0.out.gv ((Chg.refl _ _).alloc _) (by first | omega | (simp only [List.length_cons, List.length_nil]; omega)) (by first | omega | (simp only [List.length_cons, List.length_nil]; omega)) (src_new _ _ [⟨5, tn, tss, eA, el, ec⟩] _ rfl _ _ rfl) rfl rfl (is_one HVE.out) ?_; intro A2 cc2 w2 hg2 hk2; have HP2 := keepf (HP0.out.app _ hg2 hk2); clear hg2 hk2; have p3 := HP2.out.bv.blk.cell 3; have x0 := HP2.out.bx.blk.cell 0; have x1 := HP2.out.bx.blk.cell 1; have x2 := HP2.out.bx.blk.cell 2; have x3 := HP2.out.bx.blk.cell 3; simp at p3 x0 x1 x2 x3; obtain ⟨f0, f1, f2, f3⟩ := HCF.out _ HP2.out.gv.chg)
                | (at_builtin; refine appV (w := w) (new := [⟨uk, un, us, fA, fl, fc⟩]) (tn := [t2]) rfl (.tmp 77) (.tmp 84) rfl rfl rfl HP2.out.gv ((Chg.refl _ _).alloc _) (by first | omega | (simp only [List.length_cons, List.length_nil]; omega)) (by first | omega | (simp only [List.length_cons, List.length_nil]; omega)) (src_new _ _ [⟨uk, un, us, fA, fl, fc⟩] _ rfl _ _ rfl) rfl rfl (is_one HVF.out) ?_; intro A3 cc3 w3 hg3 hk3; have HP3 := keepf (HP2.out.app _ hg3 hk3); clear hg3 hk3)
              go_roundw
              case rel => exact ⟨k + 2, ((m + 1) + 1), cc3, false, A3, _, ((ts ++ [t]) ++ [t2]), by omega, by have := HI.out.2.2.1; omega, rfl, rfl, by go_num, keepf ⟨HP3.out, by rw [HI.out.2.1, HD.out, left_le HGT.out]; rw [← HU.out, HD2.out, HU.out]; simp, fun h => by (have := HI.out.2.2.1 rfl; omega), fun _ => by omega⟩⟩
              case measure => simp [intOf]; omega
            · have hul : k + 1 = len := by omega
              have HZ1 := keepf (show l.drop (k + 1) = [] from List.drop_of_length_le (by rw [HL.out]; omega))
              have HZ2 := keepf (show l.drop (k + 2) = [] from List.drop_of_length_le (by rw [HL.out]; omega))
              have e1 : ¬ (k : Int) + 1 < len := by omega
              have d3 : decide ((k : Int) + 1 < len) = false := by simp; omega
              have k1 : IntKind.i64.wrap ((k : Int) + 1) = (k : Int) + 1 := by rw [IntKind.wrap_i64]; omega
              have HP0 := keepf HI.out.1
              go_wp2_with first
                | (at_builtin; refine appV (w := w) (new := [⟨5, tn, tss, eA, el, ec⟩]) (tn := [t]) rfl (.tmp 56) (.tmp 62) rfl rfl rfl HP0.out.gv ((Chg.refl _ _).alloc _) (by first | omega | (simp only [List.length_cons, List.length_nil]; omega)) (by first | omega | (simp only [List.length_cons, List.length_nil]; omega)) (src_new _ _ [⟨5, tn, tss, eA, el, ec⟩] _ rfl _ _ rfl) rfl rfl (is_one HVE.out) ?_; intro A2 cc2 w2 hg2 hk2; have HP2 := keepf (HP0.out.app _ hg2 hk2); clear hg2 hk2; have p3 := HP2.out.bv.blk.cell 3; have x0 := HP2.out.bx.blk.cell 0; have x1 := HP2.out.bx.blk.cell 1; have x2 := HP2.out.bx.blk.cell 2; have x3 := HP2.out.bx.blk.cell 3; simp at p3 x0 x1 x2 x3)
              go_roundw
              case rel => exact ⟨k + 2, (m + 1), cc2, false, A2, _, (ts ++ [t]), by omega, by have := HI.out.2.2.1; omega, rfl, rfl, by go_num, keepf ⟨HP2.out, by rw [HI.out.2.1, HD.out, left_le HGT.out]; rw [HZ1.out, HZ2.out]; simp, fun h => by (have := HI.out.2.2.1 rfl; omega), fun _ => by omega⟩⟩
              case measure => simp [intOf]; omega
        · have HGT := keepf (show ¬ gtT key t from fun h => h5 (by rw [← htk]; exact h.1))
          have f5 : (tk == 5) = false := by simpa using h5
          clear htk htn hts hd ht h5
          by_cases hmore : k + 1 < len
          · obtain ⟨u, hu⟩ : ∃ u, u = k + 1 := ⟨_, rfl⟩
            have hul : u < len := by omega
            have HU := keepf hu
            have e1 : (k : Int) + 1 = (u : Int) := by omega
            have k1 : IntKind.i64.wrap (u : Int) = (u : Int) := by rw [IntKind.wrap_i64]; omega
            have i2 : (u : Int) < len := by omega
            obtain ⟨t2, ht2, hd2⟩ := drop_vt (l := l) (k := u) (by rw [HL.out]; exact hul)
            obtain ⟨fA, fl, fc, hvf, hcf⟩ := el_at HR.out ht2
            obtain ⟨uk, huk⟩ : ∃ tk, t2.kind = tk := ⟨_, rfl⟩
            obtain ⟨un, hun⟩ : ∃ tn, t2.num = tn := ⟨_, rfl⟩
            obtain ⟨us, hus⟩ : ∃ ts, t2.str = ts := ⟨_, rfl⟩
            rw [huk, hun, hus] at hvf
            rw [huk, hun, hus] at hcf
            have HCF := keepf hcf
            have HVF := keepf hvf
            have HD2 := keepf hd2
            have HT2 := keepf ht2
            clear hvf hcf hd2 ht2 hu huk hun hus
            have HP0 := keepf HI.out.1
            go_wp2_with first
              | (at_builtin; refine appV (w := w) (new := [⟨tk, tn, tss, eA, el, ec⟩]) (tn := [t]) rfl (.tmp 56) (.tmp 62) rfl rfl rfl HP0.out.gv ((Chg.refl _ _).alloc _) (by first | omega | (simp only [List.length_cons, List.length_nil]; omega)) (by first | omega | (simp only [List.length_cons, List.length_nil]; omega)) (src_new _ _ [⟨tk, tn, tss, eA, el, ec⟩] _ rfl _ _ rfl) rfl rfl (is_one HVE.out) ?_; intro A2 cc2 w2 hg2 hk2; have HP2 := keepf (HP0.out.app _ hg2 hk2); clear hg2 hk2; have p3 := HP2.out.bv.blk.cell 3; have x0 := HP2.out.bx.blk.cell 0; have x1 := HP2.out.bx.blk.cell 1; have x2 := HP2.out.bx.blk.cell 2; have x3 := HP2.out.bx.blk.cell 3; simp at p3 x0 x1 x2 x3; obtain ⟨f0, f1, f2, f3⟩ := HCF.out _ HP2.out.gv.chg)
              | (at_builtin; refine appV (w := w) (new := [⟨uk, un, us, fA, fl, fc⟩]) (tn := [t2]) rfl (.tmp 77) (.tmp 84) rfl rfl rfl HP2.out.gv ((Chg.refl _ _).alloc _) (by first | omega | (simp only [List.length_cons, List.length_nil]; omega)) (by first | omega | (simp only [List.length_cons, List.length_nil]; omega)) (src_new _ _ [⟨uk, un, us, fA, fl, fc⟩] _ rfl _ _ rfl) rfl rfl (is_one HVF.out) ?_; intro A3 cc3 w3 hg3 hk3; have HP3 := keepf (HP2.out.app _ hg3 hk3); clear hg3 hk3)
            go_roundw
            case rel => exact ⟨k + 2, ((m + 1) + 1), cc3, false, A3, _, ((ts ++ [t]) ++ [t2]), by omega, by have := HI.out.2.2.1; omega, rfl, rfl, by go_num, keepf ⟨HP3.out, by rw [HI.out.2.1, HD.out, left_le HGT.out]; rw [← HU.out, HD2.out, HU.out]; simp, fun h => by (have := HI.out.2.2.1 rfl; omega), fun _ => by omega⟩⟩
            case measure => simp [intOf]; omega
          · have hul : k + 1 = len := by omega
            have HZ1 := keepf (show l.drop (k + 1) = [] from List.drop_of_length_le (by rw [HL.out]; omega))
            have HZ2 := keepf (show l.drop (k + 2) = [] from List.drop_of_length_le (by rw [HL.out]; omega))
            have e1 : ¬ (k : Int) + 1 < len := by omega
            have d3 : decide ((k : Int) + 1 < len) = false := by simp; omega
            have k1 : IntKind.i64.wrap ((k : Int) + 1) = (k : Int) + 1 := by rw [IntKind.wrap_i64]; omega
            have HP0 := keepf HI.out.1
            go_wp2_with first
              | (at_builtin; refine appV (w := w) (new := [⟨tk, tn, tss, eA, el, ec⟩]) (tn := [t]) rfl (.tmp 56) (.tmp 62) rfl rfl rfl HP0.out.gv ((Chg.refl _ _).alloc _) (by first | omega | (simp only [List.length_cons, List.length_nil]; omega)) (by first | omega | (simp only [List.length_cons, List.length_nil]; omega)) (src_new _ _ [⟨tk, tn, tss, eA, el, ec⟩] _ rfl _ _ rfl) rfl rfl (is_one HVE.out) ?_; intro A2 cc2 w2 hg2 hk2; have HP2 := keepf (HP0.out.app _ hg2 hk2); clear hg2 hk2; have p3 := HP2.out.bv.blk.cell 3; have x0 := HP2.out.bx.blk.cell 0; have x1 := HP2.out.bx.blk.cell 1; have x2 := HP2.out.bx.blk.cell 2; have x3 := HP2.out.bx.blk.cell 3; simp at p3 x0 x1 x2 x3)
            go_roundw
            case rel => exact ⟨k + 2, (m + 1), cc2, false, A2, _, (ts ++ [t]), by omega, by have := HI.out.2.2.1; omega, rfl, rfl, by go_num, keepf ⟨HP2.out, by rw [HI.out.2.1, HD.out, left_le HGT.out]; rw [HZ1.out, HZ2.out]; simp, fun h => by (have := HI.out.2.2.1 rfl; omega), fun _ => by omega⟩⟩
            case measure => simp [intOf]; omega
      · clear htk htn hts hd ht
        by_cases hmore : k + 1 < len
        · obtain ⟨u, hu⟩ : ∃ u, u = k + 1 := ⟨_, rfl⟩
          have hul : u < len := by omega
          have HU := keepf hu
          have e1 : (k : Int) + 1 = (u : Int) := by omega
          have k1 : IntKind.i64.wrap (u : Int) = (u : Int) := by rw [IntKind.wrap_i64]; omega
          have i2 : (u : Int) < len := by omega
          obtain ⟨t2, ht2, hd2⟩ := drop_vt (l := l) (k := u) (by rw [HL.out]; exact hul)
          obtain ⟨fA, fl, fc, hvf, hcf⟩ := el_at HR.out ht2
          obtain ⟨uk, huk⟩ : ∃ tk, t2.kind = tk := ⟨_, rfl⟩
          obtain ⟨un, hun⟩ : ∃ tn, t2.num = tn := ⟨_, rfl⟩
          obtain ⟨us, hus⟩ : ∃ ts, t2.str = ts := ⟨_, rfl⟩
          rw [huk, hun, hus] at hvf
          rw [huk, hun, hus] at hcf
          have HCF := keepf hcf
          have HVF := keepf hvf
          have HD2 := keepf hd2
          have HT2 := keepf ht2
          clear hvf hcf hd2 ht2 hu huk hun hus
          have HP0 := keepf HI.out.1
          go_wp2_with first
            | (at_builtin; refine appV (w := w) (new := [⟨tk, tn, tss, eA, el, ec⟩]) (tn := [t]) rfl (.tmp 56) (.tmp 62) rfl rfl rfl HP0.out.gv ((Chg.refl _ _).alloc _) (by first | omega | (simp only [List.length_cons, List.length_nil]; omega)) (by first | omega | (simp only [List.length_cons, List.length_nil]; omega)) (src_new _ _ [⟨tk, tn, tss, eA, el, ec⟩] _ rfl _ _ rfl) rfl rfl (is_one HVE.out) ?_; intro A2 cc2 w2 hg2 hk2; have HP2 := keepf (HP0.out.app _ hg2 hk2); clear hg2 hk2; have p3 := HP2.out.bv.blk.cell 3; have x0 := HP2.out.bx.blk.cell 0; have x1 := HP2.out.bx.blk.cell 1; have x2 := HP2.out.bx.blk.cell 2; have x3 := HP2.out.bx.blk.cell 3; simp at p3 x0 x1 x2 x3; obtain ⟨f0, f1, f2, f3⟩ := HCF.out _ HP2.out.gv.chg)
            | (at_builtin; refine appV (w := w) (new := [⟨uk, un, us, fA, fl, fc⟩]) (tn := [t2]) rfl (.tmp 77) (.tmp 84) rfl rfl rfl HP2.out.gv ((Chg.refl _ _).alloc _) (by first | omega | (simp only [List.length_cons, List.length_nil]; omega)) (by first | omega | (simp only [List.length_cons, List.length_nil]; omega)) (src_new _ _ [⟨uk, un, us, fA, fl, fc⟩] _ rfl _ _ rfl) rfl rfl (is_one HVF.out) ?_; intro A3 cc3 w3 hg3 hk3; have HP3 := keepf (HP2.out.app _ hg3 hk3); clear hg3 hk3)
          go_roundw
          case rel => exact ⟨k + 2, ((m + 1) + 1), cc3, true, A3, _, ((ts ++ [t]) ++ [t2]), by omega, by have := HI.out.2.2.1; omega, rfl, rfl, by go_num, keepf ⟨HP3.out, by rw [HI.out.2.1, HD.out, left_done]; rw [← HU.out, HD2.out, HU.out]; simp, fun h => by (cases h), fun _ => by omega⟩⟩
          case measure => simp [intOf]; omega
        · have hul : k + 1 = len := by omega
          have HZ1 := keepf (show l.drop (k + 1) = [] from List.drop_of_length_le (by rw [HL.out]; omega))
          have HZ2 := keepf (show l.drop (k + 2) = [] from List.drop_of_length_le (by rw [HL.out]; omega))
          have e1 : ¬ (k : Int) + 1 < len := by omega
          have d3 : decide ((k : Int) + 1 < len) = false := by simp; omega
          have k1 : IntKind.i64.wrap ((k : Int) + 1) = (k : Int) + 1 := by rw [IntKind.wrap_i64]; omega
          have HP0 := keepf HI.out.1
          go_wp2_with first
            | (at_builtin; refine appV (w := w) (new := [⟨tk, tn, tss, eA, el, ec⟩]) (tn := [t]) rfl (.tmp 56) (.tmp 62) rfl rfl rfl HP0.out.gv ((Chg.refl _ _).alloc _) (by first | omega | (simp only [List.length_cons, List.length_nil]; omega)) (by first | omega | (simp only [List.length_cons, List.length_nil]; omega)) (src_new _ _ [⟨tk, tn, tss, eA, el, ec⟩] _ rfl _ _ rfl) rfl rfl (is_one HVE.out) ?_; intro A2 cc2 w2 hg2 hk2; have HP2 := keepf (HP0.out.app _ hg2 hk2); clear hg2 hk2; have p3 := HP2.out.bv.blk.cell 3; have x0 := HP2.out.bx.blk.cell 0; have x1 := HP2.out.bx.blk.cell 1; have x2 := HP2.out.bx.blk.cell 2; have x3 := HP2.out.bx.blk.cell 3; simp at p3 x0 x1 x2 x3)
          go_roundw
          case rel => exact ⟨k + 2, (m + 1), cc2, true, A2, _, (ts ++ [t]), by omega, by have := HI.out.2.2.1; omega, rfl, rfl, by go_num, keepf ⟨HP2.out, by rw [HI.out.2.1, HD.out, left_done]; rw [HZ1.out, HZ2.out]; simp, fun h => by (cases h), fun _ => by omega⟩⟩
          case measure => simp [intOf]; omega
    · obtain hkk : k = len ∨ k = len + 1 := HI.out.2.2.2 (by omega)
      have i1 : ¬ (k : Int) < len := by omega
      have HDZ := keepf (show l.drop k = [] from List.drop_of_length_le (by rw [HL.out]; omega))
      clear hkk h1
      cases done
      · have HFIN := keepf (show L = ts ++ [nmT key, tx] from by rw [HI.out.2.1, HDZ.out]; rfl)
        have hm9 := HI.out.2.2.1 rfl
        have HP0 := keepf HI.out.1
        go_upto_region 19 with (at_builtin; refine appV (w := w) (new := [⟨5, 0, key, none, 0, 0⟩, ⟨xk, xn, xs, xA, xl, xc⟩]) (tn := [nmT key, tx]) rfl (.tmp 92) (.tmp 96) rfl rfl rfl HP0.out.gv ((Chg.refl _ _).alloc _) (by first | omega | (simp only [List.length_cons, List.length_nil]; omega)) (by first | omega | (simp only [List.length_cons, List.length_nil]; omega)) (src_new _ _ [⟨5, 0, key, none, 0, 0⟩, ⟨xk, xn, xs, xA, xl, xc⟩] _ rfl _ _ rfl) rfl rfl (is_two HNM.out HVX.out) ?_; intro AF ccF wF hgF hkF; have HPF := keepf (HP0.out.app _ hgF hkF); clear hgF hkF; have p3 := HPF.out.bv.blk.cell 3; simp at p3)
        have gz3 := HPF.out.bv.blk.frozen 3
        have q0 := HPF.out.bv.blk.cell 0
        have q1 := HPF.out.bv.blk.cell 1
        have q2 := HPF.out.bv.blk.cell 2
        have q3 := HPF.out.bv.blk.cell 3
        simp at q0 q1 q2 q3
        go_upto_region 20 with fail
        clear q0 q1 q2 q3 gz3
        have HB9 : Hid (PB w (wF.setCell ⟨g, 3, none⟩ (.slice AF (m + 2) ccF)) g #[.int .i64 7, .int .i64 n, .string s, .slice AF (m + 2) ccF]) := HPF.out.bv.set 3 _
        have HO9 := keepf (HPF.out.bo.far (Ne.symm HNE.out.1) 3 (.slice AF (m + 2) ccF))
        have HG9 := keepf (HPF.out.gv.far HPF.out.nv HPF.out.bv.new 3 (.slice AF (m + 2) ccF))
        have HC9 := keepf HG9.out.chg
        have HN9 := keepf HPF.out.no
        obtain ⟨w9, hw9⟩ : ∃ W, W = wF.setCell ⟨g, 3, none⟩ (.slice AF (m + 2) ccF) := ⟨_, rfl⟩
        rw [← hw9] at HB9 HO9 HG9 HC9 ⊢
        clear hw9
        have q0 := HB9.out.blk.cell 0
        have q1 := HB9.out.blk.cell 1
        have q2 := HB9.out.blk.cell 2
        have q3 := HB9.out.blk.cell 3
        have z0 := HO9.out.blk.frozen 0
        have z1 := HO9.out.blk.frozen 1
        have z2 := HO9.out.blk.frozen 2
        have z3 := HO9.out.blk.frozen 3
        have y0 := HO9.out.blk.cell 0
        have y1 := HO9.out.blk.cell 1
        have y2 := HO9.out.blk.cell 2
        have y3 := HO9.out.blk.cell 3
        simp at q0 q1 q2 q3 y0 y1 y2 y3
        go_wp2_with fail
        try simp only [Exit.noGoto_ret]
        clear y0 y1 y2 y3
        obtain ⟨hb, hcc⟩ := HO9.out.set4 (a := .int .i64 7) (b := .int .i64 n) (c := .string s) (d := .slice AF (m + 2) ccF) HC9.out rfl
        have hgv := (((HG9.out.far HN9.out HO9.out.new 0 (.int .i64 7)).far HN9.out HO9.out.new 1 (.int .i64 n)).far HN9.out HO9.out.new 2 (.string s)).far HN9.out HO9.out.new 3 (.slice AF (m + 2) ccF)
        have r0 := hb.blk.cell 0
        have r1 := hb.blk.cell 1
        have r2 := hb.blk.cell 2
        have r3 := hb.blk.cell 3
        simp at r0 r1 r2 r3
        refine bodyPost_ret (v := .agg #[.int .i64 7, .int .i64 n, .string s, .slice AF (m + 2) ccF]) (by simp [results, Try.results22, go_sem, r0, r1, r2, r3]) rfl ?_
        exact ⟨_, _, _, _, rfl, by rw [← HLL.out, HFIN.out]; exact hgv, by unfold maxLen; omega, HGD.out.n, HGD.out.s, hcc⟩
      · have HFIN := keepf (show L = ts from by rw [HI.out.2.1, HDZ.out]; show ts ++ [] = ts; rw [List.append_nil])
        have HPF := keepf HI.out.1
        obtain ⟨wF, hwF⟩ : ∃ W, W = wr := ⟨_, rfl⟩
        rw [← hwF] at HPF ⊢
        rw [← hwF] at p0 p1 p2 p3 x0 x1 x2 x3
        clear hwF HI
        go_upto_region 19 with fail
        have gz3 := HPF.out.bv.blk.frozen 3
        have q0 := HPF.out.bv.blk.cell 0
        have q1 := HPF.out.bv.blk.cell 1
        have q2 := HPF.out.bv.blk.cell 2
        have q3 := HPF.out.bv.blk.cell 3
        simp at q0 q1 q2 q3
        go_upto_region 20 with fail
        clear q0 q1 q2 q3 gz3
        have HB9 : Hid (PB w (wF.setCell ⟨g, 3, none⟩ (.slice A2 m c2)) g #[.int .i64 7, .int .i64 n, .string s, .slice A2 m c2]) := HPF.out.bv.set 3 _
        have HO9 := keepf (HPF.out.bo.far (Ne.symm HNE.out.1) 3 (.slice A2 m c2))
        have HG9 := keepf (HPF.out.gv.far HPF.out.nv HPF.out.bv.new 3 (.slice A2 m c2))
        have HC9 := keepf HG9.out.chg
        have HN9 := keepf HPF.out.no
        obtain ⟨w9, hw9⟩ : ∃ W, W = wF.setCell ⟨g, 3, none⟩ (.slice A2 m c2) := ⟨_, rfl⟩
        rw [← hw9] at HB9 HO9 HG9 HC9 ⊢
        clear hw9
        have q0 := HB9.out.blk.cell 0
        have q1 := HB9.out.blk.cell 1
        have q2 := HB9.out.blk.cell 2
        have q3 := HB9.out.blk.cell 3
        have z0 := HO9.out.blk.frozen 0
        have z1 := HO9.out.blk.frozen 1
        have z2 := HO9.out.blk.frozen 2
        have z3 := HO9.out.blk.frozen 3
        have y0 := HO9.out.blk.cell 0
        have y1 := HO9.out.blk.cell 1
        have y2 := HO9.out.blk.cell 2
        have y3 := HO9.out.blk.cell 3
        simp at q0 q1 q2 q3 y0 y1 y2 y3
        go_wp2_with fail
        try simp only [Exit.noGoto_ret]
        clear y0 y1 y2 y3
        obtain ⟨hb, hcc⟩ := HO9.out.set4 (a := .int .i64 7) (b := .int .i64 n) (c := .string s) (d := .slice A2 m c2) HC9.out rfl
        have hgv := (((HG9.out.far HN9.out HO9.out.new 0 (.int .i64 7)).far HN9.out HO9.out.new 1 (.int .i64 n)).far HN9.out HO9.out.new 2 (.string s)).far HN9.out HO9.out.new 3 (.slice A2 m c2)
        have r0 := hb.blk.cell 0
        have r1 := hb.blk.cell 1
        have r2 := hb.blk.cell 2
        have r3 := hb.blk.cell 3
        simp at r0 r1 r2 r3
        refine bodyPost_ret (v := .agg #[.int .i64 7, .int .i64 n, .string s, .slice A2 m c2]) (by simp [results, Try.results22, go_sem, r0, r1, r2, r3]) rfl ?_
        exact ⟨_, _, _, _, rfl, by rw [← HLL.out, HFIN.out]; exact hgv, by unfold maxLen; omega, HGD.out.n, HGD.out.s, hcc⟩
set_option maxHeartbeats 8000000 in
set_option maxRecDepth 100000 in
theorem kput_some (c cx : VC) (l : List VT) (tx : VT) (key : ByteArray) (w : World) (hv : ValIs w (.mk c.k c.n c.s l) c) (hvx : KV w tx cx) (hkr : KRow w c.A l) (hsz : sizL l ≤ 1000000000) (hkey : key.size ≤ maxLen) (h7 : c.k = 7) {j : Nat} (hf : findL key l = some j) :
    Calls Try.prog 22 #[c.val, .string key, cx.val] w (PutTo w c.n c.s (putL key tx l)) := by
  obtain ⟨_, _, _, hg, hl, hr⟩ := hv.inv
  have HF := keepf (fun W (h : ValIs W (.mk c.k c.n c.s l) c) => rfind_any c l key W h hsz)
  have HV := keepf hv
  have HVX := keepf hvx
  have HNM := keepf (nm_is w key hkey)
  have HGD := keepf hg
  obtain ⟨k, n, s, A, len, cap⟩ := c
  obtain ⟨xk, xn, xs, xA, xl, xc⟩ := cx
  simp only [] at hl hr hkr
  have hcap := hg.cap
  simp only [] at hcap
  have hl9 : len ≤ 1000000000 := by have := sizL_len l; omega
  have HL := keepf hl
  have HR := keepf (⟨hr, hkr⟩ : RowK w A l)
  unfold VC.val at HF
  simp only [] at HF HV HVX h7 ⊢
  show Calls Try.prog 22 #[.agg #[.int .i64 k, .int .i64 n, .string s, .slice A len cap], .string key, .agg #[.int .i64 xk, .int .i64 xn, .string xs, .slice xA xl xc]] w _
  have HS0 := keepf (⟨⟨((Blk.new w 24 #[.int .i64 k, .int .i64 n, .string s, .slice A len cap]).alloc (.cells #[.int .i64 xk, .int .i64 xn, .string xs, .slice xA xl xc] 24)).alloc (.cells #[.int .i64 0, .int .i64 0, .string ⟨#[]⟩, .slice none 0 0] 24), Nat.le_refl _⟩,
    ⟨(Blk.new (w.alloc (.cells #[.int .i64 k, .int .i64 n, .string s, .slice A len cap] 24)) 24 #[.int .i64 xk, .int .i64 xn, .string xs, .slice xA xl xc]).alloc (.cells #[.int .i64 0, .int .i64 0, .string ⟨#[]⟩, .slice none 0 0] 24), by simp⟩,
    ⟨Blk.new ((w.alloc (.cells #[.int .i64 k, .int .i64 n, .string s, .slice A len cap] 24)).alloc (.cells #[.int .i64 xk, .int .i64 xn, .string xs, .slice xA xl xc] 24)) 24 #[.int .i64 0, .int .i64 0, .string ⟨#[]⟩, .slice none 0 0], by simp; omega⟩, GV.start (((Chg.refl NoS w).alloc _).alloc _ |>.alloc _), fun e => (by cases e), fun e => (by cases e), fun e => (by cases e)⟩ : PS w _ w.heap.size _ _ _ _ _ [] [] 0 none 0)
  have hs1 : (w.alloc (.cells #[.int .i64 k, .int .i64 n, .string s, .slice A len cap] 24)).heap.size = w.heap.size + 1 := by simp
  have hs2 : ((w.alloc (.cells #[.int .i64 k, .int .i64 n, .string s, .slice A len cap] 24)).alloc (.cells #[.int .i64 xk, .int .i64 xn, .string xs, .slice xA xl xc] 24)).heap.size = w.heap.size + 1 + 1 := by simp
  rw [hs1, hs2] at HS0
  obtain ⟨W0, hW⟩ : ∃ W, W = ((w.alloc (.cells #[.int .i64 k, .int .i64 n, .string s, .slice A len cap] 24)).alloc (.cells #[.int .i64 xk, .int .i64 xn, .string xs, .slice xA xl xc] 24)).alloc (.cells #[.int .i64 0, .int .i64 0, .string ⟨#[]⟩, .slice none 0 0] 24) := ⟨_, rfl⟩
  rw [← hW] at HS0
  obtain ⟨g, hg1⟩ : ∃ g, g = w.heap.size := ⟨_, rfl⟩
  obtain ⟨gx, hg2⟩ : ∃ g, g = w.heap.size + 1 := ⟨_, rfl⟩
  obtain ⟨go, hg3⟩ : ∃ g, g = w.heap.size + 1 + 1 := ⟨_, rfl⟩
  rw [← hg3, ← hg2, ← hg1] at HS0
  have HNE : Hid (g ≠ go ∧ g ≠ gx ∧ gx ≠ go) := ⟨by omega, by omega, by omega⟩
  subst h7
  have HFI := keepf (show findI 7 l key = (match findL key l with | some j => ((2 * j : Nat) : Int) | none => -1) from if_pos rfl)
  rw [hf] at HFI
  simp only [] at HFI
  obtain ⟨q, hq⟩ : ∃ q, q = 2 * j := ⟨_, rfl⟩
  have hqe : q % 2 = 0 := by omega
  have hql : q < len := by have := findL_lt key _ l (Nat.le_refl _) j hf; rw [hl] at this; omega
  rw [← hq] at HFI
  rw [HFI.out] at HF
  have HE := keepf (put_7 (n := n) (s := s) (key := key) (x := tx) (l := l))
  have hpl := putL_len key tx l
  rw [hl] at hpl
  have HPL := keepf hpl
  obtain ⟨L, hL⟩ : ∃ L, L = putL key tx l := ⟨_, rfl⟩
  rw [← hL] at HE HPL
  have HLL := keepf hL
  have HLN := keepf (show L = restR q tx l 0 from by rw [HLL.out]; unfold putL; rw [hf]; simp only []; rw [hq, restR_zero])
  clear hv hvx hg hr hkr hsz hkey hpl hL hl hf hq
  go_enter Try.func22, Try.ntmps22
  go_upto_region 1 with fail
  rw [← hW, ← hg3, ← hg2, ← hg1]
  clear hW hg1 hg2 hg3 hs1 hs2
  have p0 := HS0.out.bv.blk.cell 0
  have p1 := HS0.out.bv.blk.cell 1
  have p2 := HS0.out.bv.blk.cell 2
  have p3 := HS0.out.bv.blk.cell 3
  simp at p0 p1 p2 p3
  go_upto_region 7 with (go_at_call 42; refine (HF.out _ (HV.out.chg HS0.out.gv.chg)).mono ?_; rintro e w2 ⟨rfl, hc2⟩; have HS2 := keepf (HS0.out.call hc2); clear hc2)
  clear p0 p1 p2 p3 HS0 HF
  have mm : ¬ ((q : Int) < 0) := by omega
  have mq : decide ((q : Int) < 0) = false := by simp
  go_loopw [7, 9, 10] (fun vo vd vk wr => ∃ (k m c2 : Nat) (A2 : Option Addr) (es : List VC) (ts : List VT), k ≤ len + 1 ∧ m ≤ k ∧ k % 2 = 0 ∧ vo = .slice A2 m c2 ∧ vd = .bool false ∧ vk = .int .i64 (k : Nat) ∧ Hid (PS w wr g gx go #[.int .i64 7, .int .i64 n, .string s, .slice A len cap] #[.int .i64 xk, .int .i64 xn, .string xs, .slice xA xl xc] #[.int .i64 0, .int .i64 0, .string ⟨#[]⟩, .slice none 0 0] es ts m A2 c2 ∧ L = ts ++ restR q tx l k)) (fun _ _ vk _ => len + 1 - (intOf vk).toNat)
  case atStart => exact ⟨0, 0, 0, none, [], [], by omega, by omega, by omega, rfl, rfl, by go_num, keepf ⟨HS2.out, by rw [HLN.out]; rfl⟩⟩
  case round =>
    obtain ⟨k, m, c2, A2, es, ts, hk, hm, hke, rfl, rfl, rfl, HI⟩ := hrel
    have p0 := HI.out.1.bv.blk.cell 0
    have x0 := HI.out.1.bx.blk.cell 0
    have p1 := HI.out.1.bv.blk.cell 1
    have x1 := HI.out.1.bx.blk.cell 1
    have p2 := HI.out.1.bv.blk.cell 2
    have x2 := HI.out.1.bx.blk.cell 2
    have p3 := HI.out.1.bv.blk.cell 3
    have x3 := HI.out.1.bx.blk.cell 3
    simp at p0 p1 p2 p3 x0 x1 x2 x3
    by_cases h1 : k < len
    · obtain ⟨t, ht, hd⟩ := drop_vt (l := l) (k := k) (by rw [HL.out]; exact h1)
      obtain ⟨b, off, rfl⟩ : ∃ b off, A = some ⟨b, off, none⟩ := by
        have h := HR.out
        cases hll : l with
        | nil => rw [hll] at ht; simp at ht
        | cons t0 l0 => rw [hll] at h; exact h.start
      obtain ⟨eA, el, ec, hve, hce⟩ := el_at HR.out ht
      obtain ⟨c0, c1, c2, c3⟩ := hce _ HI.out.1.gv.chg
      have HCE := keepf hce
      have HVE := keepf hve
      have i1 : (k : Int) < len := by omega
      obtain ⟨tk, htk⟩ : ∃ tk, t.kind = tk := ⟨_, rfl⟩
      obtain ⟨tn, htn⟩ : ∃ tn, t.num = tn := ⟨_, rfl⟩
      obtain ⟨tss, hts⟩ : ∃ ts, t.str = ts := ⟨_, rfl⟩
      rw [htk] at c0 HCE HVE
      rw [htn] at c1 HCE HVE
      rw [hts] at c2 HCE HVE
      have HD := keepf hd
      have HT := keepf ht
      clear hve hce
      have hkw : IntKind.i64.wrap ((k : Int) + 2) = (k : Int) + 2 := by rw [IntKind.wrap_i64]; omega
      have HK0 := keepf htk
      clear htk htn hts hd ht HK0
      by_cases hkq : k = q
      · subst hkq
        have HP0 := keepf HI.out.1
        go_wp2_with first
          | (at_builtin; refine appV (w := w) (new := [⟨tk, tn, tss, eA, el, ec⟩]) (tn := [t]) rfl (.tmp 56) (.tmp 62) rfl rfl rfl HP0.out.gv ((Chg.refl _ _).alloc _) (by first | omega | (simp only [List.length_cons, List.length_nil]; omega)) (by first | omega | (simp only [List.length_cons, List.length_nil]; omega)) (src_new _ _ [⟨tk, tn, tss, eA, el, ec⟩] _ rfl _ _ rfl) rfl rfl (is_one HVE.out) ?_; intro A2 cc2 w2 hg2 hk2; have HP2 := keepf (HP0.out.app _ hg2 hk2); clear hg2 hk2; have p3 := HP2.out.bv.blk.cell 3; have x0 := HP2.out.bx.blk.cell 0; have x1 := HP2.out.bx.blk.cell 1; have x2 := HP2.out.bx.blk.cell 2; have x3 := HP2.out.bx.blk.cell 3; simp at p3 x0 x1 x2 x3)
          | (at_builtin; refine appV (w := w) (new := [⟨xk, xn, xs, xA, xl, xc⟩]) (tn := [tx]) rfl (.tmp 67) (.tmp 69) rfl rfl rfl HP2.out.gv ((Chg.refl _ _).alloc _) (by first | omega | (simp only [List.length_cons, List.length_nil]; omega)) (by first | omega | (simp only [List.length_cons, List.length_nil]; omega)) (src_new _ _ [⟨xk, xn, xs, xA, xl, xc⟩] _ rfl _ _ rfl) rfl rfl (is_one HVX.out) ?_; intro A3 cc3 w3 hg3 hk3; have HP3 := keepf (HP2.out.app _ hg3 hk3); clear hg3 hk3)
        go_roundw
        case rel => exact ⟨k + 2, ((m + 1) + 1), cc3, A3, _, ((ts ++ [t]) ++ [tx]), by omega, by omega, by omega, rfl, rfl, by go_num, keepf ⟨HP3.out, by rw [HI.out.2, restR_at HD.out]; simp⟩⟩
        case measure => simp [intOf]; omega
      · have kq : ((k : Int) == (q : Int)) = false := by simp; omega
        by_cases hmore : k + 1 < len
        · obtain ⟨u, hu⟩ : ∃ u, u = k + 1 := ⟨_, rfl⟩
          have hul : u < len := by omega
          have HU := keepf hu
          have e1 : (k : Int) + 1 = (u : Int) := by omega
          have k1 : IntKind.i64.wrap (u : Int) = (u : Int) := by rw [IntKind.wrap_i64]; omega
          have i2 : (u : Int) < len := by omega
          obtain ⟨t2, ht2, hd2⟩ := drop_vt (l := l) (k := u) (by rw [HL.out]; exact hul)
          obtain ⟨fA, fl, fc, hvf, hcf⟩ := el_at HR.out ht2
          obtain ⟨uk, huk⟩ : ∃ tk, t2.kind = tk := ⟨_, rfl⟩
          obtain ⟨un, hun⟩ : ∃ tn, t2.num = tn := ⟨_, rfl⟩
          obtain ⟨us, hus⟩ : ∃ ts, t2.str = ts := ⟨_, rfl⟩
          rw [huk, hun, hus] at hvf
          rw [huk, hun, hus] at hcf
          have HCF := keepf hcf
          have HVF := keepf hvf
          have HD2 := keepf hd2
          have HT2 := keepf ht2
          clear hvf hcf hd2 ht2 hu huk hun hus
          have HP0 := keepf HI.out.1
          go_wp2_with first
            | (at_builtin; refine appV (w := w) (new := [⟨tk, tn, tss, eA, el, ec⟩]) (tn := [t]) rfl (.tmp 56) (.tmp 62) rfl rfl rfl HP0.out.gv ((Chg.refl _ _).alloc _) (by first | omega | (simp only [List.length_cons, List.length_nil]; omega)) (by first | omega | (simp only [List.length_cons, List.length_nil]; omega)) (src_new _ _ [⟨tk, tn, tss, eA, el, ec⟩] _ rfl _ _ rfl) rfl rfl (is_one HVE.out) ?_; intro A2 cc2 w2 hg2 hk2; have HP2 := keepf (HP0.out.app _ hg2 hk2); clear hg2 hk2; have p3 := HP2.out.bv.blk.cell 3; have x0 := HP2.out.bx.blk.cell 0; have x1 := HP2.out.bx.blk.cell 1; have x2 := HP2.out.bx.blk.cell 2; have x3 := HP2.out.bx.blk.cell 3; simp at p3 x0 x1 x2 x3; obtain ⟨f0, f1, f2, f3⟩ := HCF.out _ HP2.out.gv.chg)
            | (at_builtin; refine appV (w := w) (new := [⟨uk, un, us, fA, fl, fc⟩]) (tn := [t2]) rfl (.tmp 77) (.tmp 84) rfl rfl rfl HP2.out.gv ((Chg.refl _ _).alloc _) (by first | omega | (simp only [List.length_cons, List.length_nil]; omega)) (by first | omega | (simp only [List.length_cons, List.length_nil]; omega)) (src_new _ _ [⟨uk, un, us, fA, fl, fc⟩] _ rfl _ _ rfl) rfl rfl (is_one HVF.out) ?_; intro A3 cc3 w3 hg3 hk3; have HP3 := keepf (HP2.out.app _ hg3 hk3); clear hg3 hk3)
          go_roundw
          case rel => exact ⟨k + 2, ((m + 1) + 1), cc3, A3, _, ((ts ++ [t]) ++ [t2]), by omega, by omega, by omega, rfl, rfl, by go_num, keepf ⟨HP3.out, by rw [HI.out.2, restR_two hke hqe hkq HD.out (by rw [← HU.out]; exact HD2.out)]; simp⟩⟩
          case measure => simp [intOf]; omega
        · have hul : k + 1 = len := by omega
          have HZ1 := keepf (show l.drop (k + 1) = [] from List.drop_of_length_le (by rw [HL.out]; omega))
          have HZ2 := keepf (show l.drop (k + 2) = [] from List.drop_of_length_le (by rw [HL.out]; omega))
          have e1 : ¬ (k : Int) + 1 < len := by omega
          have d3 : decide ((k : Int) + 1 < len) = false := by simp; omega
          have k1 : IntKind.i64.wrap ((k : Int) + 1) = (k : Int) + 1 := by rw [IntKind.wrap_i64]; omega
          have HP0 := keepf HI.out.1
          go_wp2_with first
            | (at_builtin; refine appV (w := w) (new := [⟨tk, tn, tss, eA, el, ec⟩]) (tn := [t]) rfl (.tmp 56) (.tmp 62) rfl rfl rfl HP0.out.gv ((Chg.refl _ _).alloc _) (by first | omega | (simp only [List.length_cons, List.length_nil]; omega)) (by first | omega | (simp only [List.length_cons, List.length_nil]; omega)) (src_new _ _ [⟨tk, tn, tss, eA, el, ec⟩] _ rfl _ _ rfl) rfl rfl (is_one HVE.out) ?_; intro A2 cc2 w2 hg2 hk2; have HP2 := keepf (HP0.out.app _ hg2 hk2); clear hg2 hk2; have p3 := HP2.out.bv.blk.cell 3; have x0 := HP2.out.bx.blk.cell 0; have x1 := HP2.out.bx.blk.cell 1; have x2 := HP2.out.bx.blk.cell 2; have x3 := HP2.out.bx.blk.cell 3; simp at p3 x0 x1 x2 x3)
          go_roundw
          case rel => exact ⟨k + 2, (m + 1), cc2, A2, _, (ts ++ [t]), by omega, by omega, by omega, rfl, rfl, by go_num, keepf ⟨HP2.out, by rw [HI.out.2, restR_end (by omega), restR_end (by omega), HD.out, HZ1.out, HZ2.out]; simp⟩⟩
          case measure => simp [intOf]; omega
    · have i1 : ¬ (k : Int) < len := by omega
      have HDZ := keepf (show restR q tx l k = [] from by rw [restR_end (by omega)]; exact List.drop_of_length_le (by rw [HL.out]; omega))
      have HFIN := keepf (show L = ts from by rw [HI.out.2, HDZ.out]; show ts ++ [] = ts; rw [List.append_nil])
      have HPF := keepf HI.out.1
      obtain ⟨wF, hwF⟩ : ∃ W, W = wr := ⟨_, rfl⟩
      rw [← hwF] at HPF ⊢
      rw [← hwF] at p0 p1 p2 p3 x0 x1 x2 x3
      clear hwF HI h1
      go_upto_region 19 with fail
      have gz3 := HPF.out.bv.blk.frozen 3
      have q0 := HPF.out.bv.blk.cell 0
      have q1 := HPF.out.bv.blk.cell 1
      have q2 := HPF.out.bv.blk.cell 2
      have q3 := HPF.out.bv.blk.cell 3
      simp at q0 q1 q2 q3
      go_upto_region 20 with fail
      clear q0 q1 q2 q3 gz3
      have HB9 : Hid (PB w (wF.setCell ⟨g, 3, none⟩ (.slice A2 m c2)) g #[.int .i64 7, .int .i64 n, .string s, .slice A2 m c2]) := HPF.out.bv.set 3 _
      have HO9 := keepf (HPF.out.bo.far (Ne.symm HNE.out.1) 3 (.slice A2 m c2))
      have HG9 := keepf (HPF.out.gv.far HPF.out.nv HPF.out.bv.new 3 (.slice A2 m c2))
      have HC9 := keepf HG9.out.chg
      have HN9 := keepf HPF.out.no
      obtain ⟨w9, hw9⟩ : ∃ W, W = wF.setCell ⟨g, 3, none⟩ (.slice A2 m c2) := ⟨_, rfl⟩
      rw [← hw9] at HB9 HO9 HG9 HC9 ⊢
      clear hw9
      have q0 := HB9.out.blk.cell 0
      have q1 := HB9.out.blk.cell 1
      have q2 := HB9.out.blk.cell 2
      have q3 := HB9.out.blk.cell 3
      have z0 := HO9.out.blk.frozen 0
      have z1 := HO9.out.blk.frozen 1
      have z2 := HO9.out.blk.frozen 2
      have z3 := HO9.out.blk.frozen 3
      have y0 := HO9.out.blk.cell 0
      have y1 := HO9.out.blk.cell 1
      have y2 := HO9.out.blk.cell 2
      have y3 := HO9.out.blk.cell 3
      simp at q0 q1 q2 q3 y0 y1 y2 y3
      go_wp2_with fail
      try simp only [Exit.noGoto_ret]
      clear y0 y1 y2 y3
      obtain ⟨hb, hcc⟩ := HO9.out.set4 (a := .int .i64 7) (b := .int .i64 n) (c := .string s) (d := .slice A2 m c2) HC9.out rfl
      have hgv := (((HG9.out.far HN9.out HO9.out.new 0 (.int .i64 7)).far HN9.out HO9.out.new 1 (.int .i64 n)).far HN9.out HO9.out.new 2 (.string s)).far HN9.out HO9.out.new 3 (.slice A2 m c2)
      have r0 := hb.blk.cell 0
      have r1 := hb.blk.cell 1
      have r2 := hb.blk.cell 2
      have r3 := hb.blk.cell 3
      simp at r0 r1 r2 r3
      refine bodyPost_ret (v := .agg #[.int .i64 7, .int .i64 n, .string s, .slice A2 m c2]) (by simp [results, Try.results22, go_sem, r0, r1, r2, r3]) rfl ?_
      exact ⟨_, _, _, _, rfl, by rw [← HLL.out, HFIN.out]; exact hgv, by unfold maxLen; omega, HGD.out.n, HGD.out.s, hcc⟩
/-- The document's own Put, of a dictionary. -/
theorem kput_any (c cx : VC) (l : List VT) (tx : VT) (key : ByteArray) (w : World) (hv : ValIs w (.mk c.k c.n c.s l) c) (hvx : KV w tx cx) (hkr : KRow w c.A l) (hsz : sizL l ≤ 1000000000) (hkey : key.size ≤ maxLen) (h7 : c.k = 7) :
    Calls Try.prog 22 #[c.val, .string key, cx.val] w (PutTo w c.n c.s (putL key tx l)) := by
  cases hf : findL key l with
  | none => exact kput_none c cx l tx key w hv hvx hkr hsz hkey h7 hf
  | some j => exact kput_some c cx l tx key w hv hvx hkr hsz hkey h7 hf
/-- Put's row, whatever is laid into the caller's box. -/
theorem GV.laid {w w' V : World} {es : List VC} {ts : List VT} {n c : Nat} {A : Option Addr} (h : GV w w' es ts n A c) (hg : LBox.g < w.heap.size) (hc : Chg (fun i => i = LBox.g) w' V) (hn : n ≤ maxLen) (v : Int) (s : ByteArray) (hv : -9223372036854775808 ≤ v ∧ v ≤ 9223372036854775807) (hs : s.size ≤ maxLen) :
    ValIs V (.mk 7 v s ts) ⟨7, v, s, A, n, c⟩ ∧ KRow V A ts := by
  have hown : V.ownsRow 0 24 4 (.slice A n c) n (vcells es) := own_chg h.own hc (fun g hg2 e => by
    rcases A with _ | ad
    · simp [Value.ownBlock] at hg2
    · have e2 : ad.block = g := by simpa [Value.ownBlock] using hg2
      have := h.new ad rfl
      omega)
  have hwV : Chg (fun i => i = LBox.g) w V := (h.chg.mono (fun _ _ e => e.elim)).trans hc (fun _ _ e => e)
  have his : ∀ (j : Nat) (t : VT) (e : VC), ts[j]? = some t → es[j]? = some e → KV V t e := fun j t e h1 h2 => (h.is j t e h1 h2).chg hwV
  have hgv : Go.Proofs.Ytjbjfoingpnlmaa.rk.GV w w' es ts n A c := h
  have hsrc := src_own hown
  have hcell : ∀ (j : Nat) (e : VC), es[j]? = some e → ∃ ad, A = some ad ∧ ∀ i, i < 4 → V.cell? (ad.add (j * 4 + i)) = e.cells[i]? := by
    intro j e he
    have hj : j < es.length := (List.getElem?_eq_some_iff.1 he).1
    rcases A with _ | ad
    · have h0 := (hsrc.2.1 rfl).1
      have h1 := h.len
      omega
    · refine ⟨ad, rfl, fun i hi => ?_⟩
      have h1 := vcells_at he hi
      rw [List.getElem?_eq_getElem (show i < e.cells.length from hi)] at h1 ⊢
      exact hsrc.2.2 ad rfl _ _ h1
  have hrow : RowIs V A 0 ts := by
    rcases A with _ | ad
    · have h0 := (hsrc.2.1 rfl).1
      have h1 := h.tlen
      rw [h0] at h1
      rw [List.eq_nil_of_length_eq_zero h1]
      exact .nil _ _
    · have key : ∀ (m j : Nat), j + m = n → RowIs V (some ad) j (ts.drop j) := by
        intro m
        induction m with
        | zero =>
          intro j hj
          rw [List.drop_of_length_le (by rw [h.tlen]; omega)]
          exact .nil _ _
        | succ m ih =>
          intro j hj
          have hjt : j < ts.length := by rw [h.tlen]; omega
          have hje : j < es.length := by rw [h.len]; omega
          rw [List.drop_eq_getElem_cons hjt]
          obtain ⟨ad', had, hcl⟩ := hcell j _ (List.getElem?_eq_getElem hje)
          cases had
          exact .cons ad j _ _ es[j] hcl ((his j _ _ (List.getElem?_eq_getElem hjt) (List.getElem?_eq_getElem hje)).now) (ih (j + 1) (by omega))
      have := key n 0 (by omega)
      rwa [List.drop_zero] at this
  refine ⟨.mk ⟨7, v, s, A, n, c⟩ ts ⟨⟨(by decide : (-9223372036854775808 : Int) ≤ 7), (by decide : (7 : Int) ≤ 9223372036854775807)⟩, hv, hs, (h.good hn).1, (h.good hn).2, hn⟩ h.tlen hrow, fun j t ht => ?_⟩
  have hj : j < ts.length := (List.getElem?_eq_some_iff.1 ht).1
  have hje : j < es.length := by rw [h.len, ← h.tlen]; exact hj
  obtain ⟨ad, had, hcl⟩ := hcell j _ (List.getElem?_eq_getElem hje)
  exact ⟨ad, es[j], had, hcl, his j t _ ht (List.getElem?_eq_getElem hje)⟩
end Go.Proofs.Ytjbjfoingpnlmaa.rk

namespace Go.Proofs.Ytjbjfoingpnlmaa
open Go.RowKit
set_option linter.unusedVariables false
set_option linter.unusedSimpArgs false
theorem mk_app : ∀ (a b : List VT), sizL (a ++ b) = sizL a + sizL b
  | [], b => by rw [List.nil_append, show sizL [] = 0 by rw [sizL]]; omega
  | t :: a, b => by rw [List.cons_append, sizL_cons, sizL_cons, mk_app a b]; omega
theorem mk_nil : sizL [] = 0 := by rw [sizL]
theorem mk_nm (key : ByteArray) : sizT (nmT key) = 1 := by rw [nmT, sizT_mk, mk_nil]
theorem mk_ins (key : ByteArray) (x : VT) : ∀ (N : Nat) (l : List VT), l.length ≤ N → sizL (insL key x l) = sizL l + sizT x + 1 := by
  intro N
  induction N using Nat.strongRecOn with
  | _ N ih =>
    intro l hl
    match l with
    | [] => rw [insL, sizL_cons, sizL_cons, mk_nm, mk_nil]; omega
    | [a] =>
      rw [insL]
      split <;> simp only [sizL_cons, mk_nm, mk_nil] <;> omega
    | a :: u :: l' =>
      simp only [List.length_cons] at hl
      by_cases hg : gtT key a
      · rw [ins_gt hg]; simp only [sizL_cons, mk_nm]; omega
      · rw [ins_le hg]
        have := ih (N - 1) (by omega) l' (by omega)
        simp only [sizL_cons]
        omega
theorem mk_put (key : ByteArray) (x : VT) (l : List VT) : sizL (putL key x l) ≤ sizL l + sizT x + 1 := by
  unfold putL
  split
  · next j _ =>
    unfold replL
    have h1 := mk_app (l.take (2 * j + 1)) (l.drop (2 * j + 1))
    rw [List.take_append_drop] at h1
    have h2 := sizL_drop (l.drop (2 * j + 1)) 1
    rw [List.drop_drop, show 2 * j + 1 + 1 = 2 * j + 2 by omega] at h2
    rw [mk_app, sizL_cons]
    omega
  · have := mk_ins key x _ l (Nat.le_refl _)
    omega
theorem KRow_chg {g : Nat} {w V : World} {A : Option Addr} {l : List VT} (h : @rk.KRow ⟨g⟩ w A l) (hc : Chg NoS w V) : @rk.KRow ⟨g⟩ V A l := fun j t ht => by
  letI : rk.LBox := ⟨g⟩
  obtain ⟨ad, e, had, hcell, hk⟩ := h j t ht
  refine ⟨ad, e, had, fun i hi => ?_, hk.call hc⟩
  have h0 := hcell i hi
  rw [List.getElem?_eq_getElem (show i < e.cells.length from hi)] at h0 ⊢
  exact (hc.cell (cell_lt h0) (fun h => h)).trans h0
/-- What is held in a round: the law's dictionary in its box. -/
structure MI (w wr : World) (g : Nat) (l : List VT) (k m c : Nat) (Ad : Option Addr) (D : List VT) : Prop where
  b : PB w wr g #[.int .i64 7, .int .i64 0, .string ⟨#[]⟩, .slice Ad m c]
  chg : Chg NoS w wr
  v : ValIs wr (.mk 7 0 ⟨#[]⟩ D) ⟨7, 0, ⟨#[]⟩, Ad, m, c⟩
  kr : @rk.KRow ⟨g⟩ wr Ad D
  d : D = dictF (keyAt l) (valAt l) (List.range (k / 2))
  siz : sizL D ≤ 301 * k
theorem MI.call {w wr V : World} {g : Nat} {l : List VT} {k m c : Nat} {Ad : Option Addr} {D : List VT} (h : MI w wr g l k m c Ad D) (hc : Chg NoS wr V) : MI w V g l k m c Ad D :=
  ⟨h.b.call hc, h.chg.trans hc (fun _ _ e => e), h.v.chg hc, KRow_chg h.kr hc, h.d, h.siz⟩
theorem MI.next {w wr : World} {g : Nat} {l : List VT} {k m c : Nat} {Ad : Option Addr} {D : List VT} (h : MI w wr g l k m c Ad D) (hk : k % 2 = 0) : MI w wr g l (k + 1) m c Ad D :=
  ⟨h.b, h.chg, h.v, h.kr, by rw [h.d, show (k + 1) / 2 = k / 2 by omega], by have := h.siz; omega⟩
/-- One more is put in, and laid into the box. -/
theorem MI.put {w wr w' : World} {g : Nat} {l : List VT} {k m c m' c' : Nat} {Ad A' : Option Addr} {D : List VT} {x : VT} {key : ByteArray} {es : List VC} (h : MI w wr g l k m c Ad D) (hk : k % 2 = 1) (hkey : key = keyAt l (k / 2)) (hx : x = valAt l (k / 2)) (hsx : sizT x ≤ 300)
    (hp : @rk.GV ⟨g⟩ wr w' es (putL key x D) m' A' c') (hm : m' ≤ maxLen) :
    MI w ((((w'.setCell ⟨g, 0, none⟩ (.int .i64 7)).setCell ⟨g, 1, none⟩ (.int .i64 0)).setCell ⟨g, 2, none⟩ (.string ⟨#[]⟩)).setCell ⟨g, 3, none⟩ (.slice A' m' c')) g l (k + 1) m' c' A' (putL key x D) := by
  letI : rk.LBox := ⟨g⟩
  obtain ⟨hb, hc⟩ := (h.b.call hp.chg).set4 (a := .int .i64 7) (b := .int .i64 0) (c := .string ⟨#[]⟩) (d := .slice A' m' c') (h.chg.trans hp.chg (fun _ _ e => e)) rfl
  have hl := rk.GV.laid hp h.b.blk.lt (((((Chg.refl (fun i => i = g) w').setCell (p := ⟨g, 0, none⟩) (fun _ => rfl) (.int .i64 7)).setCell (p := ⟨g, 1, none⟩) (fun _ => rfl) (.int .i64 0)).setCell (p := ⟨g, 2, none⟩) (fun _ => rfl) (.string ⟨#[]⟩)).setCell (p := ⟨g, 3, none⟩) (fun _ => rfl) (.slice A' m' c')) hm 0 ⟨#[]⟩ (by decide) (by unfold maxLen; decide)
  refine ⟨hb, hc, hl.1, hl.2, ?_, ?_⟩
  · rw [show (k + 1) / 2 = k / 2 + 1 by omega, List.range_succ, dictF_snoc, ← h.d, hkey, hx]
  · have h1 := mk_put key x D
    have h2 := h.siz
    omega
theorem MI.start {w : World} {l : List VT} : MI w (w.alloc (.cells #[.int .i64 7, .int .i64 0, .string ⟨#[]⟩, .slice none 0 0] 24)) w.heap.size l 0 0 0 none [] :=
  ⟨⟨Blk.new _ _ _, Nat.le_refl _⟩, (Chg.refl NoS w).alloc _, .mk ⟨7, 0, ⟨#[]⟩, none, 0, 0⟩ [] ⟨(by decide), (by decide), (by unfold maxLen; decide), fun _ => ⟨rfl, rfl⟩, Nat.le_refl _, Nat.zero_le _⟩ rfl (.nil _ _), fun j t h => (by simp at h), rfl, by rw [mk_nil]; omega⟩
theorem MI.held {w wr : World} {g : Nat} {l : List VT} {k m c : Nat} {Ad : Option Addr} {D : List VT} (h : MI w wr g l k m c Ad D) : wr.cell? ⟨g, 0, none⟩ = some (.int .i64 7) ∧ wr.cell? ⟨g, 1, none⟩ = some (.int .i64 0) ∧ wr.cell? ⟨g, 2, none⟩ = some (.string ⟨#[]⟩) ∧ wr.cell? ⟨g, 3, none⟩ = some (.slice Ad m c) := by
  have x0 := h.b.blk.cell 0
  have x1 := h.b.blk.cell 1
  have x2 := h.b.blk.cell 2
  have x3 := h.b.blk.cell 3
  simp at x0 x1 x2 x3
  exact ⟨x0, x1, x2, x3⟩
theorem mk_plain (W : World) (k n : Int) (s : ByteArray) (hk : -9223372036854775808 ≤ k ∧ k ≤ 9223372036854775807) (hn : -9223372036854775808 ≤ n ∧ n ≤ 9223372036854775807) (hs : s.size ≤ maxLen) : ValIs W (.mk k n s []) ⟨k, n, s, none, 0, 0⟩ :=
  .mk ⟨k, n, s, none, 0, 0⟩ [] ⟨hk, hn, hs, fun _ => ⟨rfl, rfl⟩, Nat.le_refl _, Nat.zero_le _⟩ rfl (.nil _ _)
theorem mk_same (t : VT) (k n : Int) (s : ByteArray) (A : Option Addr) (len cap : Nat) (k' n' : Int) (s' : ByteArray) (A' : Option Addr) (len' cap' : Nat) (W : World) (h1 : ValIs W t ⟨k, n, s, A, len, cap⟩) (h2 : ValIs W t ⟨k', n', s', A', len', cap'⟩) :
    Calls Try.prog 18 #[.agg #[.int .i64 k, .int .i64 n, .string s, .slice A len cap], .agg #[.int .i64 k', .int .i64 n', .string s', .slice A' len' cap']] W fun e w' => e = .returned (.bool true) ∧ Chg NoS W w' :=
  (rsame11_any t t ⟨k, n, s, A, len, cap⟩ ⟨k', n', s', A', len', cap'⟩ W h1 h2).mono fun _ _ ⟨he, hc⟩ => ⟨by rw [he, cmpT_self]; rfl, hc⟩
theorem mk_dict {f : FuncId} {args : Array Value} {n : Int} {s : ByteArray} {l : List VT} {W : World} (H : Calls Try.prog f args W (TreeTo W (.mk 7 n s l))) : Calls Try.prog f args W fun e w' => ∃ (A : Option Addr) (len cap : Nat), e = .returned (.agg #[.int .i64 7, .int .i64 n, .string s, .slice A len cap]) ∧ ValIs w' (.mk 7 n s l) ⟨7, n, s, A, len, cap⟩ ∧ Chg NoS W w' :=
  H.mono fun _ _ ⟨⟨k', n', s', A, len, cap⟩, he, hv, hc⟩ => by
    obtain ⟨h1, h2, h3, _⟩ := hv.inv
    simp only [] at h1 h2 h3
    subst h1 h2 h3
    exact ⟨A, len, cap, he, hv, hc⟩
set_option maxHeartbeats 8000000 in
set_option maxRecDepth 100000 in
theorem makes_no1 (H : ValOk) (s : ByteArray) (n : Int) (A : Option Addr) (len cap : Nat) (l : List VT) (w : World) (hr : VRow w A len cap l) (h1 : ¬ s.size ≤ 300) :
    Calls Try.prog 8 #[.string s, .int .i64 n, .slice A len cap] w fun e w' => e = .returned (.bool true) ∧ Chg NoS w w' := by
  have d1 : decide ((300 : Int) < s.size) = true := by simp; omega
  go_enter Try.func8, Try.ntmps8
  go_wp2_with (go_at_call 14; refine (H.works _).mono ?_; rintro e wq ⟨rfl, hq⟩)
  go_ret
  exact ⟨rfl, hq⟩
set_option maxHeartbeats 8000000 in
set_option maxRecDepth 100000 in
theorem makes_no2 (H : ValOk) (s : ByteArray) (n : Int) (A : Option Addr) (len cap : Nat) (l : List VT) (w : World) (hr : VRow w A len cap l) (h1 : s.size ≤ 300) (h2 : ¬ len ≤ 40) :
    Calls Try.prog 8 #[.string s, .int .i64 n, .slice A len cap] w fun e w' => e = .returned (.bool true) ∧ Chg NoS w w' := by
  have d1 : decide ((300 : Int) < s.size) = false := by simp; omega
  have d2 : decide ((40 : Int) < len) = true := by simp; omega
  go_enter Try.func8, Try.ntmps8
  go_wp2_with (go_at_call 14; refine (H.works _).mono ?_; rintro e wq ⟨rfl, hq⟩)
  go_ret
  exact ⟨rfl, hq⟩
set_option maxHeartbeats 8000000 in
set_option maxRecDepth 100000 in
theorem makes_yes (H : ValOk) (s : ByteArray) (n : Int) (A : Option Addr) (len cap : Nat) (l : List VT) (w : World) (hr : VRow w A len cap l) (hn : -9223372036854775808 ≤ n ∧ n ≤ 9223372036854775807) (h1 : s.size ≤ 300) (h2 : len ≤ 40) :
    Calls Try.prog 8 #[.string s, .int .i64 n, .slice A len cap] w fun e w' => e = .returned (.bool true) ∧ Chg NoS w w' := by
  obtain ⟨hrow, hll, hnil, hcap, hml⟩ := hr
  have HR := keepf hrow
  have HL := keepf hll
  have d1 : decide ((300 : Int) < s.size) = false := by simp; omega
  have d2 : decide ((40 : Int) < len) = false := by simp; omega
  have HM0 := keepf (MI.start (w := w) (l := l))
  clear hrow hll
  go_enter Try.func8, Try.ntmps8
  go_upto_region 5 with fail
  obtain ⟨g, hg⟩ : ∃ g, g = w.heap.size := ⟨_, rfl⟩
  rw [← hg] at HM0 ⊢
  obtain ⟨w0, hw0⟩ : ∃ W, W = w.alloc (.cells #[.int .i64 7, .int .i64 0, .string ⟨#[]⟩, .slice none 0 0] 24) := ⟨_, rfl⟩
  rw [← hw0] at HM0 ⊢
  clear hw0
  have HGW := keepf (show w.heap.size ≤ g by omega)
  clear hg
  go_loopw [8] (fun vk wr => ∃ (k m c : Nat) (Ad : Option Addr) (D : List VT), k ≤ len ∧ vk = .int .i64 (k : Nat) ∧ Hid (MI w wr g l k m c Ad D) ∧ Hid (∀ t ∈ l.take k, t.str.size ≤ maxLen)) (fun vk _ => len - (intOf vk).toNat)
  case atStart => exact ⟨0, 0, 0, none, [], by omega, by go_num, HM0, keepf (fun t h => (by simp at h))⟩
  case round =>
    obtain ⟨k, m, c, Ad, D, hk, rfl, HI, HS⟩ := hrel
    by_cases h3 : k < len
    · have i1 : (k : Int) < len := by omega
      obtain ⟨t, ht, hd⟩ := drop_vt (l := l) (k := k) (by rw [HL.out]; exact h3)
      obtain ⟨b, off, rfl⟩ : ∃ b off, A = some ⟨b, off, none⟩ := by
        have h := HR.out
        cases hll : l with
        | nil => rw [hll] at ht; simp at ht
        | cons t0 l0 => rw [hll] at h; exact h.start
      obtain ⟨eA, el, ec, hve, hce⟩ := el_at HR.out ht
      have K1 := fun (W : World) (h : Chg NoS w W) => small_any t ⟨t.kind, t.num, t.str, eA, el, ec⟩ W (hve.chg h)
      obtain ⟨tk, htk⟩ : ∃ tk, t.kind = tk := ⟨_, rfl⟩
      obtain ⟨tn, htn⟩ : ∃ tn, t.num = tn := ⟨_, rfl⟩
      obtain ⟨ts, hts⟩ : ∃ ts, t.str = ts := ⟨_, rfl⟩
      have hgood := hve.good.s
      simp only [] at hgood
      rw [htk, htn, hts] at hve hce K1
      rw [hts] at hgood
      obtain ⟨c0, c1, c2, c3⟩ := hce _ HI.out.chg
      unfold VC.val at K1
      simp only [] at K1
      have HT := keepf ht
      have HVE := keepf hve
      have HCE := keepf hce
      have HTS := keepf hts
      clear ht hd hve hce htk htn hts
      by_cases hsm : 0 ≤ fewT t 300
      · rw [show decide (0 ≤ fewT t 300) = true from by simpa using hsm] at K1
        have KS := keepf K1
        clear K1
        by_cases h4 : ts.size ≤ 300
        · have d3 : decide ((300 : Int) < ts.size) = false := by simp; omega
          obtain ⟨r, hr2⟩ : ∃ r, k % 2 = r := ⟨_, rfl⟩
          have e2 : (k : Int).tmod 2 = (r : Int) := by rw [Int.tmod_eq_emod_of_nonneg (by omega)]; omega
          have e3 : IntKind.i64.wrap (r : Int) = (r : Int) := by rw [IntKind.wrap_i64] <;> omega
          have e4 : IntKind.i64.wrap ((k : Int) + 1) = (k : Int) + 1 := by rw [IntKind.wrap_i64]; omega
          have HSN : Hid (∀ t ∈ l.take (k + 1), t.str.size ≤ maxLen) := fun u hu => by
            have hlt : k < l.length := by rw [HL.out]; exact h3
            rw [List.take_succ_eq_append_getElem hlt] at hu
            rcases List.mem_append.1 hu with h | h
            · exact HS.out u h
            · have h0 := HT.out
              rw [List.getElem?_eq_getElem hlt, Option.some.injEq] at h0
              rw [h0] at h
              rw [List.mem_singleton.1 h, HTS.out]
              exact hgood
          by_cases h5 : r = 0
          · subst h5
            have HMN := keepf (HI.out.next hr2)
            go_wp2_with (go_at_call 9; refine (KS.out _ HI.out.chg).mono ?_; rintro e wq ⟨rfl, hq⟩; obtain ⟨_, _, _, _⟩ := HCE.out _ (HI.out.chg.trans hq (fun _ _ e => e)))
            go_roundw
            case rel => exact ⟨k + 1, m, c, Ad, D, by omega, by go_num, keepf (HMN.out.call hq), HSN⟩
            case measure => simp [intOf]; omega
          · obtain rfl : r = 1 := by omega
            have HSZ := keepf (small_siz hsm)
            go_upto_region 10 with (go_at_call 9; refine (KS.out _ HI.out.chg).mono ?_; rintro e wq ⟨rfl, hq⟩; obtain ⟨_, _, _, _⟩ := HCE.out _ (HI.out.chg.trans hq (fun _ _ e => e)))
            obtain ⟨q, hq1⟩ : ∃ q, k = q + 1 := ⟨k - 1, by omega⟩
            have e1 : (k : Int) - 1 = (q : Int) := by omega
            have e5 : IntKind.i64.wrap (q : Int) = (q : Int) := by rw [IntKind.wrap_i64]; omega
            have i2 : (q : Int) < len := by omega
            obtain ⟨t2, ht2, _⟩ := drop_vt (l := l) (k := q) (by rw [HL.out]; omega)
            obtain ⟨fA, fl, fc, hvf, hcf⟩ := el_at HR.out ht2
            have hkm := hvf.good.s
            simp only [] at hkm
            have HKY : Hid (t2.str = keyAt l (k / 2)) := by
              show _ = _
              unfold keyAt
              rw [show 2 * (k / 2) = q by omega, ht2]
              rfl
            have HXV : Hid (t = valAt l (k / 2)) := by
              show _ = _
              unfold valAt
              rw [show 2 * (k / 2) + 1 = k by omega, HT.out]
              rfl
            obtain ⟨key, hkey⟩ : ∃ x, t2.str = x := ⟨_, rfl⟩
            rw [hkey] at hkm HKY hcf
            have HCF := keepf hcf
            have HMD := keepf ((HI.out.call hq).call (Chg.refl NoS wq).drew)
            have hszD := HI.out.siz
            have KP := keepf (@rk.kput_any ⟨g⟩ ⟨7, 0, ⟨#[]⟩, Ad, m, c⟩ ⟨tk, tn, ts, eA, el, ec⟩ D t key wq.drew HMD.out.v (fun V hV => HVE.out.chg (HMD.out.chg.trans hV (fun i hi (e : i = g) => absurd hi (by have := HGW.out; omega)))) HMD.out.kr (by omega) hkm rfl)
            unfold VC.val at KP
            simp only [] at KP
            have HKEEP := keepf (fun (W : World) (hm : MI w W g l k m c Ad D) => (⟨hm.held.1, hm.held.2.1, hm.held.2.2.1, hm.held.2.2.2, (HCF.out W hm.chg).2.2.1, (HCE.out W hm.chg).1, (HCE.out W hm.chg).2.1, (HCE.out W hm.chg).2.2.1, (HCE.out W hm.chg).2.2.2⟩ : (fun w' => w'.cell? ⟨g, 0, none⟩ = some (.int .i64 7) ∧ w'.cell? ⟨g, 1, none⟩ = some (.int .i64 0) ∧ w'.cell? ⟨g, 2, none⟩ = some (.string ⟨#[]⟩) ∧ w'.cell? ⟨g, 3, none⟩ = some (.slice Ad m c) ∧ w'.cell? ⟨b, off + q * 4 + 2, none⟩ = some (.string key) ∧ w'.cell? ⟨b, off + k * 4, none⟩ = some (.int .i64 tk) ∧ w'.cell? ⟨b, off + k * 4 + 1, none⟩ = some (.int .i64 tn) ∧ w'.cell? ⟨b, off + k * 4 + 2, none⟩ = some (.string ts) ∧ w'.cell? ⟨b, off + k * 4 + 3, none⟩ = some (.slice eA el ec)) W))
            have HQ1 := keepf hq1
            clear c0 c1 c2 c3 hvf hcf hkey hszD hkm hq hq1 ht2
            refine startZ (fun w' => w'.cell? ⟨g, 0, none⟩ = some (.int .i64 7) ∧ w'.cell? ⟨g, 1, none⟩ = some (.int .i64 0) ∧ w'.cell? ⟨g, 2, none⟩ = some (.string ⟨#[]⟩) ∧ w'.cell? ⟨g, 3, none⟩ = some (.slice Ad m c) ∧ w'.cell? ⟨b, off + q * 4 + 2, none⟩ = some (.string key) ∧ w'.cell? ⟨b, off + k * 4, none⟩ = some (.int .i64 tk) ∧ w'.cell? ⟨b, off + k * 4 + 1, none⟩ = some (.int .i64 tn) ∧ w'.cell? ⟨b, off + k * 4 + 2, none⟩ = some (.string ts) ∧ w'.cell? ⟨b, off + k * 4 + 3, none⟩ = some (.slice eA el ec)) 12 (by kernel_rfl) (HKEEP.out _ HMD.out) (fun hHeld => ?_)
            refine takeZ (i := 0) (oi := { dst := some 44, op := Go.Op.load 24 (Go.Operand.tmp 7), type := 24, pos := _, after := _, guard := none }) (v := ?_) rfl (by kernel_rfl) (by kernel_rfl) (by kernel_rfl) (by kernel_rfl) (fun _ _ _ h => h) (Or.inl ⟨by rfl, ?_⟩) (by assumption) ?_
            rotate_left
            · intro w hSw; (try dsimp only at hSw); (try obtain ⟨s0, s1, s2, s3, s4, s5, s6, s7, s8⟩ := hSw); (first | (go_simp; done) | (go_simp; with_reducible rfl))
            try simp only [Act.put, List.setIfInBounds_toArray, List.set_cons_zero, List.set_cons_succ]
            refine takeZ (i := 1) (oi := { dst := some 45, op := Go.Op.move (Go.Operand.tmp 2), type := 22, pos := _, after := _, guard := none }) (v := ?_) rfl (by kernel_rfl) (by kernel_rfl) (by kernel_rfl) (by kernel_rfl) (fun _ _ _ h => h) (Or.inl ⟨by rfl, ?_⟩) (by assumption) ?_
            rotate_left
            · intro w hSw; (try dsimp only at hSw); (try obtain ⟨s0, s1, s2, s3, s4, s5, s6, s7, s8⟩ := hSw); (first | (go_simp; done) | (go_simp; with_reducible rfl))
            try simp only [Act.put, List.setIfInBounds_toArray, List.set_cons_zero, List.set_cons_succ]
            refine takeZ (i := 2) (oi := { dst := some 46, op := Go.Op.move (Go.Operand.tmp 8), type := 3, pos := _, after := _, guard := none }) (v := ?_) rfl (by kernel_rfl) (by kernel_rfl) (by kernel_rfl) (by kernel_rfl) (fun _ _ _ h => h) (Or.inl ⟨by rfl, ?_⟩) (by assumption) ?_
            rotate_left
            · intro w hSw; (try dsimp only at hSw); (try obtain ⟨s0, s1, s2, s3, s4, s5, s6, s7, s8⟩ := hSw); (first | (go_simp; done) | (go_simp; with_reducible rfl))
            try simp only [Act.put, List.setIfInBounds_toArray, List.set_cons_zero, List.set_cons_succ]
            refine takeZ (i := 3) (oi := { dst := some 47, op := Go.Op.binOp Go.BinOp.sub 3 (Go.Operand.tmp 46) (Go.Operand.const (Go.Value.int Go.IntKind.i64 1)) 3, type := 3, pos := _, after := _, guard := none }) (v := ?_) rfl (by kernel_rfl) (by kernel_rfl) (by kernel_rfl) (by kernel_rfl) (fun _ _ _ h => h) (Or.inl ⟨by rfl, ?_⟩) (by assumption) ?_
            rotate_left
            · intro w hSw; (try dsimp only at hSw); (try obtain ⟨s0, s1, s2, s3, s4, s5, s6, s7, s8⟩ := hSw); (first | (go_simp; done) | (go_simp; with_reducible rfl))
            try simp only [Act.put, List.setIfInBounds_toArray, List.set_cons_zero, List.set_cons_succ]
            refine takeZ (i := 4) (oi := { dst := some 48, op := Go.Op.indexAddr 22 (Go.Operand.tmp 45) (Go.Operand.tmp 47), type := 0, pos := _, after := _, guard := none }) (v := ?_) rfl (by kernel_rfl) (by kernel_rfl) (by kernel_rfl) (by kernel_rfl) (fun _ _ _ h => h) (Or.inl ⟨by rfl, ?_⟩) (by assumption) ?_
            rotate_left
            · intro w hSw; (try dsimp only at hSw); (try obtain ⟨s0, s1, s2, s3, s4, s5, s6, s7, s8⟩ := hSw); (first | (go_simp; done) | (go_simp; with_reducible rfl))
            try simp only [Act.put, List.setIfInBounds_toArray, List.set_cons_zero, List.set_cons_succ]
            refine takeZ (i := 5) (oi := { dst := some 49, op := Go.Op.fieldAddr 24 (Go.Operand.tmp 48) 2, type := 0, pos := _, after := _, guard := none }) (v := ?_) rfl (by kernel_rfl) (by kernel_rfl) (by kernel_rfl) (by kernel_rfl) (fun _ _ _ h => h) (Or.inl ⟨by rfl, ?_⟩) (by assumption) ?_
            rotate_left
            · intro w hSw; (try dsimp only at hSw); (try obtain ⟨s0, s1, s2, s3, s4, s5, s6, s7, s8⟩ := hSw); (first | (go_simp; done) | (go_simp; with_reducible rfl))
            try simp only [Act.put, List.setIfInBounds_toArray, List.set_cons_zero, List.set_cons_succ]
            refine takeZ (i := 6) (oi := { dst := some 50, op := Go.Op.load 9 (Go.Operand.tmp 49), type := 9, pos := _, after := _, guard := none }) (v := ?_) rfl (by kernel_rfl) (by kernel_rfl) (by kernel_rfl) (by kernel_rfl) (fun _ _ _ h => h) (Or.inl ⟨by rfl, ?_⟩) (by assumption) ?_
            rotate_left
            · intro w hSw; (try dsimp only at hSw); (try obtain ⟨s0, s1, s2, s3, s4, s5, s6, s7, s8⟩ := hSw); (first | (go_simp; done) | (go_simp; with_reducible rfl))
            try simp only [Act.put, List.setIfInBounds_toArray, List.set_cons_zero, List.set_cons_succ]
            refine takeZ (i := 7) (oi := { dst := some 51, op := Go.Op.move (Go.Operand.tmp 2), type := 22, pos := _, after := _, guard := none }) (v := ?_) rfl (by kernel_rfl) (by kernel_rfl) (by kernel_rfl) (by kernel_rfl) (fun _ _ _ h => h) (Or.inl ⟨by rfl, ?_⟩) (by assumption) ?_
            rotate_left
            · intro w hSw; (try dsimp only at hSw); (try obtain ⟨s0, s1, s2, s3, s4, s5, s6, s7, s8⟩ := hSw); (first | (go_simp; done) | (go_simp; with_reducible rfl))
            try simp only [Act.put, List.setIfInBounds_toArray, List.set_cons_zero, List.set_cons_succ]
            refine takeZ (i := 8) (oi := { dst := some 52, op := Go.Op.move (Go.Operand.tmp 8), type := 3, pos := _, after := _, guard := none }) (v := ?_) rfl (by kernel_rfl) (by kernel_rfl) (by kernel_rfl) (by kernel_rfl) (fun _ _ _ h => h) (Or.inl ⟨by rfl, ?_⟩) (by assumption) ?_
            rotate_left
            · intro w hSw; (try dsimp only at hSw); (try obtain ⟨s0, s1, s2, s3, s4, s5, s6, s7, s8⟩ := hSw); (first | (go_simp; done) | (go_simp; with_reducible rfl))
            try simp only [Act.put, List.setIfInBounds_toArray, List.set_cons_zero, List.set_cons_succ]
            refine takeZ (i := 9) (oi := { dst := some 53, op := Go.Op.indexAddr 22 (Go.Operand.tmp 51) (Go.Operand.tmp 52), type := 0, pos := _, after := _, guard := none }) (v := ?_) rfl (by kernel_rfl) (by kernel_rfl) (by kernel_rfl) (by kernel_rfl) (fun _ _ _ h => h) (Or.inl ⟨by rfl, ?_⟩) (by assumption) ?_
            rotate_left
            · intro w hSw; (try dsimp only at hSw); (try obtain ⟨s0, s1, s2, s3, s4, s5, s6, s7, s8⟩ := hSw); (first | (go_simp; done) | (go_simp; with_reducible rfl))
            try simp only [Act.put, List.setIfInBounds_toArray, List.set_cons_zero, List.set_cons_succ]
            refine takeZ (i := 10) (oi := { dst := some 54, op := Go.Op.load 24 (Go.Operand.tmp 53), type := 24, pos := _, after := _, guard := none }) (v := ?_) rfl (by kernel_rfl) (by kernel_rfl) (by kernel_rfl) (by kernel_rfl) (fun _ _ _ h => h) (Or.inl ⟨by rfl, ?_⟩) (by assumption) ?_
            rotate_left
            · intro w hSw; (try dsimp only at hSw); (try obtain ⟨s0, s1, s2, s3, s4, s5, s6, s7, s8⟩ := hSw); (first | (go_simp; done) | (go_simp; with_reducible rfl))
            try simp only [Act.put, List.setIfInBounds_toArray, List.set_cons_zero, List.set_cons_succ]
            refine oneZ (i := 11) (o := { dst := some 55, op := Go.Op.call { callee := Go.Callee.value (Go.Operand.func 22), args := #[Go.Operand.tmp 44, Go.Operand.tmp 50, Go.Operand.tmp 54], argTypes := #[24, 9, 24] }, type := 24, pos := _, after := _, guard := none }) (by kernel_rfl) rfl (by decide) (fun K hK => ?_)
            go_simp
            (go_at_call 22; refine KP.out.mono ?_; rintro e w7 ⟨es7, m7, A7, c7, rfl, hg7, hm7, _, _, hc7⟩; have hb7 := HMD.out.b.call hc7; have hk7 := HKEEP.out _ (HMD.out.call hc7))
            refine hK.out _ _ hk7 (fun hHeld => ?_)
            clear hK K
            try simp only [Act.put, List.setIfInBounds_toArray, List.set_cons_zero, List.set_cons_succ]
            refine lastZ (o := { dst := none, op := Go.Op.store 24 (Go.Operand.tmp 7) (Go.Operand.tmp 55), type := 0, pos := _, after := _, guard := none }) (by kernel_rfl) rfl (by kernel_rfl) (fun K hK => ?_)
            have z0 := hb7.blk.frozen 0
            have z1 := hb7.blk.frozen 1
            have z2 := hb7.blk.frozen 2
            have z3 := hb7.blk.frozen 3
            have y0 := hb7.blk.cell 0
            have y1 := hb7.blk.cell 1
            have y2 := hb7.blk.cell 2
            have y3 := hb7.blk.cell 3
            simp at y0 y1 y2 y3
            go_simp
            refine hK.out _ _ ?_
            clear hK K
            try simp only [Act.put, List.setIfInBounds_toArray, List.set_cons_zero, List.set_cons_succ]
            go_wp2_with fail
            go_roundw
            case rel => exact ⟨k + 1, m7, c7, A7, putL key t D, by omega, by go_num, keepf (HMD.out.put hr2 HKY.out HXV.out HSZ.out hg7 hm7), HSN⟩
            case measure => simp [intOf]; omega
        · have d3 : decide ((300 : Int) < ts.size) = true := by simp; omega
          go_wp2_with first
            | (go_at_call 9; refine (KS.out _ HI.out.chg).mono ?_; rintro e wq ⟨rfl, hq⟩; obtain ⟨_, _, _, _⟩ := HCE.out _ (HI.out.chg.trans hq (fun _ _ e => e)))
            | (go_at_call 14; refine (H.works _).mono ?_; rintro e wz ⟨rfl, hz⟩)
          go_ret
          exact ⟨rfl, (HI.out.chg.trans hq (fun _ _ e => e)).trans hz (fun _ _ e => e)⟩
      · rw [show decide (0 ≤ fewT t 300) = false from by simpa using hsm] at K1
        have KS := keepf K1
        clear K1
        go_wp2_with first
          | (go_at_call 9; refine (KS.out _ HI.out.chg).mono ?_; rintro e wq ⟨rfl, hq⟩)
          | (go_at_call 14; refine (H.works _).mono ?_; rintro e wz ⟨rfl, hz⟩)
        go_ret
        exact ⟨rfl, (HI.out.chg.trans hq (fun _ _ e => e)).trans hz (fun _ _ e => e)⟩
    · have i1 : ¬ (k : Int) < len := by omega
      obtain rfl : k = len := by omega
      have HDT := keepf (show D = dictT l from by rw [HI.out.d, ← dictF_T, HL.out])
      have HV := keepf (fun (W : World) (h : MI w W g l k m c Ad D) => (show ValIs W (.mk 7 0 ⟨#[]⟩ (dictT l)) ⟨7, 0, ⟨#[]⟩, Ad, m, c⟩ from by rw [← HDT.out]; exact h.v))
      have KDO := keepf (fun (W : World) (h : Chg NoS w W) => mk_dict (dictOf_any l A k cap W HL.out (HR.out.chg h) hnil hcap h2 (fun t ht => HS.out t (by rw [← HL.out, List.take_length]; exact ht))))
      have HSM := keepf (show s.size ≤ maxLen from by unfold maxLen; omega)
      have HEM := keepf (show (⟨#[]⟩ : ByteArray).size ≤ maxLen from by unfold maxLen; decide)
      have HN := keepf hn
      have HI2 := HI.out.call (Chg.refl NoS wr).drew
      have c0 := HI.out.held
      go_upto_region 11 with fail
      refine wp_region_held_drew (S := fun w' => w'.cell? ⟨g, 0, none⟩ = some (.int .i64 7) ∧ w'.cell? ⟨g, 1, none⟩ = some (.int .i64 0) ∧ w'.cell? ⟨g, 2, none⟩ = some (.string ⟨#[]⟩) ∧ w'.cell? ⟨g, 3, none⟩ = some (.slice Ad m c)) (by kernel_rfl) c0 (fun hHeld => ?_)
      clear c0
      refine wpAnyH_take (i := 0) (oi := { dst := some 56, op := Go.Op.move (Go.Operand.tmp 0), type := 9, pos := _, after := _, guard := none }) (v := ?_) rfl (by kernel_rfl) (by kernel_rfl) (by kernel_rfl) (fun _ _ _ h => h) (Or.inl ⟨by rfl, ?_⟩) (by assumption) ?_
      rotate_left
      · intro w hSw; (try dsimp only at hSw); (first | (go_simp; done) | (go_simp; with_reducible rfl))
      try simp only [Act.put, List.setIfInBounds_toArray, List.set_cons_zero, List.set_cons_succ]
      refine wpAnyH_take (i := 2) (oi := { dst := some 58, op := Go.Op.move (Go.Operand.tmp 0), type := 9, pos := _, after := _, guard := none }) (v := ?_) rfl (by kernel_rfl) (by kernel_rfl) (by kernel_rfl) (fun _ _ _ h => h) (Or.inl ⟨by rfl, ?_⟩) (by assumption) ?_
      rotate_left
      · intro w hSw; (try dsimp only at hSw); (first | (go_simp; done) | (go_simp; with_reducible rfl))
      try simp only [Act.put, List.setIfInBounds_toArray, List.set_cons_zero, List.set_cons_succ]
      refine wpAnyH_take (i := 3) (oi := { dst := some 59, op := Go.Op.build 24 #[(0, Go.Operand.const (Go.Value.int Go.IntKind.i64 5)), (2, Go.Operand.tmp 58)], type := 24, pos := _, after := _, guard := none }) (v := ?_) rfl (by kernel_rfl) (by kernel_rfl) (by kernel_rfl) (fun _ _ _ h => h) (Or.inl ⟨by rfl, ?_⟩) (by assumption) ?_
      rotate_left
      · intro w hSw; (try dsimp only at hSw); (first | (go_simp; done) | (go_simp; with_reducible rfl))
      try simp only [Act.put, List.setIfInBounds_toArray, List.set_cons_zero, List.set_cons_succ]
      refine wpAnyH_ready (rs := [1]) (by kernel_rfl) (by simp) ?_
      refine AllReadyH.cons (o := { dst := some 57, op := Go.Op.call { callee := Go.Callee.value (Go.Operand.func 26), args := #[Go.Operand.tmp 56], argTypes := #[9] }, type := 24, pos := _, after := _, guard := none }) rfl (fun K hK => ?_) AllReadyH.nil
      go_simp
      (go_at_call 26; refine (nameOf_any s _).mono ?_; rintro e w1 ⟨rfl, hc1⟩; have hm1 := HI2.call hc1; have f1 := hm1.held)
      refine hK.out _ _ f1 (fun hHeld => ?_)
      clear hK K
      try simp only [Act.put, List.setIfInBounds_toArray, List.set_cons_zero, List.set_cons_succ]
      refine wpAnyH_ready (rs := [4]) (by kernel_rfl) (by simp) ?_
      refine AllReadyH.cons (o := { dst := some 60, op := Go.Op.call { callee := Go.Callee.value (Go.Operand.func 18), args := #[Go.Operand.tmp 57, Go.Operand.tmp 59], argTypes := #[24, 24] }, type := 4, pos := _, after := _, guard := none }) rfl (fun K hK => ?_) AllReadyH.nil
      go_simp
      (go_at_call 18; refine (mk_same (.mk 5 0 s []) 5 0 s none 0 0 5 0 s none 0 0 _ (mk_plain _ 5 0 s (by decide) (by decide) HSM.out) (mk_plain _ 5 0 s (by decide) (by decide) HSM.out)).mono ?_; rintro e w2 ⟨rfl, hc2⟩; have hm2 := hm1.call hc2; have f2 := hm2.held)
      refine hK.out _ _ f2 (fun hHeld => ?_)
      clear hK K
      try simp only [Act.put, List.setIfInBounds_toArray, List.set_cons_zero, List.set_cons_succ]
      refine wpAnyH_take (i := 5) (oi := { dst := some 61, op := Go.Op.move (Go.Operand.tmp 60), type := 4, pos := _, after := _, guard := none }) (v := ?_) rfl (by kernel_rfl) (by kernel_rfl) (by kernel_rfl) (fun _ _ _ h => h) (Or.inl ⟨by rfl, ?_⟩) (by assumption) ?_
      rotate_left
      · intro w hSw; (try dsimp only at hSw); (first | (go_simp; done) | (go_simp; with_reducible rfl))
      try simp only [Act.put, List.setIfInBounds_toArray, List.set_cons_zero, List.set_cons_succ]
      refine wpAnyH_take (i := 6) (oi := { dst := some 62, op := Go.Op.move (Go.Operand.tmp 1), type := 3, pos := _, after := _, guard := some (5, true) }) (v := ?_) rfl (by kernel_rfl) (by kernel_rfl) (by kernel_rfl) (fun _ _ _ h => h) (Or.inl ⟨by rfl, ?_⟩) (by assumption) ?_
      rotate_left
      · intro w hSw; (try dsimp only at hSw); (first | (go_simp; done) | (go_simp; with_reducible rfl))
      try simp only [Act.put, List.setIfInBounds_toArray, List.set_cons_zero, List.set_cons_succ]
      refine wpAnyH_take (i := 8) (oi := { dst := some 64, op := Go.Op.move (Go.Operand.tmp 1), type := 3, pos := _, after := _, guard := some (5, true) }) (v := ?_) rfl (by kernel_rfl) (by kernel_rfl) (by kernel_rfl) (fun _ _ _ h => h) (Or.inl ⟨by rfl, ?_⟩) (by assumption) ?_
      rotate_left
      · intro w hSw; (try dsimp only at hSw); (first | (go_simp; done) | (go_simp; with_reducible rfl))
      try simp only [Act.put, List.setIfInBounds_toArray, List.set_cons_zero, List.set_cons_succ]
      refine wpAnyH_take (i := 9) (oi := { dst := some 65, op := Go.Op.build 24 #[(0, Go.Operand.const (Go.Value.int Go.IntKind.i64 2)), (1, Go.Operand.tmp 64)], type := 24, pos := _, after := _, guard := some (5, true) }) (v := ?_) rfl (by kernel_rfl) (by kernel_rfl) (by kernel_rfl) (fun _ _ _ h => h) (Or.inl ⟨by rfl, ?_⟩) (by assumption) ?_
      rotate_left
      · intro w hSw; (try dsimp only at hSw); (first | (go_simp; done) | (go_simp; with_reducible rfl))
      try simp only [Act.put, List.setIfInBounds_toArray, List.set_cons_zero, List.set_cons_succ]
      refine wpAnyH_ready (rs := [7]) (by kernel_rfl) (by simp) ?_
      refine AllReadyH.cons (o := { dst := some 63, op := Go.Op.call { callee := Go.Callee.value (Go.Operand.func 27), args := #[Go.Operand.tmp 62], argTypes := #[3] }, type := 24, pos := _, after := _, guard := some (5, true) }) rfl (fun K hK => ?_) AllReadyH.nil
      go_simp
      (go_at_call 27; refine (intOf_any n _).mono ?_; rintro e w3 ⟨rfl, hc3⟩; have hm3 := hm2.call hc3; have f3 := hm3.held)
      refine hK.out _ _ f3 (fun hHeld => ?_)
      clear hK K
      try simp only [Act.put, List.setIfInBounds_toArray, List.set_cons_zero, List.set_cons_succ]
      refine wpAnyH_ready (rs := [10]) (by kernel_rfl) (by simp) ?_
      refine AllReadyH.cons (o := { dst := some 66, op := Go.Op.call { callee := Go.Callee.value (Go.Operand.func 18), args := #[Go.Operand.tmp 63, Go.Operand.tmp 65], argTypes := #[24, 24] }, type := 4, pos := _, after := _, guard := some (5, true) }) rfl (fun K hK => ?_) AllReadyH.nil
      go_simp
      (go_at_call 18; refine (mk_same (.mk 2 n ⟨#[]⟩ []) 2 n ⟨#[]⟩ none 0 0 2 n ⟨#[]⟩ none 0 0 _ (mk_plain _ 2 n ⟨#[]⟩ (by decide) HN.out HEM.out) (mk_plain _ 2 n ⟨#[]⟩ (by decide) HN.out HEM.out)).mono ?_; rintro e w4 ⟨rfl, hc4⟩; have hm4 := hm3.call hc4; have f4 := hm4.held)
      refine hK.out _ _ f4 (fun hHeld => ?_)
      clear hK K
      try simp only [Act.put, List.setIfInBounds_toArray, List.set_cons_zero, List.set_cons_succ]
      refine wpAnyH_take (i := 11) (oi := { dst := some 67, op := Go.Op.pick (Go.Operand.tmp 61) (Go.Operand.tmp 66) (Go.Operand.const (Go.Value.bool false)), type := 4, pos := _, after := _, guard := none }) (v := ?_) rfl (by kernel_rfl) (by kernel_rfl) (by kernel_rfl) (fun _ _ _ h => h) (Or.inl ⟨by rfl, ?_⟩) (by assumption) ?_
      rotate_left
      · intro w hSw; (try dsimp only at hSw); (first | (go_simp; done) | (go_simp; with_reducible rfl))
      try simp only [Act.put, List.setIfInBounds_toArray, List.set_cons_zero, List.set_cons_succ]
      refine wpAnyH_take (i := 12) (oi := { dst := some 68, op := Go.Op.move (Go.Operand.tmp 67), type := 4, pos := _, after := _, guard := none }) (v := ?_) rfl (by kernel_rfl) (by kernel_rfl) (by kernel_rfl) (fun _ _ _ h => h) (Or.inl ⟨by rfl, ?_⟩) (by assumption) ?_
      rotate_left
      · intro w hSw; (try dsimp only at hSw); (first | (go_simp; done) | (go_simp; with_reducible rfl))
      try simp only [Act.put, List.setIfInBounds_toArray, List.set_cons_zero, List.set_cons_succ]
      refine wpAnyH_take (i := 13) (oi := { dst := some 69, op := Go.Op.move (Go.Operand.tmp 1), type := 3, pos := _, after := _, guard := some (12, true) }) (v := ?_) rfl (by kernel_rfl) (by kernel_rfl) (by kernel_rfl) (fun _ _ _ h => h) (Or.inl ⟨by rfl, ?_⟩) (by assumption) ?_
      rotate_left
      · intro w hSw; (try dsimp only at hSw); (first | (go_simp; done) | (go_simp; with_reducible rfl))
      try simp only [Act.put, List.setIfInBounds_toArray, List.set_cons_zero, List.set_cons_succ]
      refine wpAnyH_take (i := 15) (oi := { dst := some 71, op := Go.Op.move (Go.Operand.tmp 1), type := 3, pos := _, after := _, guard := some (12, true) }) (v := ?_) rfl (by kernel_rfl) (by kernel_rfl) (by kernel_rfl) (fun _ _ _ h => h) (Or.inl ⟨by rfl, ?_⟩) (by assumption) ?_
      rotate_left
      · intro w hSw; (try dsimp only at hSw); (first | (go_simp; done) | (go_simp; with_reducible rfl))
      try simp only [Act.put, List.setIfInBounds_toArray, List.set_cons_zero, List.set_cons_succ]
      refine wpAnyH_take (i := 16) (oi := { dst := some 72, op := Go.Op.build 24 #[(0, Go.Operand.const (Go.Value.int Go.IntKind.i64 8)), (1, Go.Operand.tmp 71)], type := 24, pos := _, after := _, guard := some (12, true) }) (v := ?_) rfl (by kernel_rfl) (by kernel_rfl) (by kernel_rfl) (fun _ _ _ h => h) (Or.inl ⟨by rfl, ?_⟩) (by assumption) ?_
      rotate_left
      · intro w hSw; (try dsimp only at hSw); (first | (go_simp; done) | (go_simp; with_reducible rfl))
      try simp only [Act.put, List.setIfInBounds_toArray, List.set_cons_zero, List.set_cons_succ]
      refine wpAnyH_ready (rs := [14]) (by kernel_rfl) (by simp) ?_
      refine AllReadyH.cons (o := { dst := some 70, op := Go.Op.call { callee := Go.Callee.value (Go.Operand.func 28), args := #[Go.Operand.tmp 69], argTypes := #[3] }, type := 24, pos := _, after := _, guard := some (12, true) }) rfl (fun K hK => ?_) AllReadyH.nil
      go_simp
      (go_at_call 28; refine (refTo_any n _).mono ?_; rintro e w5 ⟨rfl, hc5⟩; have hm5 := hm4.call hc5; have f5 := hm5.held)
      refine hK.out _ _ f5 (fun hHeld => ?_)
      clear hK K
      try simp only [Act.put, List.setIfInBounds_toArray, List.set_cons_zero, List.set_cons_succ]
      refine wpAnyH_ready (rs := [17]) (by kernel_rfl) (by simp) ?_
      refine AllReadyH.cons (o := { dst := some 73, op := Go.Op.call { callee := Go.Callee.value (Go.Operand.func 18), args := #[Go.Operand.tmp 70, Go.Operand.tmp 72], argTypes := #[24, 24] }, type := 4, pos := _, after := _, guard := some (12, true) }) rfl (fun K hK => ?_) AllReadyH.nil
      go_simp
      (go_at_call 18; refine (mk_same (.mk 8 n ⟨#[]⟩ []) 8 n ⟨#[]⟩ none 0 0 8 n ⟨#[]⟩ none 0 0 _ (mk_plain _ 8 n ⟨#[]⟩ (by decide) HN.out HEM.out) (mk_plain _ 8 n ⟨#[]⟩ (by decide) HN.out HEM.out)).mono ?_; rintro e w6 ⟨rfl, hc6⟩; have hm6 := hm5.call hc6; have f6 := hm6.held)
      refine hK.out _ _ f6 (fun hHeld => ?_)
      clear hK K
      try simp only [Act.put, List.setIfInBounds_toArray, List.set_cons_zero, List.set_cons_succ]
      refine wpAnyH_take (i := 18) (oi := { dst := some 74, op := Go.Op.pick (Go.Operand.tmp 68) (Go.Operand.tmp 73) (Go.Operand.const (Go.Value.bool false)), type := 4, pos := _, after := _, guard := none }) (v := ?_) rfl (by kernel_rfl) (by kernel_rfl) (by kernel_rfl) (fun _ _ _ h => h) (Or.inl ⟨by rfl, ?_⟩) (by assumption) ?_
      rotate_left
      · intro w hSw; (try dsimp only at hSw); (first | (go_simp; done) | (go_simp; with_reducible rfl))
      try simp only [Act.put, List.setIfInBounds_toArray, List.set_cons_zero, List.set_cons_succ]
      refine wpAnyH_take (i := 19) (oi := { dst := some 75, op := Go.Op.move (Go.Operand.tmp 74), type := 4, pos := _, after := _, guard := none }) (v := ?_) rfl (by kernel_rfl) (by kernel_rfl) (by kernel_rfl) (fun _ _ _ h => h) (Or.inl ⟨by rfl, ?_⟩) (by assumption) ?_
      rotate_left
      · intro w hSw; (try dsimp only at hSw); (first | (go_simp; done) | (go_simp; with_reducible rfl))
      try simp only [Act.put, List.setIfInBounds_toArray, List.set_cons_zero, List.set_cons_succ]
      refine wpAnyH_take (i := 20) (oi := { dst := some 76, op := Go.Op.move (Go.Operand.tmp 2), type := 22, pos := _, after := _, guard := some (19, true) }) (v := ?_) rfl (by kernel_rfl) (by kernel_rfl) (by kernel_rfl) (fun _ _ _ h => h) (Or.inl ⟨by rfl, ?_⟩) (by assumption) ?_
      rotate_left
      · intro w hSw; (try dsimp only at hSw); (first | (go_simp; done) | (go_simp; with_reducible rfl))
      try simp only [Act.put, List.setIfInBounds_toArray, List.set_cons_zero, List.set_cons_succ]
      refine wpAnyH_take (i := 22) (oi := { dst := some 78, op := Go.Op.load 24 (Go.Operand.tmp 7), type := 24, pos := _, after := _, guard := some (19, true) }) (v := ?_) rfl (by kernel_rfl) (by kernel_rfl) (by kernel_rfl) (fun _ _ _ h => h) (Or.inl ⟨by rfl, ?_⟩) (by assumption) ?_
      rotate_left
      · intro w hSw; (try dsimp only at hSw); (first | (go_simp; done) | (go_simp; with_reducible rfl))
      try simp only [Act.put, List.setIfInBounds_toArray, List.set_cons_zero, List.set_cons_succ]
      refine wpAnyH_ready (rs := [21]) (by kernel_rfl) (by simp) ?_
      refine AllReadyH.cons (o := { dst := some 77, op := Go.Op.call { callee := Go.Callee.value (Go.Operand.func 29), args := #[Go.Operand.tmp 76], argTypes := #[22] }, type := 24, pos := _, after := _, guard := some (19, true) }) rfl (fun K hK => ?_) AllReadyH.nil
      go_simp
      (go_at_call 29; refine (KDO.out _ hm6.chg).mono ?_; rintro e w7 ⟨A9, len9, cap9, rfl, hv9, hc7⟩; have hm7 := hm6.call hc7; have f7 := hm7.held)
      refine hK.out _ _ f7 (fun hHeld => ?_)
      clear hK K
      try simp only [Act.put, List.setIfInBounds_toArray, List.set_cons_zero, List.set_cons_succ]
      refine wpAnyH_ready (rs := [23]) (by kernel_rfl) (by simp) ?_
      refine AllReadyH.cons (o := { dst := some 79, op := Go.Op.call { callee := Go.Callee.value (Go.Operand.func 18), args := #[Go.Operand.tmp 77, Go.Operand.tmp 78], argTypes := #[24, 24] }, type := 4, pos := _, after := _, guard := some (19, true) }) rfl (fun K hK => ?_) AllReadyH.nil
      go_simp
      (go_at_call 18; refine (mk_same (.mk 7 0 ⟨#[]⟩ (dictT l)) 7 0 ⟨#[]⟩ A9 len9 cap9 7 0 ⟨#[]⟩ Ad m c _ hv9 (HV.out _ hm7)).mono ?_; rintro e w8 ⟨rfl, hc8⟩; have hm8 := hm7.call hc8; have f8 := hm8.held)
      refine hK.out _ _ f8 (fun hHeld => ?_)
      clear hK K
      try simp only [Act.put, List.setIfInBounds_toArray, List.set_cons_zero, List.set_cons_succ]
      refine wpAnyH_take (i := 24) (oi := { dst := some 80, op := Go.Op.pick (Go.Operand.tmp 75) (Go.Operand.tmp 79) (Go.Operand.const (Go.Value.bool false)), type := 4, pos := _, after := _, guard := none }) (v := ?_) rfl (by kernel_rfl) (by kernel_rfl) (by kernel_rfl) (fun _ _ _ h => h) (Or.inl ⟨by rfl, ?_⟩) (by assumption) ?_
      rotate_left
      · intro w hSw; (try dsimp only at hSw); (first | (go_simp; done) | (go_simp; with_reducible rfl))
      try simp only [Act.put, List.setIfInBounds_toArray, List.set_cons_zero, List.set_cons_succ]
      refine wpAnyH_take (i := 25) (oi := { dst := some 81, op := Go.Op.move (Go.Operand.tmp 80), type := 4, pos := _, after := _, guard := none }) (v := ?_) rfl (by kernel_rfl) (by kernel_rfl) (by kernel_rfl) (fun _ _ _ h => h) (Or.inl ⟨by rfl, ?_⟩) (by assumption) ?_
      rotate_left
      · intro w hSw; (try dsimp only at hSw); (first | (go_simp; done) | (go_simp; with_reducible rfl))
      try simp only [Act.put, List.setIfInBounds_toArray, List.set_cons_zero, List.set_cons_succ]
      refine wpAnyH_ready (rs := [26]) (by kernel_rfl) (by simp) ?_
      refine AllReadyH.cons (o := { dst := some 82, op := Go.Op.call { callee := Go.Callee.value (Go.Operand.func 14), args := #[], argTypes := #[] }, type := 4, pos := _, after := _, guard := some (25, true) }) rfl (fun K hK => ?_) AllReadyH.nil
      go_simp
      (go_at_call 14; refine (H.works _).mono ?_; rintro e w9 ⟨rfl, hc9⟩; have hm9 := hm8.call hc9; have f9 := hm9.held)
      refine hK.out _ _ f9 (fun hHeld => ?_)
      clear hK K
      try simp only [Act.put, List.setIfInBounds_toArray, List.set_cons_zero, List.set_cons_succ]
      refine wpAnyH_take (i := 27) (oi := { dst := some 83, op := Go.Op.pick (Go.Operand.tmp 81) (Go.Operand.tmp 82) (Go.Operand.const (Go.Value.bool false)), type := 4, pos := _, after := _, guard := none }) (v := ?_) rfl (by kernel_rfl) (by kernel_rfl) (by kernel_rfl) (fun _ _ _ h => h) (Or.inl ⟨by rfl, ?_⟩) (by assumption) ?_
      rotate_left
      · intro w hSw; (try dsimp only at hSw); (first | (go_simp; done) | (go_simp; with_reducible rfl))
      try simp only [Act.put, List.setIfInBounds_toArray, List.set_cons_zero, List.set_cons_succ]
      refine wpAnyH_take (i := 28) (oi := { dst := some 6, op := Go.Op.assign (Go.Operand.tmp 83), type := 4, pos := _, after := _, guard := none }) (v := ?_) rfl (by kernel_rfl) (by kernel_rfl) (by kernel_rfl) (fun _ _ _ h => h) (Or.inl ⟨by rfl, ?_⟩) (by assumption) ?_
      rotate_left
      · intro w hSw; (try dsimp only at hSw); (first | (go_simp; done) | (go_simp; with_reducible rfl))
      try simp only [Act.put, List.setIfInBounds_toArray, List.set_cons_zero, List.set_cons_succ]
      refine wpAnyH_done (by kernel_rfl) ?_ _
      go_wp2_with fail
      go_ret
      exact ⟨rfl, hm9.chg⟩
theorem makesW (H : ValOk) (s : ByteArray) (n : Int) (A : Option Addr) (len cap : Nat) (l : List VT) (w : World) (hr : VRow w A len cap l) (hn : -9223372036854775808 ≤ n ∧ n ≤ 9223372036854775807) :
    Calls Try.prog 8 #[.string s, .int .i64 n, .slice A len cap] w fun e w' => e = .returned (.bool true) ∧ Chg NoS w w' := by
  by_cases h1 : s.size ≤ 300
  · by_cases h2 : len ≤ 40
    · exact makes_yes H s n A len cap l w hr hn h1 h2
    · exact makes_no2 H s n A len cap l w hr h1 h2
  · exact makes_no1 H s n A len cap l w hr h1
end Go.Proofs.Ytjbjfoingpnlmaa
