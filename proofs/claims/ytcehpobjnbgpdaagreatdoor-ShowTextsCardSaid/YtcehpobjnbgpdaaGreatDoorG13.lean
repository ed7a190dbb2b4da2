/- Merged by program: ShV NLib RPrt NPad NChk. -/
import Derived.Test.YtcehpobjnbgpdaaGreatDoorG01
import Derived.Test.YtcehpobjnbgpdaaGreatDoorG03
import Derived.Test.YtcehpobjnbgpdaaGreatDoorG11
import Derived.Test.YtcehpobjnbgpdaaGreatDoorProg
import Derived.Lib.LaidTab
import Derived.Lib.ItoaNum
import Derived.Lib.Repeat
import Derived.Sort.Grow
import Derived.Test.YtcehpobjnbgpdaaGreatDoorShelf
import Derived.WalkMore
import Derived.Deep.RegionHeld3
/- Forms of values: plain mathematics, no program: what is written of a value is read as it. -/
namespace Go.Proofs.YtcehpobjnbgpdaaGreatDoor
set_option linter.unusedVariables false
set_option linter.unusedSimpArgs false

mutual
/-- A value's form. -/
def formT : VT → List Nat
  | .mk k n s l =>
    if k = 0 then [110, 117, 108, 108]
    else if k = 1 then (if n = 1 then [116, 114, 117, 101] else [102, 97, 108, 115, 101])
    else if k = 2 then intTxt n
    else if k = 3 then realTxt n
    else if k = 4 then txF (sl s)
    else if k = 5 then nmF (sl s)
    else if k = 8 then intTxt n ++ [32, 48, 32, 82]
    else if k = 6 then 91 :: (formL 0 l ++ [93])
    else 60 :: 60 :: (formL 0 l ++ [62, 62])
/-- Forms behind one another: so many spaces ahead of the first, one ahead of each other. -/
def formL : Nat → List VT → List Nat
  | _, [] => []
  | j, t :: l => List.replicate j 32 ++ (formT t ++ formL 1 l)
end

theorem formL_nil (j : Nat) : formL j [] = [] := by rw [formL]

theorem formL_cons (j : Nat) (t : VT) (l : List VT) : formL j (t :: l) = List.replicate j 32 ++ (formT t ++ formL 1 l) := by rw [formL]

theorem form_0 (n : Int) (s : ByteArray) (l : List VT) : formT (.mk 0 n s l) = [110, 117, 108, 108] := by rw [formT]; rfl

theorem form_1 (n : Int) (s : ByteArray) (l : List VT) : formT (.mk 1 n s l) = if n = 1 then [116, 114, 117, 101] else [102, 97, 108, 115, 101] := by rw [formT]; rfl

theorem form_2 (n : Int) (s : ByteArray) (l : List VT) : formT (.mk 2 n s l) = intTxt n := by rw [formT]; rfl

theorem form_3 (n : Int) (s : ByteArray) (l : List VT) : formT (.mk 3 n s l) = realTxt n := by rw [formT]; rfl

theorem form_4 (n : Int) (s : ByteArray) (l : List VT) : formT (.mk 4 n s l) = txF (sl s) := by rw [formT]; rfl

theorem form_5 (n : Int) (s : ByteArray) (l : List VT) : formT (.mk 5 n s l) = nmF (sl s) := by rw [formT]; rfl

theorem form_6 (n : Int) (s : ByteArray) (l : List VT) : formT (.mk 6 n s l) = 91 :: (formL 0 l ++ [93]) := by rw [formT]; rfl

theorem form_7 (n : Int) (s : ByteArray) (l : List VT) : formT (.mk 7 n s l) = 60 :: 60 :: (formL 0 l ++ [62, 62]) := by rw [formT]; rfl

theorem form_8 (n : Int) (s : ByteArray) (l : List VT) : formT (.mk 8 n s l) = intTxt n ++ [32, 48, 32, 82] := by rw [formT]; rfl

/-- No R stands here. -/
def NR (r : Int × Tkn) : Prop := r.1 ≠ 6 ∧ (r.2.kind ≠ 6 ∨ sb r.2.s ≠ ⟨#[82]⟩)

/-- A whole number ahead of this place begins no reference. -/
def ClearR (bs : List Nat) (q : Nat) : Prop := NR (nextO bs q true) ∧ ((nextO bs q true).2.vk = 2 → NR (nextO bs (nextO bs q true).2.to true))

theorem ref_clear {bs : List Nat} {t : Tkn} (hk : t.vk = 2) (h : ClearR bs t.to) : refO bs true t = (0, tokV t, t.to) := by
  obtain ⟨h1, h2⟩ := h
  unfold refO
  rw [if_neg (fun e => e hk)]
  have ht : NR (thirdO bs true (nextO bs t.to true)) := by
    unfold thirdO
    split
    · next e => exact h2 e
    · exact ⟨h1.1, .inl (by show (0 : Nat) ≠ 6; decide)⟩
  rw [if_neg ht.1, if_pos ht.2]

theorem clear_of {bs : List Nat} {q : Nat} {u : Tkn} (h : nextO bs q true = (0, u)) (hk : u.kind ≠ 6 ∨ sb u.s ≠ ⟨#[82]⟩) (h2 : u.vk = 2 → NR (nextO bs u.to true)) : ClearR bs q := by
  unfold ClearR
  rw [h]
  exact ⟨⟨by show (0 : Int) ≠ 6; decide, hk⟩, h2⟩

theorem drop_past {bs A B : List Nat} {p q : Nat} (h : bs.drop p = A ++ B) (hq : q = p + A.length) : bs.drop q = B := by
  rw [hq, ← List.drop_drop, h]
  exact List.drop_left' rfl

theorem drop_in {bs A : List Nat} {p c : Nat} (h : bs.drop p = A) (hc : c ∈ A) : p ≤ bs.length := by
  rcases Nat.lt_or_ge bs.length p with h1 | h1
  · rw [List.drop_of_length_le (by omega)] at h
    rw [← h] at hc
    cases hc
  · exact h1

theorem ends_32 (l : List Nat) : endsR (32 :: l) := fun c m e => by cases e; rfl

theorem ends_93 (l : List Nat) : endsR (93 :: l) := fun c m e => by cases e; rfl

theorem ends_62 (l : List Nat) : endsR (62 :: l) := fun c m e => by cases e; rfl

theorem ends_L {l : List VT} {m : List Nat} (h : endsR m) : endsR (formL 1 l ++ m) := by
  cases l with
  | nil => rw [formL_nil]; exact h
  | cons t l => rw [formL_cons]; exact ends_32 _

/-- What stands of a value is read as it. -/
def PT (bs : List Nat) (t : VT) : Prop := ∀ (deep p j : Nat) (rest : List Nat), firstT t = 0 → depthT t + deep ≤ 64 → bs.drop p = List.replicate j 32 ++ (formT t ++ rest) → endsR rest → ClearR bs (p + j + (formT t).length) →
  ∃ u, nextO bs p true = (0, u) ∧ Reads bs true deep u t (p + j + (formT t).length) ∧ ClearR bs p

theorem form_elems {bs : List Nat} : ∀ (l : List VT), (∀ t ∈ l, PT bs t) → ∀ (deep p j : Nat) (rest : List Nat), (∀ t ∈ l, firstT t = 0) → (∀ t ∈ l, depthT t + deep ≤ 64) → bs.drop p = formL j l ++ 93 :: rest →
    Elems bs true deep p l (p + (formL j l).length + 1) ∧ ClearR bs p := by
  intro l
  induction l with
  | nil =>
    intro _ deep p j rest _ _ hb
    rw [formL_nil, List.nil_append] at hb
    have hn : nextO bs p true = (0, ⟨3, p, p + 1, 0, 0, [], []⟩) := by
      rw [next_at (j := 0) (by rw [hb]; rfl) (by decide) (by decide)]
      rfl
    have hp := drop_in hb (List.mem_cons_self ..)
    refine ⟨?_, clear_of hn (.inl (by show (3 : Nat) ≠ 6; decide)) (fun e => by cases e)⟩
    rw [formL_nil]
    exact .nil hp hn rfl
  | cons t l ih =>
    intro hP deep p j rest hf hd hb
    rw [formL_cons, List.append_assoc, List.append_assoc] at hb
    have hq : bs.drop (p + j + (formT t).length) = formL 1 l ++ 93 :: rest := drop_past (A := List.replicate j 32 ++ formT t) (by rw [hb, List.append_assoc]) (by rw [List.length_append, List.length_replicate, Nat.add_assoc])
    obtain ⟨h1, h2⟩ := ih (fun x hx => hP x (List.mem_cons_of_mem _ hx)) deep _ 1 rest (fun x hx => hf x (List.mem_cons_of_mem _ hx)) (fun x hx => hd x (List.mem_cons_of_mem _ hx)) hq
    obtain ⟨u, k1, k2, k3⟩ := hP t (List.mem_cons_self ..) deep p j _ (hf t (List.mem_cons_self ..)) (hd t (List.mem_cons_self ..)) hb (ends_L (ends_93 rest)) h2
    have hp : p ≤ bs.length := drop_in hb (c := 93) (by simp)
    refine ⟨?_, k3⟩
    have := Elems.cons hp k1 k2 h1
    have e : p + (formL j (t :: l)).length + 1 = p + j + (formT t).length + (formL 1 l).length + 1 := by rw [formL_cons]; simp only [List.length_append, List.length_replicate]; omega
    rw [e]
    exact this

theorem name_is {t : VT} (hk : t.kind = 5) (h : firstT t = 0) : t = nmT t.str ∧ textO t.str := by
  obtain ⟨k, n, s, l⟩ := t
  have hk : k = 5 := hk
  subst hk
  rw [firstT_mk] at h
  have h0 : ownO 5 n s l = 0 := by
    by_cases h0 : ownO 5 n s l = 0
    · exact h0
    · rw [if_pos h0] at h; exact h
  rw [own_5] at h0
  split at h0
  · cases h0
  · next ht =>
    split at h0
    · next hn =>
      refine ⟨?_, Decidable.not_not.1 ht⟩
      show VT.mk 5 n s l = .mk 5 0 s []
      rw [hn.1, List.length_eq_zero_iff.1 hn.2]
    · cases h0

theorem name_tok {bs rest : List Nat} {p j : Nat} {s : ByteArray} (hs : textO s) (hb : bs.drop p = List.replicate j 32 ++ (formT (nmT s) ++ rest)) (hr : endsR rest) :
    ∃ u, nextO bs p true = (0, u) ∧ u.kind = 1 ∧ u.vk = 5 ∧ u.vn = 0 ∧ sb u.vs = s ∧ u.to = p + j + (formT (nmT s)).length := by
  have hf : formT (nmT s) = 47 :: nmL (sl s) := form_5 0 s []
  rw [hf] at hb ⊢
  have hn := next_at (last := true) (l := nmL (sl s) ++ rest) hb (by decide) (by decide)
  have ht := tok_nm (p + j) (sl s) rest (sl_lt s) hs.1 (by rw [sl_len]; exact hs.2) hr
  rw [ht] at hn
  exact ⟨_, hn, rfl, rfl, rfl, sb_sl s, by simp only [List.length_cons]; omega⟩

theorem form_names {bs : List Nat} : ∀ (N : Nat) (l : List VT), l.length ≤ N → (∀ t ∈ l, PT bs t) → ∀ (lo : Option ByteArray) (acc : List VT) (deep p j : Nat) (rest : List Nat), okD lo l → (∀ key, (∀ s, lo = some s → Op.bytesLess s.toList key.toList = true) → lowL key acc) → dictT acc = acc → acc.length % 2 = 0 → deep ≤ 64 → (∀ t ∈ l, firstT t = 0) → (∀ t ∈ l, depthT t + deep ≤ 64) → bs.drop p = formL j l ++ 62 :: 62 :: rest →
    Names bs true deep p acc (acc ++ l) (p + (formL j l).length + 2) ∧ ClearR bs p ∧ dictT (acc ++ l) = acc ++ l := by
  intro N
  induction N using Nat.strongRecOn with
  | _ N ih =>
    intro l hN hP lo acc deep p j rest hok hlow hdt hev hdp hf hd hb
    match l, hok with
    | [], _ =>
      rw [formL_nil, List.nil_append] at hb
      have hn : nextO bs p true = (0, ⟨5, p, p + 2, 0, 0, [], []⟩) := by
        rw [next_at (j := 0) (by rw [hb]; rfl) (by decide) (by decide)]
        rfl
      have hp := drop_in hb (List.mem_cons_self ..)
      refine ⟨?_, clear_of hn (.inl (by show (5 : Nat) ≠ 6; decide)) (fun e => by cases e), by rw [List.append_nil]; exact hdt⟩
      rw [formL_nil, List.append_nil]
      exact .nil hp hn rfl
    | [_], hok => exact hok.elim
    | t :: v :: l, hok =>
      have ft := hf t (List.mem_cons_self ..)
      have mv : v ∈ t :: v :: l := List.mem_cons_of_mem _ (List.mem_cons_self ..)
      obtain ⟨et, htx⟩ := name_is hok.1 ft
      obtain ⟨key, hkey⟩ : ∃ key, key = t.str := ⟨_, rfl⟩
      rw [← hkey] at et htx
      subst et
      rw [formL_cons, formL_cons, List.append_assoc, List.append_assoc] at hb
      have hb2 : bs.drop (p + j + (formT (nmT key)).length) = List.replicate 1 32 ++ (formT v ++ (formL 1 l ++ 62 :: 62 :: rest)) := by
        refine drop_past (A := List.replicate j 32 ++ formT (nmT key)) ?_ (by rw [List.length_append, List.length_replicate, Nat.add_assoc])
        rw [hb]
        simp only [List.append_assoc]
      have hb3 : bs.drop (p + j + (formT (nmT key)).length + 1 + (formT v).length) = formL 1 l ++ 62 :: 62 :: rest := drop_past (A := List.replicate 1 32 ++ formT v) (by rw [hb2, List.append_assoc]) (by rw [List.length_append, List.length_replicate, Nat.add_assoc])
      obtain ⟨u, k1, k2, k3, k4, k5, k6⟩ := name_tok htx hb (by rw [List.append_assoc]; exact ends_32 _)
      have hl0 : lowL key acc := hlow key (fun s hs => by rw [hkey]; exact hok.2.1 s hs)
      have hno : findL (sb u.vs) (dictT acc) = none := by rw [k5, hdt]; exact low_find acc hl0
      have htv : tokV u = nmT key := by
        unfold tokV nmT
        rw [k3, k4, k5]
        rfl
      have hd2 : dictT (acc ++ [nmT key, v]) = acc ++ [nmT key, v] := by
        rw [dictT_snoc hev, hdt]
        exact low_put hl0
      obtain ⟨r1, r2, r3⟩ := ih (N - 2) (by simp only [List.length_cons] at hN; omega) l (by simp only [List.length_cons] at hN; omega) (fun x hx => hP x (List.mem_cons_of_mem _ (List.mem_cons_of_mem _ hx))) (some key) (acc ++ [nmT key, v]) deep _ 1 rest (by rw [hkey]; exact hok.2.2)
        (fun key' h => by have h1 := h key rfl; exact low_app h1 acc (low_mono h1 acc hl0)) hd2 (by rw [List.length_append]; simp only [List.length_cons, List.length_nil]; omega) hdp (fun x hx => hf x (List.mem_cons_of_mem _ (List.mem_cons_of_mem _ hx))) (fun x hx => hd x (List.mem_cons_of_mem _ (List.mem_cons_of_mem _ hx))) hb3
      obtain ⟨u2, g1, g2, g3⟩ := hP v mv deep _ 1 _ (hf v mv) (hd v mv) hb2 (ends_L (ends_62 _)) r2
      have hp : p ≤ bs.length := drop_in hb (c := 62) (by simp)
      have hdv := hd (nmT key) (List.mem_cons_self ..)
      rw [depth_nm] at hdv
      have e : acc ++ [nmT key, v] ++ l = acc ++ nmT key :: v :: l := by simp
      rw [e] at r1 r3
      refine ⟨?_, clear_of k1 (.inl (by rw [k2]; decide)) (fun e => by rw [k3] at e; cases e), r3⟩
      have e2 : p + (formL j (nmT key :: v :: l)).length + 2 = p + j + (formT (nmT key)).length + 1 + (formT v).length + (formL 1 l).length + 2 := by rw [formL_cons, formL_cons]; simp only [List.length_append, List.length_replicate]; omega
      rw [e2]
      exact .cons hp (by omega) k1 k2 k3 hno (by rw [k6]; exact g1) g2 (by rw [htv]; exact r1)

theorem own_zero {k n : Int} {s : ByteArray} {l : List VT} (h : firstT (.mk k n s l) = 0) : ownO k n s l = 0 := by
  rw [firstT_mk] at h
  by_cases h0 : ownO k n s l = 0
  · exact h0
  · rw [if_pos h0] at h; exact h

theorem first_in {k n : Int} {s : ByteArray} {l : List VT} (hk : k = 6 ∨ k = 7) (h : firstT (.mk k n s l) = 0) : ∀ t ∈ l, firstT t = 0 := by
  have h0 := own_zero h
  rw [firstT_mk, if_neg (fun e => e h0), if_pos hk] at h
  exact firstL_zero.1 h

theorem kind_of {k n : Int} {s : ByteArray} {l : List VT} (h : ownO k n s l = 0) : k = 0 ∨ k = 1 ∨ k = 2 ∨ k = 3 ∨ k = 4 ∨ k = 5 ∨ k = 6 ∨ k = 7 ∨ k = 8 := by
  rcases Decidable.em (k = 0 ∨ k = 1 ∨ k = 2 ∨ k = 3 ∨ k = 4 ∨ k = 5 ∨ k = 6 ∨ k = 7 ∨ k = 8) with h1 | h1
  · exact h1
  · rw [ownO, if_neg (by omega), if_neg (by omega), if_neg (by omega), if_neg (by omega), if_neg (by omega), if_neg (by omega), if_neg (by omega), if_neg (by omega)] at h
    cases h

theorem word_reads {bs l rest : List Nat} {p j c deep : Nat} {v : VT} (hb : bs.drop p = List.replicate j 32 ++ (c :: l ++ rest)) (hc : c = 110 ∨ c = 116 ∨ c = 102 ∨ c = 82) (hl : ∀ d ∈ l, isRg d = true) (hr : endsR rest) (hd : deep < 64) (hw : wordO (c :: l) = (0, v)) (hne : sb (c :: l) ≠ ⟨#[82]⟩) :
    ∃ u, nextO bs p true = (0, u) ∧ Reads bs true deep u v (p + j + (c :: l).length) ∧ ClearR bs p := by
  have hn := next_at (last := true) (l := l ++ rest) hb (by rcases hc with rfl | rfl | rfl | rfl <;> decide) (by omega)
  rw [tok_wd hc hl hr] at hn
  refine ⟨_, hn, .leaf (.inl rfl) hd ?_, clear_of hn (.inr hne) (fun e => by cases e)⟩
  unfold leafO
  rw [if_pos rfl]
  show ((wordO (c :: l)).1, (wordO (c :: l)).2, p + j + 1 + l.length) = _
  rw [hw, List.length_cons]
  congr 2
  omega

theorem num_next {bs n rest : List Nat} {p j c k : Nat} {x : Int} {l : List Nat} (hb : bs.drop p = List.replicate j 32 ++ (n ++ rest)) (hn : n = c :: l) (hc : isD c ∨ c = 45) (hbs : ∀ d ∈ n, isD d ∨ d = 45 ∨ d = 46) (ho : numOf n = (0, k, x)) (hr : endsR rest) :
    nextO bs p true = (0, ⟨1, p + j, p + j + n.length, k, x, [], []⟩) := by
  have hb' : bs.drop p = List.replicate j 32 ++ c :: (l ++ rest) := by rw [hb, hn]; rfl
  have hsp : isSp c = false := by
    unfold isD at hc
    unfold isSp
    simp only [Bool.or_eq_false_iff, beq_eq_false_iff_ne]
    omega
  rw [next_at hb' hsp (by unfold isD at hc; omega)]
  exact tok_num hn hc hbs ho hr

theorem tok_reads {bs : List Nat} {p deep : Nat} {u : Tkn} (hn : nextO bs p true = (0, u)) (hk : u.kind = 1) (h2 : u.vk ≠ 2) (hd : deep < 64) : ∃ u', nextO bs p true = (0, u') ∧ Reads bs true deep u' (tokV u) u.to ∧ ClearR bs p := by
  refine ⟨u, hn, .leaf (.inr hk) hd ?_, clear_of hn (.inl (by rw [hk]; decide)) (fun e => absurd e h2)⟩
  unfold leafO refO
  rw [if_neg (by rw [hk]; decide), if_pos h2]

theorem zero_txt : numOf [48] = (0, 2, 0) := by decide

set_option maxHeartbeats 1000000 in
/-- What stands of a value that may be is read as it. -/
theorem form_reads (bs : List Nat) : ∀ (N : Nat) (t : VT), sizT t ≤ N → PT bs t := by
  intro N
  induction N using Nat.strongRecOn with
  | _ N ih =>
    intro t hN deep p j rest hf hdep hb hr hcl
    have hd : deep < 64 := by have := (depthT_le t).1; omega
    obtain ⟨k, n, s, l⟩ := t
    rw [sizT_mk] at hN
    have hin : ∀ x ∈ l, PT bs x := fun x hx => by
      obtain ⟨i, hi, rfl⟩ := List.mem_iff_getElem.1 hx
      have := sizL_at (List.getElem?_eq_getElem hi)
      exact ih (N - 1) (by omega) _ (by omega)
    have ho := own_zero hf
    rcases kind_of ho with rfl | rfl | rfl | rfl | rfl | rfl | rfl | rfl | rfl
    · rw [own_0] at ho
      split at ho
      · next h =>
        have e : VT.mk 0 n s l = nilT := by rw [h.2.2, str_nil h.1, List.length_eq_zero_iff.1 h.2.1]; rfl
        rw [form_0] at hb hcl ⊢
        rw [e]
        exact word_reads hb (by omega) (by decide) hr hd (by rfl) (by decide)
      · cases ho
    · rw [own_1] at ho
      split at ho
      · next h =>
        rw [form_1] at hb hcl ⊢
        rw [str_nil h.1, List.length_eq_zero_iff.1 h.2.1]
        by_cases h1 : n = 1
        · rw [if_pos h1] at hb ⊢
          rw [h1]
          exact word_reads hb (by omega) (by decide) hr hd (by rfl) (by decide)
        · rw [if_neg h1] at hb ⊢
          rw [show n = 0 by omega]
          exact word_reads hb (by omega) (by decide) hr hd (by rfl) (by decide)
      · cases ho
    · rw [own_2, chkOf] at ho
      split at ho
      · next h =>
        rw [form_2] at hb hcl ⊢
        have hm : n.natAbs ≤ 2147483647 := by have := h.2.2; unfold mayN at this; omega
        obtain ⟨c, m, e1, e2⟩ := int_cons n
        have hn := num_next hb e1 e2 (int_b n) (int_back n hm) hr
        refine ⟨_, hn, .leaf (.inr rfl) hd ?_, clear_of hn (.inl (by show (1 : Nat) ≠ 6; decide)) (fun _ => hcl.1)⟩
        unfold leafO
        rw [if_neg (by show ¬ (1 : Nat) = 6; decide), ref_clear rfl hcl, str_nil h.1, List.length_eq_zero_iff.1 h.2.1]
        rfl
      · cases ho
    · rw [own_3, chkOf] at ho
      split at ho
      · next h =>
        rw [form_3] at hb hcl ⊢
        have hm : n.natAbs ≤ 2147483647 * 1000000 := by have := h.2.2; unfold mayN at this; omega
        obtain ⟨c, m, e1, e2⟩ := real_cons n
        have hn := num_next hb e1 e2 (real_b n) (real_back n hm) hr
        rw [str_nil h.1, List.length_eq_zero_iff.1 h.2.1]
        exact tok_reads hn rfl (by show (3 : Nat) ≠ 2; decide) hd
      · cases ho
    · rw [own_4] at ho
      split at ho
      · next h =>
        rw [form_4] at hb hcl ⊢
        obtain ⟨c, m, e1, e2, e3⟩ := tok_tx (p + j) (sl s) rest (sl_lt s)
        rw [e1] at hb
        have hn := next_at (last := true) hb (by rcases e2 with rfl | rfl <;> decide) (by omega)
        rw [e3] at hn
        have := tok_reads hn rfl (by show (4 : Nat) ≠ 2; decide) hd
        have ev : tokV ⟨1, p + j, p + j + (txF (sl s)).length, 4, 0, sl s, []⟩ = .mk 4 n s l := by
          show VT.mk 4 0 (sb (sl s)) [] = _
          rw [sb_sl, h.1, List.length_eq_zero_iff.1 h.2]
        rw [ev] at this
        exact this
      · cases ho
    · obtain ⟨e, htx⟩ := name_is (t := .mk 5 n s l) rfl hf
      have e : VT.mk 5 n s l = nmT s := e
      rw [e] at hb hcl ⊢
      obtain ⟨u, k1, k2, k3, k4, k5, k6⟩ := name_tok htx hb hr
      have := tok_reads k1 k2 (by rw [k3]; decide) hd
      have ev : tokV u = nmT s := by unfold tokV nmT; rw [k3, k4, k5]; rfl
      rw [ev, k6] at this
      exact this
    · have ho' := ho
      rw [own_6] at ho'
      split at ho'
      · next h =>
        rw [form_6] at hb hcl ⊢
        have hdl := (depthL_iff l 1 (64 - deep)).1 (by have := hdep; rw [depthT, if_pos (.inl rfl)] at this; omega)
        have hn : nextO bs p true = (0, ⟨2, p + j, p + j + 1, 0, 0, [], []⟩) := by
          rw [next_at hb (by decide) (by decide)]
          rfl
        have hb2 : bs.drop (p + j + 1) = formL 0 l ++ 93 :: rest := by
          refine drop_past (A := List.replicate j 32 ++ [91]) ?_ (by rw [List.length_append, List.length_replicate]; rfl)
          rw [hb]
          simp
        obtain ⟨h1, h2⟩ := form_elems l hin (deep + 1) _ 0 rest (first_in (.inl rfl) hf) (fun x hx => by have := hdl.2 x hx; omega) hb2
        refine ⟨_, hn, ?_, clear_of hn (.inl (by show (2 : Nat) ≠ 6; decide)) (fun e => by cases e)⟩
        rw [h.1, str_nil h.2]
        have e : p + j + (91 :: (formL 0 l ++ [93])).length = p + j + 1 + (formL 0 l).length + 1 := by simp only [List.length_cons, List.length_append, List.length_nil]; omega
        rw [e]
        exact .arr rfl hd h1
      · cases ho'
    · have ho' := ho
      rw [own_7] at ho'
      unfold dictO at ho'
      split at ho'
      · cases ho'
      · next h =>
        split at ho'
        · next hri =>
          rw [form_7] at hb hcl ⊢
          have g1 : n = 0 := Decidable.byContradiction fun e => h (.inl e)
          have g2 : s.size = 0 := Decidable.byContradiction fun e => h (.inr (.inl e))
          have g3 : l.length % 2 = 0 := Decidable.byContradiction fun e => h (.inr (.inr (.inl e)))
          have g4 : namesO l := Classical.byContradiction fun e => h (.inr (.inr (.inr e)))
          have hok := dict_okD g3 g4 hri
          have hdl := (depthL_iff l 1 (64 - deep)).1 (by have := hdep; rw [depth_dict] at this; omega)
          have hn : nextO bs p true = (0, ⟨4, p + j, p + j + 2, 0, 0, [], []⟩) := by
            rw [next_at hb (by decide) (by decide)]
            rfl
          have hb2 : bs.drop (p + j + 2) = formL 0 l ++ 62 :: 62 :: rest := by
            refine drop_past (A := List.replicate j 32 ++ [60, 60]) ?_ (by rw [List.length_append, List.length_replicate]; rfl)
            rw [hb]
            simp
          obtain ⟨h1, h2, h3⟩ := form_names l.length l (Nat.le_refl _) hin none [] (deep + 1) _ 0 rest hok (fun key _ => trivial) (by unfold dictT; rfl) rfl (by omega) (first_in (.inr rfl) hf) (fun x hx => by have := hdl.2 x hx; omega) hb2
          rw [List.nil_append] at h1 h3
          refine ⟨_, hn, ?_, clear_of hn (.inl (by show (4 : Nat) ≠ 6; decide)) (fun e => by cases e)⟩
          have e : p + j + (60 :: 60 :: (formL 0 l ++ [62, 62])).length = p + j + 2 + (formL 0 l).length + 2 := by simp only [List.length_cons, List.length_append, List.length_nil]; omega
          rw [e, g1, str_nil g2]
          have := Reads.dict (t := ⟨4, p + j, p + j + 2, 0, 0, [], []⟩) rfl hd h1
          rw [h3] at this
          exact this
        · cases ho'
    · rw [own_8] at ho
      split at ho
      · next h =>
        rw [form_8] at hb hcl ⊢
        have hm : n.natAbs ≤ 2147483647 := by omega
        obtain ⟨c, m, e1, e2⟩ := int_cons n
        rw [List.append_assoc] at hb
        have hn := num_next hb e1 e2 (int_b n) (int_back n hm) (ends_32 _)
        have hb2 : bs.drop (p + j + (intTxt n).length) = List.replicate 1 32 ++ ([48] ++ 32 :: 82 :: rest) := by
          refine drop_past (A := List.replicate j 32 ++ intTxt n) ?_ (by rw [List.length_append, List.length_replicate, Nat.add_assoc])
          rw [hb]
          simp
        have hn2 := num_next hb2 rfl (.inl (by decide)) (by decide) zero_txt (ends_32 _)
        have hb3 : bs.drop (p + j + (intTxt n).length + 1 + 1) = List.replicate 1 32 ++ 82 :: ([] ++ rest) := by
          refine drop_past (A := [32, 48]) ?_ rfl
          rw [hb2]
          rfl
        have hn3 := next_at (last := true) hb3 (by decide) (by decide)
        rw [tok_wd (by omega) (fun d hd => by cases hd) hr] at hn3
        refine ⟨_, hn, .leaf (.inr rfl) hd ?_, clear_of hn (.inl (by show (1 : Nat) ≠ 6; decide)) (fun _ => ?_)⟩
        · unfold leafO
          rw [if_neg (by show ¬ (1 : Nat) = 6; decide)]
          have ht : thirdO bs true (nextO bs (p + j + (intTxt n).length) true) = (0, ⟨6, p + j + (intTxt n).length + 1 + 1 + 1, p + j + (intTxt n).length + 1 + 1 + 1 + 1 + 0, 0, 0, [], [82]⟩) := by
            unfold thirdO
            rw [hn2, if_pos rfl]
            exact hn3
          unfold refO
          rw [if_neg (by show ¬ (2 : Nat) ≠ 2; decide)]
          simp only [ht]
          rw [hn2]
          have eq : p + j + (intTxt n ++ [32, 48, 32, 82]).length = p + j + (intTxt n).length + 1 + 1 + 1 + 1 + 0 := by simp only [List.length_append, List.length_cons, List.length_nil]; omega
          rw [eq, if_neg (fun e : (0 : Int) = 6 => absurd e (by decide)), if_neg (fun e => e.elim (fun e => e rfl) (fun e => e rfl)), if_neg (fun e => by rcases e with e | e | e; exact absurd e (by omega); exact absurd e (by omega); exact e rfl), str_nil h.1, List.length_eq_zero_iff.1 h.2.1]
        · show NR (nextO bs (p + j + (intTxt n).length) true)
          rw [hn2]
          exact ⟨by show (0 : Int) ≠ 6; decide, .inl (by show (1 : Nat) ≠ 6; decide)⟩
      · cases ho

/-- A value comes back from its form. -/
theorem form_back {t : VT} (h : checkT t = 0) : runI (formT t) true (0 : Nat) [] = (0, t, (formT t).length) ∧ nextO (formT t) (formT t).length true = (0, noT (formT t).length) ∧ ∃ u, nextO (formT t) 0 true = (0, u) ∧ Reads (formT t) true 0 u t (formT t).length := by
  have hend : nextO (formT t) (formT t).length true = (0, noT (formT t).length) := by
    unfold nextO
    rw [List.drop_length]
    simp only [skp, Nat.add_zero, List.drop_length]
    rfl
  have hc : ClearR (formT t) (formT t).length := clear_of hend (.inl (by show (0 : Nat) ≠ 6; decide)) (fun e => by cases e)
  have h1 : ¬ 64 < depthT t := fun e => by unfold checkT at h; rw [if_pos e] at h; cases h
  have h2 : firstT t = 0 := by unfold checkT at h; rwa [if_neg h1] at h
  obtain ⟨u, k1, k2, _⟩ := form_reads (formT t) (sizT t) t (Nat.le_refl _) 0 0 0 [] h2 (by omega) (by simp) (fun c m e => by cases e) (by simpa using hc)
  rw [Nat.zero_add] at k2
  exact ⟨runI_reads (Nat.zero_le _) k1 k2, hend, u, k1, k2⟩

end Go.Proofs.YtcehpobjnbgpdaaGreatDoor

/- What the library reads of the world (a table of powers of ten, a bound): it stays where no block that was there is changed. -/
namespace Go.Proofs.YtcehpobjnbgpdaaGreatDoor
open Go.RowKit
set_option linter.unusedVariables false

structure LibOk (w : World) : Prop where
  tab : Lib.TabIs Tryz.prog w "internal/strconv.uint64pow10" .u64 Lib.pow10Tab
  most : ∃ m, w.cell? ⟨0, 0, none⟩ = some (.int .i64 m)

theorem cell_in {w : World} {a : Addr} {v : Value} (h : w.cell? a = some v) : a.block < w.heap.size := by
  rcases Nat.lt_or_ge a.block w.heap.size with h' | h'
  · exact h'
  · simp [World.cell?, Array.getElem?_eq_none h'] at h

theorem var_chg {P : Program} {w w' : World} {n : String} {cs : Array Value} (h : w.var? P n = some cs) (hc : Chg NoS w w') : w'.var? P n = some cs := by
  unfold World.var? at h ⊢
  cases hg : P.globalNamed n with
  | none => simp [hg] at h
  | some g =>
    simp only [hg, Option.bind_some] at h ⊢
    have hlt : g < w.heap.size := by
      rcases Nat.lt_or_ge g w.heap.size with h' | h'
      · exact h'
      · simp [Array.getElem?_eq_none h'] at h
    rw [hc.block g hlt (fun h => h)]
    exact h

theorem LibOk.chg {w w' : World} (h : LibOk w) (hc : Chg NoS w w') : LibOk w' := by
  obtain ⟨m, hm⟩ := h.most
  exact ⟨var_chg h.tab hc, m, (hc.cell (cell_in hm) (fun h => h)).trans hm⟩

theorem chg_grow {w : World} (k : Nat) (os : Array Obj) : Chg NoS w (Go.Sort.grow (w.drewN k) os) :=
  ⟨rfl, rfl, rfl, by rw [Go.Sort.size_grow]; exact Nat.le_add_right _ _, fun i hi _ => Go.Sort.heap_grow_old _ _ hi⟩

/-- Bytes of a string and numbers. -/
theorem sl_mk (l : List UInt8) : sl ⟨l.toArray⟩ = l.map UInt8.toNat := rfl

theorem mk_sb (l : List UInt8) : (⟨l.toArray⟩ : ByteArray) = sb (l.map UInt8.toNat) := by
  unfold sb
  rw [List.map_map]
  have e : (UInt8.ofNat ∘ UInt8.toNat) = id := by funext x; simp
  rw [e, List.map_id]

theorem of_dig (d : Nat) (h : d < 10) : (UInt8.ofNat (48 + d)).toNat = 48 + d := by
  simp
  omega

theorem dec_txt (u : Nat) : (Lib.decDigits u).map UInt8.toNat = txt u 1 := by
  induction u using Nat.strongRecOn with
  | _ u ih =>
    rw [Lib.decDigits]
    by_cases h : u < 10
    · rw [dif_pos h, List.map_cons, List.map_nil, of_dig u h]
      by_cases h0 : u = 0
      · subst h0; rw [txt, dn_0]; rfl
      · rw [txt, dn_s h0, show u / 10 = 0 from by omega, dn_0, show u % 10 = u from by omega]
        rfl
    · rw [dif_neg h, List.map_append, ih (u / 10) (by omega), List.map_cons, List.map_nil, of_dig _ (by omega), txt_step u 1 (.inl (by omega))]
      rw [txt, txt]
      congr 1
      have h1 := dn_more (n := u / 10) (k := 0) (by simp; omega)
      rw [show 1 - (dn (u / 10)).length = 0 from by omega, show 1 - 1 - (dn (u / 10)).length = 0 from by omega]

theorem itoa_pos (n : Int) (h : 0 ≤ n) : (⟨(Lib.itoa n).toArray⟩ : ByteArray) = sb (txt n.toNat 1) := by
  unfold Lib.itoa
  rw [if_neg (by omega), mk_sb, dec_txt]

theorem rep_zero : ∀ c, Lib.repeatL [48] c = List.replicate c 48
  | 0 => rfl
  | c + 1 => by rw [Lib.repeatL, rep_zero c, List.replicate_succ]; rfl

theorem rep_sb (c : Nat) : (⟨(Lib.repeatL [48] c).toArray⟩ : ByteArray) = sb (List.replicate c 48) := by
  rw [mk_sb, rep_zero, List.map_replicate]
  rfl

end Go.Proofs.YtcehpobjnbgpdaaGreatDoor

/- The document's own Print of a number. -/
namespace Go.Proofs.YtcehpobjnbgpdaaGreatDoor
open Go.RowKit
set_option linter.unusedVariables false
set_option linter.unusedSimpArgs false

/-- A number's text, and the error. -/
def prOf (k n : Int) (sz len : Nat) : List Nat × Int := if chkOf k n sz len = 0 then (if k = 2 then intTxt n else realTxt n, 0) else ([], 2)

theorem sb_at {l : List Nat} (hb : ∀ d ∈ l, d < 256) (k : Nat) (h : k < (sb l).size) : ((sb l)[k]'h).toNat = l.getD k 0 := by
  rw [sl_at, sl_sb l hb]

theorem sb_take (l : List Nat) (m : Nat) : (sb l).extract 0 m = sb (l.take m) := by
  unfold sb
  apply ByteArray.ext
  rw [ByteArray.data_extract]
  simp [List.map_take]

theorem last_at {l : List Nat} {n x : Nat} (hn : l.length = n + 1) (hx : l.getD n 0 = x) : l.getLast? = some x := by
  rw [List.getLast?_eq_getElem?, hn, Nat.add_sub_cancel]
  rw [List.getD_eq_getElem?_getD, List.getElem?_eq_getElem (by omega)] at hx
  rw [List.getElem?_eq_getElem (by omega)]
  exact congrArg some hx

theorem trimZ_yes {k n : Nat} {l : List Nat} (hn : l.length = n + 1) (hx : l.getD n 0 = 48) : trimZ (k + 1) l = trimZ k (l.take n) := by
  rw [trimZ, if_pos (last_at hn hx), List.dropLast_eq_take, hn, Nat.add_sub_cancel]

theorem trimZ_no {k n : Nat} {l : List Nat} (hn : l.length = n + 1) (hx : l.getD n 0 ≠ 48) : trimZ k l = l := by
  rcases k with _ | k
  · rfl
  · rw [trimZ, if_neg]
    intro h
    have h2 := last_at hn rfl
    rw [h] at h2
    injection h2 with h2
    exact hx h2.symm

theorem dig_lt {l : List Nat} (h : ∀ d ∈ l, isD d) : ∀ d ∈ l, d < 256 := fun d hd => by
  have := h d hd
  unfold isD at this
  omega

/-- Behind Print. -/
def PrTo (w : World) (k n : Int) (sz len : Nat) (e : Ending) (w' : World) : Prop := e = .returned (.tuple #[.string (sb (prOf k n sz len).1), .int .i64 (prOf k n sz len).2]) ∧ Chg NoS w w'

theorem PrTo.of {w w' : World} {k n : Int} {sz len : Nat} {l : List Nat} {z : Int} {t : ByteArray} (h : prOf k n sz len = (l, z)) (ht : t = sb l) (hc : Chg NoS w w') : PrTo w k n sz len (.returned (.tuple #[.string t, .int .i64 z])) w' := by
  unfold PrTo
  rw [h, ht]
  exact ⟨rfl, hc⟩

set_option maxHeartbeats 2000000 in
set_option maxRecDepth 100000 in
theorem rprint_any (k n : Int) (s : ByteArray) (A : Option Addr) (len cap : Nat) (w : World) :
    Calls Tryz.prog 55 #[.agg #[.int .i64 k, .int .i64 n, .string s, .slice A len cap]] w (PrTo w k n s.size len) := by
  have HK := keepf (fun W => rchk_any k n s A len cap W)
  have HB := keepf (Blk.new w 24 #[.int .i64 k, .int .i64 n, .string s, .slice A len cap])
  have HA := keepf ((Chg.refl NoS w).alloc (.cells #[.int .i64 k, .int .i64 n, .string s, .slice A len cap] 24))
  by_cases hc : chkOf k n s.size len = 0
  · have hmay : mayN k n := by
      unfold chkOf at hc
      split at hc
      · rename_i h
        exact h.2.2
      · cases hc
    have HP : Hid (prOf k n s.size len = (if k = 2 then intTxt n else realTxt n, 0)) := if_pos hc
    rw [hc] at HK
    obtain ⟨sz, hsz⟩ : ∃ sz, sz = s.size := ⟨_, rfl⟩
    rw [← hsz] at HP ⊢
    obtain ⟨q, hq⟩ : ∃ q, q = n.natAbs := ⟨_, rfl⟩
    have hq2 : q ≤ 2147483647000000 := by unfold mayN at hmay; omega
    have HQ := keepf hq
    have HT1 := keepf (fun (W : World) => rtext_any q 1 W (by omega) (by omega) (by decide))
    obtain ⟨s1, hs1⟩ : ∃ s1, s1 = sb (txt q 1) := ⟨_, rfl⟩
    have hl1 : s1.size ≤ 20 := by
      rw [hs1, sb_size, txt_len]
      have := dn_len (n := q) (k := 20) (by omega)
      omega
    rw [← hs1] at HT1
    have HS1 := keepf hs1
    obtain ⟨l1, hll1⟩ : ∃ l1, s1.size = l1 := ⟨_, rfl⟩
    rw [hll1] at hl1
    -- the whole part, and the millionths
    obtain ⟨r, hr⟩ : ∃ r, r = q / 1000000 := ⟨_, rfl⟩
    obtain ⟨m, hm⟩ : ∃ m, m = q % 1000000 := ⟨_, rfl⟩
    have er : (q : Int) / 1000000 = (r : Int) := by omega
    have em : (q : Int) % 1000000 = (m : Int) := by omega
    have HRM := keepf (⟨hr, hm⟩ : r = q / 1000000 ∧ m = q % 1000000)
    have hmm : m < 1000000 := by omega
    have hrr : r ≤ 2147483647 := by omega
    have HT6 := keepf (fun (W : World) => rtext_any m 6 W (by omega) (by omega) (by decide))
    have HTR := keepf (fun (W : World) => rtext_any r 1 W (by omega) (by omega) (by decide))
    obtain ⟨s2, hs2⟩ : ∃ s2, s2 = sb (txt r 1) := ⟨_, rfl⟩
    have hl2 : s2.size ≤ 20 := by
      rw [hs2, sb_size, txt_len]
      have := dn_len (n := r) (k := 20) (by omega)
      omega
    rw [← hs2] at HTR
    have HS2 := keepf hs2
    obtain ⟨l2, hll2⟩ : ∃ l2, s2.size = l2 := ⟨_, rfl⟩
    rw [hll2] at hl2
    obtain ⟨s6, hs6⟩ : ∃ s6, s6 = sb (txt m 6) := ⟨_, rfl⟩
    rw [← hs6] at HT6
    have HS6 := keepf hs6
    have h66 : (txt m 6).length = 6 := by
      rw [txt_len]
      have := dn_len (n := m) (k := 6) (by omega)
      omega
    have H66 := keepf h66
    clear hc hsz hq hs1 hr hm hs2 hs6 h66
    have HMAY := keepf hmay
    by_cases hn : n < 0
    · have d1 : decide (n < 0) = true := by simpa using hn
      have en : 0 - n = (q : Int) := by have := HQ.out; omega
      have en2 : -n = (q : Int) := by have := HQ.out; omega
      have HSG : Hid (signL n = [45]) := if_pos hn
      clear hmay hn
      by_cases h2 : k = 2
      · subst h2
        rw [if_pos rfl] at HP
        have HFIN : Hid ((ByteArray.mk #[45]) ++ s1 = sb (intTxt n)) := by
          show _ = _
          rw [HS1.out, intTxt, HSG.out, ← HQ.out, ← sb_app]
          rfl
        go_enter Tryz.func55, Tryz.ntmps55
        go_wp2_with (first
          | (go_at_call 91; refine (HK.out _).mono ?_; rintro e w2 ⟨rfl, hc2⟩; have hb := HB.out.chg hc2 (fun e => e); have c0 := hb.cell 0; have c1 := hb.cell 1; simp at c0 c1; have HC2 := keepf (HA.out.trans hc2 (fun _ _ e => e)); clear hc2 hb)
          | (go_at_call 92; refine (HT1.out _).mono ?_; rintro e w' ⟨rfl, rfl⟩))
        go_ret2
        exact PrTo.of HP.out HFIN.out HC2.out
      · have u2 : (k == 2) = false := by simpa using h2
        rw [if_neg h2] at HP
        clear h2
        have HFIN := keepf (fun (t : ByteArray) (S : List Nat) (h1 : t = sb S) (h2 : trimZ 5 (txt m 6) = S) => (show ((ByteArray.mk #[45] ++ s2) ++ ByteArray.mk #[46]) ++ t = sb (realTxt n) by
          rw [h1, HS2.out, realTxt, HSG.out, ← HQ.out, ← HRM.out.1, ← HRM.out.2, h2]
          rw [show (ByteArray.mk #[46]) = sb [46] from rfl, show (ByteArray.mk #[45]) = sb [45] from rfl, sb_app, sb_app, sb_app]
          simp))
        go_enter Tryz.func55, Tryz.ntmps55
        go_wp2_with (first
          | (go_at_call 91; refine (HK.out _).mono ?_; rintro e w2 ⟨rfl, hc2⟩; have hb := HB.out.chg hc2 (fun e => e); have c0 := hb.cell 0; have c1 := hb.cell 1; simp at c0 c1; have HC2 := keepf (HA.out.trans hc2 (fun _ _ e => e)); clear hc2 hb)
          | (go_at_call 92; refine (HT6.out _).mono ?_; rintro e w' ⟨rfl, rfl⟩))
        go_loop [6, 7] (fun vs vk => ∃ (j g h : Nat) (t : ByteArray), j ≤ 5 ∧ g ≤ 6 ∧ t.size = g ∧ vs = .string t ∧ vk = .int .i64 (j : Nat) ∧ Hid (g = h + 1 ∧ h = 5 - j ∧ ∃ S : List Nat, t = sb S ∧ (∀ d ∈ S, isD d) ∧ trimZ 5 (txt m 6) = trimZ (5 - j) S)) (fun _ vk => 5 - (intOf vk).toNat)
        case atStart => exact ⟨0, 6, 5, s6, by omega, by omega, by rw [HS6.out, sb_size, H66.out], rfl, by go_num, ⟨rfl, rfl, txt m 6, HS6.out, txt_dig m 6, rfl⟩⟩
        case round =>
          obtain ⟨j, g, h, t, hj, hg6, hg, rfl, rfl, HT⟩ := hrel
          have eg : (g : Int) - 1 = (h : Int) := by have := HT.out.1; omega
          have hgh : h < g := by have := HT.out.1; omega
          have hih : (h : Int) < g := by omega
          obtain ⟨x, hx⟩ : ∃ x : Nat, ∀ hh : h < t.size, (t[h]'hh).toNat = x := ⟨(t[h]'(by omega)).toNat, fun _ => rfl⟩
          have HX : Hid (∀ S : List Nat, t = sb S → (∀ d ∈ S, isD d) → S.length = h + 1 ∧ S.getD h 0 = x) := by
            intro S h1 h3
            subst h1
            have h4 := hx (by omega)
            rw [sb_at (dig_lt h3)] at h4
            rw [sb_size] at hg
            exact ⟨by rw [hg]; exact HT.out.1, h4⟩
          have HEX : Hid (∀ S : List Nat, t = sb S → t.extract 0 h = sb (S.take h)) := fun S h1 => by rw [h1, sb_take]
          by_cases h5 : j < 5
          · by_cases h48 : x = 48
            · subst h48
              have HNX : Hid (∃ S : List Nat, t.extract 0 h = sb S ∧ (∀ d ∈ S, isD d) ∧ S.length = h ∧ trimZ 5 (txt m 6) = trimZ (5 - (j + 1)) S) := by
                obtain ⟨_, _, S, h1, h3, h4⟩ := HT.out
                obtain ⟨h6, h7⟩ := HX.out S h1 h3
                refine ⟨S.take h, HEX.out S h1, fun d hd => h3 d (List.mem_of_mem_take hd), by rw [List.length_take]; omega, ?_⟩
                rw [h4, show 5 - j = 5 - (j + 1) + 1 from by omega, trimZ_yes h6 h7]
              go_wp2_with fail
              go_round
              case rel =>
                obtain ⟨S, h1, h3, h4, h6⟩ := HNX.out
                have h7 := HT.out.2.1
                exact ⟨j + 1, h, h - 1, t.extract 0 h, by omega, by omega, by rw [h1, sb_size, h4], rfl, by go_num, ⟨by omega, by omega, S, h1, h3, h6⟩⟩
              case measure => simp [intOf]; omega
            · have u48 : ((x : Int) == 48) = false := by simp; omega
              have HEND : Hid (((ByteArray.mk #[45] ++ s2) ++ ByteArray.mk #[46]) ++ t = sb (realTxt n)) := by
                obtain ⟨_, _, S, h1, h3, h4⟩ := HT.out
                obtain ⟨h6, h7⟩ := HX.out S h1 h3
                exact HFIN.out t S h1 (by rw [h4]; exact trimZ_no h6 (by rw [h7]; exact h48))
              clear h48
              go_wp2_with (go_at_call 92; refine (HTR.out _).mono ?_; rintro e w' ⟨rfl, rfl⟩)
              go_ret2
              exact PrTo.of HP.out HEND.out HC2.out
          · have HEND : Hid (((ByteArray.mk #[45] ++ s2) ++ ByteArray.mk #[46]) ++ t = sb (realTxt n)) := by
              obtain ⟨_, _, S, h1, h3, h4⟩ := HT.out
              exact HFIN.out t S h1 (by rw [h4, show 5 - j = 0 from by omega]; rfl)
            have d5 : decide ((j : Int) < 5) = false := by simp; omega
            have d5' : decide (j < 5) = false := by simp; omega
            go_wp2_with (go_at_call 92; refine (HTR.out _).mono ?_; rintro e w' ⟨rfl, rfl⟩)
            go_ret2
            exact PrTo.of HP.out HEND.out HC2.out
    · obtain rfl : n = (q : Int) := by have := HQ.out; omega
      have d1 : decide ((q : Int) < 0) = false := by simp
      have HSG : Hid (signL (q : Nat) = []) := if_neg hn
      clear hmay hn
      by_cases h2 : k = 2
      · subst h2
        rw [if_pos rfl] at HP
        have HFIN : Hid ((ByteArray.mk #[]) ++ s1 = sb (intTxt (q : Nat))) := by
          show _ = _
          rw [HS1.out, intTxt, HSG.out, ← HQ.out, ← sb_app]
          rfl
        go_enter Tryz.func55, Tryz.ntmps55
        go_wp2_with (first
          | (go_at_call 91; refine (HK.out _).mono ?_; rintro e w2 ⟨rfl, hc2⟩; have hb := HB.out.chg hc2 (fun e => e); have c0 := hb.cell 0; have c1 := hb.cell 1; simp at c0 c1; have HC2 := keepf (HA.out.trans hc2 (fun _ _ e => e)); clear hc2 hb)
          | (go_at_call 92; refine (HT1.out _).mono ?_; rintro e w' ⟨rfl, rfl⟩))
        go_ret2
        exact PrTo.of HP.out HFIN.out HC2.out
      · have u2 : (k == 2) = false := by simpa using h2
        rw [if_neg h2] at HP
        clear h2
        have HFIN := keepf (fun (t : ByteArray) (S : List Nat) (h1 : t = sb S) (h2 : trimZ 5 (txt m 6) = S) => (show ((ByteArray.mk #[] ++ s2) ++ ByteArray.mk #[46]) ++ t = sb (realTxt (q : Nat)) by
          rw [h1, HS2.out, realTxt, HSG.out, ← HQ.out, ← HRM.out.1, ← HRM.out.2, h2]
          rw [show (ByteArray.mk #[46]) = sb [46] from rfl, show (ByteArray.mk #[]) = sb [] from rfl, sb_app, sb_app, sb_app]
          simp))
        go_enter Tryz.func55, Tryz.ntmps55
        go_wp2_with (first
          | (go_at_call 91; refine (HK.out _).mono ?_; rintro e w2 ⟨rfl, hc2⟩; have hb := HB.out.chg hc2 (fun e => e); have c0 := hb.cell 0; have c1 := hb.cell 1; simp at c0 c1; have HC2 := keepf (HA.out.trans hc2 (fun _ _ e => e)); clear hc2 hb)
          | (go_at_call 92; refine (HT6.out _).mono ?_; rintro e w' ⟨rfl, rfl⟩))
        go_loop [6, 7] (fun vs vk => ∃ (j g h : Nat) (t : ByteArray), j ≤ 5 ∧ g ≤ 6 ∧ t.size = g ∧ vs = .string t ∧ vk = .int .i64 (j : Nat) ∧ Hid (g = h + 1 ∧ h = 5 - j ∧ ∃ S : List Nat, t = sb S ∧ (∀ d ∈ S, isD d) ∧ trimZ 5 (txt m 6) = trimZ (5 - j) S)) (fun _ vk => 5 - (intOf vk).toNat)
        case atStart => exact ⟨0, 6, 5, s6, by omega, by omega, by rw [HS6.out, sb_size, H66.out], rfl, by go_num, ⟨rfl, rfl, txt m 6, HS6.out, txt_dig m 6, rfl⟩⟩
        case round =>
          obtain ⟨j, g, h, t, hj, hg6, hg, rfl, rfl, HT⟩ := hrel
          have eg : (g : Int) - 1 = (h : Int) := by have := HT.out.1; omega
          have hgh : h < g := by have := HT.out.1; omega
          have hih : (h : Int) < g := by omega
          obtain ⟨x, hx⟩ : ∃ x : Nat, ∀ hh : h < t.size, (t[h]'hh).toNat = x := ⟨(t[h]'(by omega)).toNat, fun _ => rfl⟩
          have HX : Hid (∀ S : List Nat, t = sb S → (∀ d ∈ S, isD d) → S.length = h + 1 ∧ S.getD h 0 = x) := by
            intro S h1 h3
            subst h1
            have h4 := hx (by omega)
            rw [sb_at (dig_lt h3)] at h4
            rw [sb_size] at hg
            exact ⟨by rw [hg]; exact HT.out.1, h4⟩
          have HEX : Hid (∀ S : List Nat, t = sb S → t.extract 0 h = sb (S.take h)) := fun S h1 => by rw [h1, sb_take]
          by_cases h5 : j < 5
          · by_cases h48 : x = 48
            · subst h48
              have HNX : Hid (∃ S : List Nat, t.extract 0 h = sb S ∧ (∀ d ∈ S, isD d) ∧ S.length = h ∧ trimZ 5 (txt m 6) = trimZ (5 - (j + 1)) S) := by
                obtain ⟨_, _, S, h1, h3, h4⟩ := HT.out
                obtain ⟨h6, h7⟩ := HX.out S h1 h3
                refine ⟨S.take h, HEX.out S h1, fun d hd => h3 d (List.mem_of_mem_take hd), by rw [List.length_take]; omega, ?_⟩
                rw [h4, show 5 - j = 5 - (j + 1) + 1 from by omega, trimZ_yes h6 h7]
              go_wp2_with fail
              go_round
              case rel =>
                obtain ⟨S, h1, h3, h4, h6⟩ := HNX.out
                have h7 := HT.out.2.1
                exact ⟨j + 1, h, h - 1, t.extract 0 h, by omega, by omega, by rw [h1, sb_size, h4], rfl, by go_num, ⟨by omega, by omega, S, h1, h3, h6⟩⟩
              case measure => simp [intOf]; omega
            · have u48 : ((x : Int) == 48) = false := by simp; omega
              have HEND : Hid (((ByteArray.mk #[] ++ s2) ++ ByteArray.mk #[46]) ++ t = sb (realTxt (q : Nat))) := by
                obtain ⟨_, _, S, h1, h3, h4⟩ := HT.out
                obtain ⟨h6, h7⟩ := HX.out S h1 h3
                exact HFIN.out t S h1 (by rw [h4]; exact trimZ_no h6 (by rw [h7]; exact h48))
              clear h48
              go_wp2_with (go_at_call 92; refine (HTR.out _).mono ?_; rintro e w' ⟨rfl, rfl⟩)
              go_ret2
              exact PrTo.of HP.out HEND.out HC2.out
          · have HEND : Hid (((ByteArray.mk #[] ++ s2) ++ ByteArray.mk #[46]) ++ t = sb (realTxt (q : Nat))) := by
              obtain ⟨_, _, S, h1, h3, h4⟩ := HT.out
              exact HFIN.out t S h1 (by rw [h4, show 5 - j = 0 from by omega]; rfl)
            have d5 : decide ((j : Int) < 5) = false := by simp; omega
            have d5' : decide (j < 5) = false := by simp; omega
            go_wp2_with (go_at_call 92; refine (HTR.out _).mono ?_; rintro e w' ⟨rfl, rfl⟩)
            go_ret2
            exact PrTo.of HP.out HEND.out HC2.out
  · have HP : Hid (prOf k n s.size len = ([], 2)) := if_neg hc
    obtain ⟨z, hz⟩ : ∃ z, z = chkOf k n s.size len := ⟨_, rfl⟩
    rw [← hz] at HK hc
    obtain ⟨sz, hsz⟩ : ∃ sz, sz = s.size := ⟨_, rfl⟩
    rw [← hsz] at HP ⊢
    have v1 : (z == 0) = false := by simpa using hc
    have v2 : (z != 0) = true := by simpa using hc
    clear hz hsz hc
    go_enter Tryz.func55, Tryz.ntmps55
    go_wp2_with (go_at_call 91; refine (HK.out _).mono ?_; rintro e w2 ⟨rfl, hc2⟩; have HC2 := keepf (HA.out.trans hc2 (fun _ _ e => e)); clear hc2)
    go_ret2
    exact PrTo.of HP.out rfl HC2.out

end Go.Proofs.YtcehpobjnbgpdaaGreatDoor

/- The program's digits with zeros ahead (padded), digits without the zeros behind (shortest), and Pad. -/
namespace Go.Proofs.YtcehpobjnbgpdaaGreatDoor
open Go.RowKit
set_option linter.unusedVariables false
set_option linter.unusedSimpArgs false

theorem itoa_any (n : Nat) (hn : n ≤ 9223372036854775807) (w : World) (h : LibOk w) :
    Calls Tryz.prog 119 #[.int .i64 (n : Nat)] w fun e w' => e = .returned (.string (sb (txt n 1))) ∧ Chg NoS w w' :=
  (Go.Proofs.Tryz.strconv_Itoa (n : Int) (by omega) (by omega) w h.tab).mono fun e w' hh => by
    obtain ⟨he, k, os, rfl⟩ := hh
    refine ⟨?_, chg_grow k os⟩
    rw [he, itoa_pos _ (by omega)]
    rfl

theorem rep_any (c : Nat) (hc : c ≤ 1000) (w : World) :
    Calls Tryz.prog 140 #[.string ⟨#[48]⟩, .int .i64 (c : Nat)] w fun e w' => e = .returned (.string (sb (List.replicate c 48))) ∧ Chg NoS w w' :=
  (Go.Proofs.Tryz.strings_Repeat ⟨#[48]⟩ c w (by omega) (by show 1 * c ≤ _; omega)).mono fun e w' hh => by
    obtain ⟨he, hb⟩ := hh
    refine ⟨?_, Chg.of_below hb⟩
    rw [he]
    show Ending.returned (Value.string ⟨(Lib.repeatL [48] c).toArray⟩) = _
    rw [rep_sb]

theorem txt_pad (n d : Nat) (h : 1 ≤ d) : List.replicate (d - (txt n 1).length) 48 ++ txt n 1 = txt n d := by
  by_cases h0 : n = 0
  · subst h0
    rw [txt, txt, dn_0]
    simp only [List.length_nil, Nat.sub_zero, List.append_nil, List.length_replicate, List.replicate_append_replicate]
    rw [show d - 1 + (1 - 0) = d from by omega]
  · have h1 := dn_more (n := n) (k := 0) (by simp; omega)
    rw [txt, txt, show 1 - (dn n).length = 0 from by omega]
    rfl

set_option maxHeartbeats 1000000 in
theorem padded_any (n d : Nat) (hn : n ≤ 9223372036854775807) (hd : 1 ≤ d ∧ d ≤ 20) (w : World) (hL : LibOk w) :
    Calls Tryz.prog 121 #[.int .i64 (n : Nat), .int .i64 (d : Nat)] w fun e w' => e = .returned (.string (sb (txt n d))) ∧ Chg NoS w w' := by
  obtain ⟨L, hLn⟩ : ∃ L, (txt n 1).length = L := ⟨_, rfl⟩
  have hL20 : L ≤ 100 := by
    have h1 : (dn n).length ≤ 19 := dn_len (by omega)
    rw [← hLn, txt_len]
    omega
  obtain ⟨t, ht⟩ : ∃ t, sb (txt n 1) = t := ⟨_, rfl⟩
  have hts : t.size = L := by rw [← ht, sb_size, hLn]
  obtain ⟨c, hc⟩ : ∃ c : Nat, d - L = c := ⟨_, rfl⟩
  have e1 : max (0 : Int) ((d : Int) - (L : Int)) = (c : Int) := by omega
  obtain ⟨r, hr⟩ : ∃ r, sb (List.replicate c 48) = r := ⟨_, rfl⟩
  have hrs : r.size = c := by rw [← hr, sb_size, List.length_replicate]
  have HI := keepf (itoa_any n hn w hL)
  have HR := keepf (fun W => rep_any c (by omega) W)
  rw [ht] at HI
  rw [hr] at HR
  have HE : Hid (r ++ t = sb (txt n d)) := by
    show _ = _
    rw [← hr, ← ht, sb_app, ← hc, ← hLn, txt_pad n d hd.1]
  have hc20 : c ≤ 20 := by omega
  clear hL hLn ht hr
  have HCD := keepf hc
  clear hc
  go_enter Tryz.func121, Tryz.ntmps121
  go_wp2_with first | (go_at_call 119; refine HI.out.mono ?_; rintro e w2 ⟨rfl, hc2⟩; have HC2 := keepf hc2; clear hc2) | (go_at_call 140; refine (HR.out _).mono ?_; rintro e w3 ⟨rfl, hc3⟩; have HC3 := keepf (HC2.out.trans hc3 (fun _ _ h => h)); clear hc3)
  go_ret
  rw [← HE.out]
  exact ⟨rfl, HC3.out⟩

/-- The zeros at the end are gone. -/
def trimR (l : List Nat) : List Nat := (l.reverse.dropWhile (· == 48)).reverse

theorem trimR_snoc (m : List Nat) (x : Nat) : trimR (m ++ [x]) = if x = 48 then trimR m else m ++ [x] := by
  unfold trimR
  rw [List.reverse_append, List.reverse_singleton, List.singleton_append, List.dropWhile_cons]
  by_cases h : x = 48
  · rw [if_pos h, if_pos (by simp [h])]
  · rw [if_neg h, if_neg (by simp [h]), List.reverse_cons, List.reverse_reverse]

theorem trimZ_R (c : Nat) : ∀ (k : Nat) (m : List Nat), m.length = k → trimZ k (c :: m) = c :: trimR m := by
  intro k
  induction k with
  | zero => intro m h; rw [List.eq_nil_of_length_eq_zero h]; rfl
  | succ k ih =>
    intro m h
    rcases List.eq_nil_or_concat m with rfl | ⟨m', x, rfl⟩
    · simp at h
    · rw [List.concat_eq_append] at h ⊢
      rw [List.length_append, List.length_singleton] at h
      rw [trimZ, trimR_snoc, ← List.cons_append, List.getLast?_append, List.getLast?_singleton, List.dropLast_concat, ih m' (by omega)]
      by_cases hx : x = 48
      · rw [if_pos (by rw [hx]; rfl), if_pos hx]
      · rw [if_neg (by simpa using hx), if_neg hx, List.cons_append]

theorem drop_while_map (l : List UInt8) : (l.dropWhile (· == 48)).map UInt8.toNat = (l.map UInt8.toNat).dropWhile (· == 48) := by
  induction l with
  | nil => rfl
  | cons x l ih =>
    rw [List.dropWhile_cons, List.map_cons, List.dropWhile_cons]
    by_cases h : x = 48
    · subst h
      rw [if_pos (by rfl), if_pos (by rfl), ih]
    · have h2 : ¬ x.toNat = 48 := fun h2 => h (UInt8.toNat_inj.1 h2)
      rw [if_neg (by simpa using h), if_neg (by simpa using h2), List.map_cons]

theorem trimB_R (l : List UInt8) : (Lib.trimRightB l 48).map UInt8.toNat = trimR (l.map UInt8.toNat) := by
  unfold Lib.trimRightB trimR
  rw [List.map_reverse, drop_while_map, List.map_reverse]

theorem tright_any (l : List Nat) (hb : ∀ d ∈ l, d < 256) (hl : l.length ≤ 1000) (w : World) :
    Calls Tryz.prog 139 #[.string (sb l), .string ⟨#[48]⟩] w fun e w' => e = .returned (.string (sb (trimR l))) ∧ w = w' :=
  (Go.Proofs.Tryz.strings_TrimRight_one (sb l) 48 (by decide) w (by rw [sb_size]; omega)).mono fun e w' hh => by
    obtain ⟨he, hw⟩ := hh
    refine ⟨?_, hw.symm⟩
    rw [he, mk_sb, trimB_R]
    show Ending.returned (Value.string (sb (trimR (sl (sb l))))) = _
    rw [sl_sb l hb]

theorem drop_len (l : List Nat) (p : Nat → Bool) : (l.dropWhile p).length ≤ l.length := by
  induction l with
  | nil => exact Nat.le_refl _
  | cons x l ih =>
    rw [List.dropWhile_cons]
    split
    · rw [List.length_cons]; omega
    · exact Nat.le_refl _

theorem trimR_len (l : List Nat) : (trimR l).length ≤ l.length := by
  unfold trimR
  rw [List.length_reverse]
  exact Nat.le_trans (drop_len _ _) (by rw [List.length_reverse]; exact Nat.le_refl _)

set_option maxHeartbeats 1000000 in
theorem shortest_any (c : Nat) (m : List Nat) (hb : ∀ d ∈ c :: m, d < 256) (hm : m.length = 5) (w : World) :
    Calls Tryz.prog 120 #[.string (sb (c :: m))] w fun e w' => e = .returned (.string (sb (trimZ 5 (c :: m)))) ∧ Chg NoS w w' := by
  have HR := keepf (fun W => tright_any m (fun d hd => hb d (List.mem_cons_of_mem _ hd)) (by omega) W)
  obtain ⟨s, hs⟩ : ∃ s, sb (c :: m) = s := ⟨_, rfl⟩
  obtain ⟨a, ha⟩ : ∃ a, sb [c] = a := ⟨_, rfl⟩
  obtain ⟨b, hb2⟩ : ∃ b, sb m = b := ⟨_, rfl⟩
  obtain ⟨t, ht⟩ : ∃ t, sb (trimR m) = t := ⟨_, rfl⟩
  have hz : s.size = 6 := by rw [← hs, sb_size, List.length_cons, hm]
  obtain ⟨y, hy1, hy9⟩ : ∃ y, a.size = y ∧ y ≤ 5 := ⟨1, by rw [← ha, sb_size]; rfl, by omega⟩
  obtain ⟨z, hz5⟩ : ∃ z, (trimR m).length = z := ⟨_, rfl⟩
  have hts : t.size = z := by rw [← ht, sb_size, hz5]
  have hz9 : z ≤ 5 := by
    have h := trimR_len m
    omega
  have ex1 : s.extract 0 1 = a := by rw [← hs, sb_take, ← ha]; rfl
  have ex2 : s.extract 1 6 = b := by
    rw [← hs, ← hb2]
    unfold sb
    apply ByteArray.ext
    rw [ByteArray.data_extract]
    have e : (m.map UInt8.ofNat).length = 5 := by rw [List.length_map, hm]
    simp
    exact List.take_of_length_le (by omega)
  have HE : Hid (a ++ t = sb (trimZ 5 (c :: m))) := by
    show _ = _
    rw [← ha, ← ht, sb_app, trimZ_R c 5 m hm]
    rfl
  rw [hb2, ht] at HR
  rw [hs]
  have i1 : ¬ 9223372036854775807 < y + z := by omega
  have i2 : y + z ≤ 9223372036854775807 := by omega
  clear hs ha hb2 ht hb hm hz5
  go_enter Tryz.func120, Tryz.ntmps120
  go_upto_region 1 with fail
  go_region_held3 (fun _ => True) (trivial) ((go_at_call 139; refine (HR.out _).mono ?_; rintro e w2 ⟨rfl, rfl⟩))
  go_wp2_with fail
  go_ret
  rw [← HE.out]
  exact ⟨rfl, (Chg.refl _ _).drew⟩

end Go.Proofs.YtcehpobjnbgpdaaGreatDoor

/- The program's Check of a number. -/
namespace Go.Proofs.YtcehpobjnbgpdaaGreatDoor
open Go.RowKit
set_option linter.unusedVariables false
set_option linter.unusedSimpArgs false

set_option maxHeartbeats 1000000 in
theorem chk_any (k n : Int) (s : ByteArray) (A : Option Addr) (len cap : Nat) (w : World) :
    Calls Tryz.prog 80 #[.agg #[.int .i64 k, .int .i64 n, .string s, .slice A len cap]] w fun e w' => e = .returned (.int .i64 (chkOf k n s.size len)) ∧ Chg NoS w w' := by
  by_cases h3 : k = 3
  · subst h3
    by_cases c1 : n < -2147483647000000
    · have d1 : decide (n < -2147483647000000) = true := by simpa using c1
      have HZ : Hid (chkOf 3 n s.size len = 2) := if_neg (fun h => by have h := h.2.2; unfold mayN at h; omega)
      clear c1
      go_enter Tryz.func80, Tryz.ntmps80
      go_wp2_with fail
      go_ret
      refine ⟨?_, (Chg.refl NoS w).alloc _⟩
      rw [HZ.out]
      rfl
    · have d1 : decide (n < -2147483647000000) = false := by simpa using c1
      by_cases c2 : 2147483647000000 < n
      · have d2 : decide (2147483647000000 < n) = true := by simpa using c2
        have HZ : Hid (chkOf 3 n s.size len = 2) := if_neg (fun h => by have h := h.2.2; unfold mayN at h; omega)
        clear c1 c2
        go_enter Tryz.func80, Tryz.ntmps80
        go_wp2_with fail
        go_ret
        refine ⟨?_, (Chg.refl NoS w).alloc _⟩
        rw [HZ.out]
        rfl
      · have d2 : decide (2147483647000000 < n) = false := by simpa using c2
        by_cases hs : s.size = 0
        · obtain rfl := str_nil hs
          by_cases hl : 0 < len
          · have d3 : decide (0 < (len : Int)) = true := by simp; omega
            have d3' : decide (0 < len) = true := by simp; omega
            have HZ : Hid (chkOf 3 n (ByteArray.mk #[]).size len = 2) := if_neg (fun h => by have h := h.2.1; omega)
            clear c1 c2 hs hl
            go_enter Tryz.func80, Tryz.ntmps80
            go_wp2_with fail
            go_ret
            refine ⟨?_, (Chg.refl NoS w).alloc _⟩
            show _ = Ending.returned (Value.int IntKind.i64 (chkOf _ _ (ByteArray.mk #[]).size _))
            rw [HZ.out]
            rfl
          · obtain rfl : len = 0 := by omega
            have HZ : Hid (chkOf 3 n (ByteArray.mk #[]).size 0 = 0) := if_pos ⟨rfl, rfl, by unfold mayN; omega⟩
            clear c1 c2 hs hl
            go_enter Tryz.func80, Tryz.ntmps80
            go_wp2_with fail
            go_ret
            refine ⟨?_, (Chg.refl NoS w).alloc _⟩
            show _ = Ending.returned (Value.int IntKind.i64 (chkOf _ _ (ByteArray.mk #[]).size _))
            rw [HZ.out]
            rfl
        · have u1 := str_ne hs
          have HZ : Hid (chkOf 3 n s.size len = 2) := if_neg (fun h => hs h.1)
          clear c1 c2 hs
          go_enter Tryz.func80, Tryz.ntmps80
          go_wp2_with fail
          go_ret
          refine ⟨?_, (Chg.refl NoS w).alloc _⟩
          rw [HZ.out]
          rfl
  · have u3 : (k == 3) = false := by simpa using h3
    by_cases h2 : k = 2
    · subst h2
      clear u3 h3
      by_cases c1 : n < -2147483647
      · have d1 : decide (n < -2147483647) = true := by simpa using c1
        have HZ : Hid (chkOf 2 n s.size len = 2) := if_neg (fun h => by have h := h.2.2; unfold mayN at h; omega)
        clear c1
        go_enter Tryz.func80, Tryz.ntmps80
        go_wp2_with fail
        go_ret
        refine ⟨?_, (Chg.refl NoS w).alloc _⟩
        rw [HZ.out]
        rfl
      · have d1 : decide (n < -2147483647) = false := by simpa using c1
        by_cases c2 : 2147483647 < n
        · have d2 : decide (2147483647 < n) = true := by simpa using c2
          have HZ : Hid (chkOf 2 n s.size len = 2) := if_neg (fun h => by have h := h.2.2; unfold mayN at h; omega)
          clear c1 c2
          go_enter Tryz.func80, Tryz.ntmps80
          go_wp2_with fail
          go_ret
          refine ⟨?_, (Chg.refl NoS w).alloc _⟩
          rw [HZ.out]
          rfl
        · have d2 : decide (2147483647 < n) = false := by simpa using c2
          by_cases hs : s.size = 0
          · obtain rfl := str_nil hs
            by_cases hl : 0 < len
            · have d3 : decide (0 < (len : Int)) = true := by simp; omega
              have d3' : decide (0 < len) = true := by simp; omega
              have HZ : Hid (chkOf 2 n (ByteArray.mk #[]).size len = 2) := if_neg (fun h => by have h := h.2.1; omega)
              clear c1 c2 hs hl
              go_enter Tryz.func80, Tryz.ntmps80
              go_wp2_with fail
              go_ret
              refine ⟨?_, (Chg.refl NoS w).alloc _⟩
              show _ = Ending.returned (Value.int IntKind.i64 (chkOf _ _ (ByteArray.mk #[]).size _))
              rw [HZ.out]
              rfl
            · obtain rfl : len = 0 := by omega
              have HZ : Hid (chkOf 2 n (ByteArray.mk #[]).size 0 = 0) := if_pos ⟨rfl, rfl, by unfold mayN; omega⟩
              clear c1 c2 hs hl
              go_enter Tryz.func80, Tryz.ntmps80
              go_wp2_with fail
              go_ret
              refine ⟨?_, (Chg.refl NoS w).alloc _⟩
              show _ = Ending.returned (Value.int IntKind.i64 (chkOf _ _ (ByteArray.mk #[]).size _))
              rw [HZ.out]
              rfl
          · have u1 := str_ne hs
            have HZ : Hid (chkOf 2 n s.size len = 2) := if_neg (fun h => hs h.1)
            clear c1 c2 hs
            go_enter Tryz.func80, Tryz.ntmps80
            go_wp2_with fail
            go_ret
            refine ⟨?_, (Chg.refl NoS w).alloc _⟩
            rw [HZ.out]
            rfl
    · have u2 : (k == 2) = false := by simpa using h2
      have u2' : (k != 2) = true := by simpa using h2
      have HZ : Hid (chkOf k n s.size len = 2) := if_neg (fun h => by have h := h.2.2; unfold mayN at h; omega)
      clear h3 h2
      go_enter Tryz.func80, Tryz.ntmps80
      go_wp2_with fail
      go_ret
      refine ⟨?_, (Chg.refl NoS w).alloc _⟩
      rw [HZ.out]
      rfl

end Go.Proofs.YtcehpobjnbgpdaaGreatDoor

