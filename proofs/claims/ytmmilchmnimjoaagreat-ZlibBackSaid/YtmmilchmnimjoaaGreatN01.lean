/- Merged by program: Lens LenR Big Count Tab Begin. -/
import Derived.Test.YtmmilchmnimjoaaGreatN00
import Derived.WalkKit
import Derived.Test.YtmmilchmnimjoaaGreatProg
import Derived.BigQuiet
import Derived.Outline
import Derived.Deep.MidRow
import Derived.Laws.Rows
import Derived.Laws.Tables
import Derived.Laws.CopyOwn
import Derived.Laws.ResultCell
import Derived.Deep.RegionHeld3
import Derived.Deep.DeepCutAuto
import Derived.Deep.Cut
import Derived.Deep.CutRange
/- Codes of prefixes, from their lengths: plain mathematics, no program. -/
namespace Go.Proofs.YtmmilchmnimjoaaGreat
set_option linter.unusedVariables false
def cnt (ls : List Int) (n : Nat) : Nat := if n = 0 then 0 else ls.countP (fun z => z == (n : Int))
def rmOf : List Int → Nat
  | [] => 0
  | z :: r => (if z = 0 then 0 else 2 ^ (15 - z.toNat)) + rmOf r
def okL (ls : List Int) : Prop := ∀ z ∈ ls, 0 ≤ z ∧ z ≤ 15
def May (ls : List Int) : Prop := 1 ≤ ls.length ∧ ls.length ≤ 320 ∧ okL ls ∧ rmOf ls ≤ 32768
instance (ls : List Int) : Decidable (okL ls) := by unfold okL; infer_instance
instance (ls : List Int) : Decidable (May ls) := by unfold May; infer_instance
def fst (m : Nat → Nat) : Nat → Nat
  | 0 => 0
  | n + 1 => (fst m n + m n) * 2
def att (m : Nat → Nat) : Nat → Nat
  | 0 => 0
  | n + 1 => att m n + m n
def deepU (m : Nat → Nat) : Nat → Nat
  | 0 => 0
  | n + 1 => if 0 < m n then n else deepU m n
def ks (m : Nat → Nat) : Nat → Nat
  | 0 => 0
  | n + 1 => ks m n + m n * 2 ^ (15 - n)
def lenAt (ls : List Int) (s : Nat) : Nat := (ls.getD s 0).toNat
def rank (ls : List Int) (s : Nat) : Nat := cnt (ls.take s) (lenAt ls s)
def cd (ls : List Int) (s : Nat) : Nat := if lenAt ls s = 0 then 0 else fst (cnt ls) (lenAt ls s) + rank ls s
def deepL (ls : List Int) : Nat := deepU (cnt ls) 16
theorem cnt_nil (n : Nat) : cnt [] n = 0 := by simp [cnt]
theorem cnt_cons (z : Int) (r : List Int) (n : Nat) : cnt (z :: r) n = cnt r n + (if n ≠ 0 ∧ z = n then 1 else 0) := by
  unfold cnt
  by_cases h : n = 0
  · simp [h]
  · rw [if_neg h, if_neg h, List.countP_cons]
    by_cases h2 : z = n <;> simp [h, h2]
theorem cnt_append (a b : List Int) (n : Nat) : cnt (a ++ b) n = cnt a n + cnt b n := by
  unfold cnt
  split
  · rfl
  · rw [List.countP_append]
theorem cnt_zero (ls : List Int) : cnt ls 0 = 0 := by simp [cnt]
theorem cnt_snoc (a : List Int) (z : Int) (n : Nat) : cnt (a ++ [z]) n = cnt a n + (if n ≠ 0 ∧ z = n then 1 else 0) := by
  rw [cnt_append, cnt_cons, cnt_nil]; simp
theorem cnt_le (ls : List Int) (n : Nat) : cnt ls n ≤ ls.length := by
  unfold cnt; split
  · omega
  · exact List.countP_le_length
theorem take_snoc (ls : List Int) (k : Nat) (z : Int) (h : ls[k]? = some z) : ls.take (k + 1) = ls.take k ++ [z] := by
  rw [List.take_add_one, h]; rfl
theorem rm_snoc (a : List Int) (z : Int) : rmOf (a ++ [z]) = rmOf a + (if z = 0 then 0 else 2 ^ (15 - z.toNat)) := by
  induction a with
  | nil => simp [rmOf]
  | cons x r ih => simp only [List.cons_append, rmOf, ih]; omega
theorem rm_le (ls : List Int) : rmOf ls ≤ ls.length * 32768 := by
  induction ls with
  | nil => simp [rmOf]
  | cons z r ih =>
    have : 2 ^ (15 - z.toNat) ≤ 2 ^ 15 := Nat.pow_le_pow_right (by decide) (by omega)
    simp only [rmOf, List.length_cons]
    split <;> omega
theorem ks_add (a b : Nat → Nat) (n : Nat) : ks (fun i => a i + b i) n = ks a n + ks b n := by
  induction n with
  | zero => rfl
  | succ n ih => simp only [ks, ih, Nat.add_mul]; omega
theorem ks_one (z : Int) (hz : 0 ≤ z) (n : Nat) : ks (fun i => if i ≠ 0 ∧ z = i then 1 else 0) n = if 0 < z ∧ z < n then 2 ^ (15 - z.toNat) else 0 := by
  induction n with
  | zero => simp [ks]; omega
  | succ n ih =>
    rw [ks, ih]
    by_cases h : n ≠ 0 ∧ z = n
    · rw [if_pos h, if_neg (by omega), if_pos (by omega), h.2]; simp
    · rw [if_neg h]
      by_cases h2 : 0 < z ∧ z < n
      · rw [if_pos h2, if_pos (by omega)]; simp
      · rw [if_neg h2, if_neg (by omega)]; simp
theorem ks_rm (ls : List Int) (h : okL ls) : ks (cnt ls) 16 = rmOf ls := by
  induction ls with
  | nil => rfl
  | cons z r ih =>
    have hz := h z (by simp)
    have e : cnt (z :: r) = fun i => cnt r i + (if i ≠ 0 ∧ z = i then 1 else 0) := funext (cnt_cons z r)
    rw [e, ks_add, ks_one z hz.1, ih (fun y hy => h y (by simp [hy])), rmOf]
    by_cases h0 : z = 0
    · simp [h0]
    · rw [if_pos (by omega), if_neg h0]; omega
theorem ks_mono (m : Nat → Nat) (a b : Nat) (h : a ≤ b) : ks m a ≤ ks m b := by
  induction b with
  | zero => rw [show a = 0 from by omega]; exact Nat.le_refl _
  | succ b ih =>
    by_cases e : a = b + 1
    · rw [e]; exact Nat.le_refl _
    · have := ih (by omega)
      rw [ks]; omega
theorem fst_ks (m : Nat → Nat) (n : Nat) (h : n ≤ 15) : (fst m n + m n) * 2 ^ (15 - n) = ks m (n + 1) := by
  induction n with
  | zero => simp [fst, ks]
  | succ n ih =>
    have e : 2 ^ (15 - n) = 2 * 2 ^ (15 - (n + 1)) := by
      rw [show 15 - n = (15 - (n + 1)) + 1 from by omega, Nat.pow_succ]; omega
    have h1 := ih (by omega)
    rw [ks, ← h1, e, fst, Nat.add_mul, Nat.mul_assoc]
theorem fst_le (ls : List Int) (hM : May ls) (n : Nat) (h : n ≤ 15) : fst (cnt ls) n + cnt ls n ≤ 2 ^ n := by
  have h1 := fst_ks (cnt ls) n h
  have h2 := ks_mono (cnt ls) (n + 1) 16 (by omega)
  rw [ks_rm ls hM.2.2.1] at h2
  have h3 : (fst (cnt ls) n + cnt ls n) * 2 ^ (15 - n) ≤ 2 ^ n * 2 ^ (15 - n) := by
    rw [h1, ← Nat.pow_add, show n + (15 - n) = 15 from by omega]
    exact Nat.le_trans h2 hM.2.2.2
  exact Nat.le_of_mul_le_mul_right h3 (Nat.two_pow_pos _)
theorem att_add (a b : Nat → Nat) (n : Nat) : att (fun i => a i + b i) n = att a n + att b n := by
  induction n with
  | zero => rfl
  | succ n ih => simp only [att, ih]; omega
theorem att_one (z : Int) (n : Nat) : att (fun i => if i ≠ 0 ∧ z = i then 1 else 0) n = if 0 < z ∧ z < n then 1 else 0 := by
  induction n with
  | zero => simp [att]; omega
  | succ n ih =>
    rw [att, ih]
    by_cases h : n ≠ 0 ∧ z = n
    · rw [if_pos h, if_neg (by omega), if_pos (by omega)]
    · rw [if_neg h]
      by_cases h2 : 0 < z ∧ z < n
      · rw [if_pos h2, if_pos (by omega)]
      · rw [if_neg h2, if_neg (by omega)]
theorem att_le (ls : List Int) (n : Nat) : att (cnt ls) n ≤ ls.length := by
  induction ls with
  | nil =>
    have : cnt [] = fun _ => 0 := funext cnt_nil
    rw [this]
    induction n with
    | zero => simp [att]
    | succ n ih => simp [att] at ih ⊢; exact ih
  | cons z r ih =>
    have e : cnt (z :: r) = fun i => cnt r i + (if i ≠ 0 ∧ z = i then 1 else 0) := funext (cnt_cons z r)
    rw [e, att_add, att_one]
    simp only [List.length_cons]
    split <;> omega
theorem att_mono (m : Nat → Nat) (a b : Nat) (h : a ≤ b) : att m a ≤ att m b := by
  induction b with
  | zero => rw [show a = 0 from by omega]; exact Nat.le_refl _
  | succ b ih =>
    by_cases e : a = b + 1
    · rw [e]; exact Nat.le_refl _
    · have := ih (by omega)
      rw [att]; omega
theorem att_lt_of (ls : List Int) (a b : Nat) (h : a < b) : att (cnt ls) a + cnt ls a ≤ att (cnt ls) b := att_mono (cnt ls) (a + 1) b h
theorem lenAt_some {ls : List Int} {s n : Nat} (h : ls[s]? = some (n : Int)) : lenAt ls s = n := by
  simp [lenAt, List.getD_eq_getElem?_getD, h]
theorem some_lenAt {ls : List Int} {s : Nat} (hk : okL ls) (h : s < ls.length) : ls[s]? = some (lenAt ls s : Int) := by
  rw [List.getElem?_eq_getElem h]
  have := hk ls[s] (List.getElem_mem h)
  simp [lenAt, List.getD_eq_getElem?_getD, h]
  omega
theorem lenAt_le {ls : List Int} (hk : okL ls) (s : Nat) : lenAt ls s ≤ 15 := by
  by_cases h : s < ls.length
  · have h1 := hk ls[s] (List.getElem_mem h)
    simp [lenAt, List.getD_eq_getElem?_getD, h]
    omega
  · simp [lenAt, List.getD_eq_getElem?_getD, h]
theorem cnt_take_lt (ls : List Int) {a b n : Nat} (h : a < b) (hn : n ≠ 0) (ha : ls[a]? = some (n : Int)) : cnt (ls.take a) n < cnt (ls.take b) n := by
  have e : ls.take b = ls.take (a + 1) ++ (ls.take b).drop (a + 1) := by
    have := List.take_append_drop (a + 1) (ls.take b)
    rw [List.take_take, show min (a + 1) b = a + 1 from by omega] at this
    exact this.symm
  rw [e, cnt_append, take_snoc ls a n ha, cnt_snoc]
  simp [hn]
  omega
theorem rank_lt {ls : List Int} {s n : Nat} (hn : n ≠ 0) (h : ls[s]? = some (n : Int)) : rank ls s < cnt ls n := by
  have h1 := cnt_take_lt ls (b := ls.length) (List.getElem?_eq_some_iff.1 h).1 hn h
  rw [List.take_length] at h1
  rw [rank, lenAt_some h]
  exact h1
theorem snoc_ind {α : Type} {P : List α → Prop} (h0 : P []) (h1 : ∀ r z, P r → P (r ++ [z])) (l : List α) : P l := by
  have h : ∀ m : List α, P m.reverse := by
    intro m
    induction m with
    | nil => exact h0
    | cons z r ih => rw [List.reverse_cons]; exact h1 _ _ ih
  have := h l.reverse
  rwa [List.reverse_reverse] at this
theorem cnt_find (ls : List Int) (n j : Nat) (hn : n ≠ 0) (h : j < cnt ls n) : ∃ s : Nat, ls[s]? = some (n : Int) ∧ cnt (ls.take s) n = j := by
  induction ls using snoc_ind with
  | h0 => simp [cnt_nil] at h
  | h1 r z ih =>
    rw [cnt_snoc] at h
    by_cases h1 : j < cnt r n
    · obtain ⟨s, hs, hc⟩ := ih h1
      have hl := (List.getElem?_eq_some_iff.1 hs).1
      exact ⟨s, by rw [List.getElem?_append_left hl]; exact hs, by rw [List.take_append_of_le_length (by omega)]; exact hc⟩
    · by_cases h2 : n ≠ 0 ∧ z = n
      · rw [if_pos h2] at h
        refine ⟨r.length, by simp [h2.2], ?_⟩
        rw [List.take_append_of_le_length (Nat.le_refl _), List.take_length]; omega
      · rw [if_neg h2] at h; omega
theorem rank_inj {ls : List Int} {a b n : Nat} (hn : n ≠ 0) (ha : ls[a]? = some (n : Int)) (hb : ls[b]? = some (n : Int)) (h : rank ls a = rank ls b) : a = b := by
  rw [rank, rank, lenAt_some ha, lenAt_some hb] at h
  rcases Nat.lt_trichotomy a b with h1 | h1 | h1
  · have := cnt_take_lt ls h1 hn ha; omega
  · exact h1
  · have := cnt_take_lt ls h1 hn hb; omega
theorem place_lt {ls : List Int} {s n : Nat} (hn : n ≠ 0) (h : ls[s]? = some (n : Int)) : att (cnt ls) n + rank ls s < ls.length := by
  have h1 := rank_lt hn h
  have h2 := att_le ls (n + 1)
  rw [att] at h2
  omega
theorem place_inj {ls : List Int} {a b n k : Nat} (hn : n ≠ 0) (hk : k ≠ 0) (ha : ls[a]? = some (n : Int)) (hb : ls[b]? = some (k : Int))
    (h : att (cnt ls) n + rank ls a = att (cnt ls) k + rank ls b) : a = b := by
  have h1 := rank_lt hn ha
  have h2 := rank_lt hk hb
  rcases Nat.lt_trichotomy n k with h3 | h3 | h3
  · have := att_lt_of ls n k h3; omega
  · subst h3; exact rank_inj hn ha hb (by omega)
  · have := att_lt_of ls k n h3; omega
theorem cd_eq {ls : List Int} {s n : Nat} (hn : n ≠ 0) (h : ls[s]? = some (n : Int)) : cd ls s = fst (cnt ls) n + rank ls s := by
  rw [cd, lenAt_some h, if_neg hn]
theorem cd_lt {ls : List Int} {s n : Nat} (hM : May ls) (hn : n ≠ 0) (h : ls[s]? = some (n : Int)) : cd ls s < 2 ^ n := by
  have h1 := hM.2.2.1 n (List.mem_of_getElem? h)
  have h2 := fst_le ls hM n (by omega)
  have h3 := rank_lt hn h
  rw [cd_eq hn h]
  omega
theorem cd_lt16 {ls : List Int} (hM : May ls) (s : Nat) : cd ls s < 32768 := by
  unfold cd
  split
  · omega
  · rename_i h0
    have hl : s < ls.length := by
      by_cases h : s < ls.length
      · exact h
      · exact absurd (by simp [lenAt, List.getD_eq_getElem?_getD, h]) h0
    have h1 := some_lenAt hM.2.2.1 hl
    have h2 := cd_lt hM h0 h1
    have h3 : 2 ^ lenAt ls s ≤ 2 ^ 15 := Nat.pow_le_pow_right (by decide) (lenAt_le hM.2.2.1 s)
    rw [cd_eq h0 h1] at h2
    omega
theorem cd_inj {ls : List Int} {a b n : Nat} (hn : n ≠ 0) (ha : ls[a]? = some (n : Int)) (hb : ls[b]? = some (n : Int)) (h : cd ls a = cd ls b) : a = b := by
  rw [cd_eq hn ha, cd_eq hn hb] at h
  exact rank_inj hn ha hb (by omega)
theorem fst_far (m : Nat → Nat) (n d : Nat) : (fst m n + m n) * 2 ^ (d + 1) ≤ fst m (n + d + 1) := by
  induction d with
  | zero => simp [fst]
  | succ d ih =>
    rw [show n + (d + 1) + 1 = (n + d + 1) + 1 from by omega, fst, Nat.pow_succ, ← Nat.mul_assoc]
    have : (fst m n + m n) * 2 ^ (d + 1) ≤ fst m (n + d + 1) + m (n + d + 1) := by omega
    exact Nat.mul_le_mul_right 2 this
theorem apart {ls : List Int} {a b n k : Nat} (hn : n ≠ 0) (hle : n ≤ k) (ha : ls[a]? = some (n : Int)) (hb : ls[b]? = some (k : Int)) (hne : a ≠ b) :
    cd ls b / 2 ^ (k - n) ≠ cd ls a := by
  rcases Nat.eq_or_lt_of_le hle with h | h
  · subst h
    simp only [Nat.sub_self, Nat.pow_zero, Nat.div_one]
    intro h2
    exact hne (cd_inj hn hb ha h2).symm
  · obtain ⟨d, rfl⟩ : ∃ d, k = n + d + 1 := ⟨k - n - 1, by omega⟩
    have h1 := rank_lt hn ha
    have h2 := fst_far (cnt ls) n d
    rw [cd_eq hn ha, cd_eq (by omega) hb, show n + d + 1 - n = d + 1 from by omega]
    have h3 : fst (cnt ls) n + cnt ls n ≤ (fst (cnt ls) (n + d + 1) + rank ls b) / 2 ^ (d + 1) := by
      rw [Nat.le_div_iff_mul_le (Nat.two_pow_pos _)]
      omega
    omega
theorem deepU_le (m : Nat → Nat) (n : Nat) : ∀ i, i < n → 0 < m i → i ≤ deepU m n := by
  induction n with
  | zero => intro i h; omega
  | succ n ih =>
    intro i h h0
    rw [deepU]
    split
    · omega
    · rename_i h1
      have : i ≠ n := by rintro rfl; exact h1 h0
      exact ih i (by omega) h0
theorem deepU_lt (m : Nat → Nat) (n : Nat) : deepU m n ≤ n - 1 := by
  induction n with
  | zero => simp [deepU]
  | succ n ih => rw [deepU]; split <;> omega
theorem deepU_pos (m : Nat → Nat) (n : Nat) (h : 0 < deepU m n) : 0 < m (deepU m n) := by
  induction n with
  | zero => simp [deepU] at h
  | succ n ih =>
    rw [deepU] at h ⊢
    split
    · assumption
    · rename_i h1
      rw [if_neg h1] at h
      exact ih h
theorem deepL_le (ls : List Int) : deepL ls ≤ 15 := deepU_lt _ 16
theorem deepL_of {ls : List Int} (hk : okL ls) {s n : Nat} (hn : n ≠ 0) (h : ls[s]? = some (n : Int)) : n ≤ deepL ls := by
  have h1 := hk n (List.mem_of_getElem? h)
  have h2 := rank_lt hn h
  exact deepU_le _ 16 n (by omega) (by omega)
theorem deepL_some {ls : List Int} (h : deepL ls ≠ 0) : ∃ s : Nat, ls[s]? = some (deepL ls : Int) := by
  have h1 := deepU_pos (cnt ls) 16 (by show 0 < deepL ls; omega)
  obtain ⟨s, hs, _⟩ := cnt_find ls (deepL ls) 0 h h1
  exact ⟨s, hs⟩
def vl (B : List Bool) : Nat := B.foldl (fun x b => 2 * x + b.toNat) 0
theorem vl_snoc (B : List Bool) (b : Bool) : vl (B ++ [b]) = 2 * vl B + b.toNat := by simp [vl, List.foldl_append]
theorem vl_lt (B : List Bool) : vl B < 2 ^ B.length := by
  induction B using snoc_ind with
  | h0 => simp [vl]
  | h1 r z ih =>
    rw [vl_snoc, List.length_append, List.length_singleton, Nat.pow_succ]
    cases z <;> simp <;> omega
def Hit (ls : List Int) (B : List Bool) (n s : Nat) : Prop := n ≠ 0 ∧ n ≤ B.length ∧ ls[s]? = some (n : Int) ∧ cd ls s = vl (B.take n)
inductive Out (ls : List Int) (B : List Bool) : Nat → Nat → Int → Prop
  | ok (n s : Nat) (h : Hit ls B n s) (h0 : ∀ m q, m < n → ¬ Hit ls B m q) : Out ls B s n 0
  | cut (h : B.length < deepL ls) (h0 : ∀ m q, ¬ Hit ls B m q) : Out ls B 0 B.length 10
  | code (h : deepL ls ≤ B.length) (h0 : ∀ m q, ¬ Hit ls B m q) : Out ls B 0 (deepL ls) 13
theorem Out.one {ls : List Int} {B : List Bool} {s n s' n' : Nat} {e e' : Int} (h : Out ls B s n e) (k : Out ls B s' n' e') : s = s' ∧ n = n' ∧ e = e' := by
  cases h with
  | ok n s h h0 =>
    cases k with
    | ok n' s' k k0 =>
      have hn : n = n' := by
        rcases Nat.lt_trichotomy n n' with h1 | h1 | h1
        · exact absurd h (k0 _ _ h1)
        · exact h1
        · exact absurd k (h0 _ _ h1)
      subst hn
      exact ⟨cd_inj h.1 h.2.2.1 k.2.2.1 (by rw [h.2.2.2, k.2.2.2]), rfl, rfl⟩
    | cut k k0 => exact absurd h (k0 _ _)
    | code k k0 => exact absurd h (k0 _ _)
  | cut h h0 =>
    cases k with
    | ok n' s' k k0 => exact absurd k (h0 _ _)
    | cut k k0 => exact ⟨rfl, rfl, rfl⟩
    | code k k0 => omega
  | code h h0 =>
    cases k with
    | ok n' s' k k0 => exact absurd k (h0 _ _)
    | cut k k0 => omega
    | code k k0 => exact ⟨rfl, rfl, rfl⟩
theorem Out.le {ls : List Int} {B : List Bool} {s n : Nat} {e : Int} (h : Out ls B s n e) : n ≤ B.length := by
  cases h with
  | ok n s h h0 => exact h.2.1
  | cut h h0 => exact Nat.le_refl _
  | code h h0 => exact h
end Go.Proofs.YtmmilchmnimjoaaGreat
/- The document's own answer: how much room lengths take, and whether they may be. -/
namespace Go.Proofs.YtmmilchmnimjoaaGreat
open Go.RowKit
set_option linter.unusedVariables false
def icells (ls : List Int) : List Value := ls.map (Value.int .i64)
theorem icells_len (ls : List Int) : (icells ls).length = ls.length := by simp [icells]
theorem icells_one (ls : List Int) : ∀ u ∈ icells ls, u.oneCell' = true := by
  intro u hu
  obtain ⟨_, _, rfl⟩ := List.mem_map.1 hu
  rfl
theorem icells_get {ls : List Int} {k : Nat} {z : Int} (h : ls[k]? = some z) : (icells ls)[k]? = some (.int .i64 z) := by simp [icells, h]
def in64 (ls : List Int) : Prop := ∀ z ∈ ls, -9223372036854775808 ≤ z ∧ z ≤ 9223372036854775807
def rmv (ls : List Int) : Int := if May ls then rmOf ls else -1
theorem may_take {ls : List Int} {k : Nat} {z : Int} (h : okL (ls.take k)) (hz : ls[k]? = some z) (h0 : 0 ≤ z) (h1 : z ≤ 15) : okL (ls.take (k + 1)) := by
  rw [take_snoc ls k z hz]
  intro y hy
  rcases List.mem_append.1 hy with h2 | h2
  · exact h y h2
  · simp at h2; subst h2; exact ⟨h0, h1⟩
theorem not_okL {ls : List Int} {k : Nat} {z : Int} (hz : ls[k]? = some z) (h : z < 0 ∨ 15 < z) : ¬ okL ls := by
  intro h2
  have := h2 z (List.mem_of_getElem? hz)
  omega
theorem not_may {ls : List Int} (h : ¬ okL ls) : ¬ May ls := fun h2 => h h2.2.2.1
theorem half (k : Nat) (h : k < 15) : 2 ^ (15 - k) / 2 = 2 ^ (15 - (k + 1)) := by
  rw [show 15 - k = (15 - (k + 1)) + 1 from by omega, Nat.pow_succ]
  omega
set_option maxHeartbeats 1000000 in
theorem rroom_any (ls : List Int) (A : Option Addr) (c : Nat) (w : World) (hL : ls.length ≤ 1000) (hb : in64 ls) (hS : Src w 1 A ls.length c (icells ls)) :
    Calls Tryz.prog 123 #[.slice A ls.length c] w fun e w' => e = .returned (.int .i64 (rmv ls)) ∧ w = w' := by
  have HS := keepf hS
  have HB := keepf hb
  clear hS hb
  by_cases h0 : ls.length = 0
  · have H : Hid (rmv ls = -1) := by
      show rmv ls = -1
      rw [rmv, if_neg]
      rintro ⟨h, _⟩
      omega
    rw [h0]
    clear HS HB hL h0
    go_enter Tryz.func123, Tryz.ntmps123
    go_wp2_with fail
    go_ret
    exact ⟨by rw [H.out]; rfl, rfl⟩
  · by_cases h320 : 320 < ls.length
    · have H : Hid (rmv ls = -1) := by
        show rmv ls = -1
        rw [rmv, if_neg]
        rintro ⟨_, h, _⟩
        omega
      clear HS HB hL
      generalize ls.length = n at *
      have d1 : decide ((n : Int) = 0) = false := by simp; omega
      have d2 : decide ((320 : Int) < n) = true := by simp; omega
      go_enter Tryz.func123, Tryz.ntmps123
      go_wp2_with fail
      go_ret
      exact ⟨by rw [H.out]; rfl, rfl⟩
    · obtain ⟨n, hn⟩ : ∃ n, n = ls.length := ⟨_, rfl⟩
      rw [← hn] at h0 h320 hL ⊢
      have d1 : decide ((n : Int) = 0) = false := by simp; omega
      have d2 : decide ((320 : Int) < n) = false := by simp; omega
      have HN := keepf hn
      clear hn
      obtain ⟨b, off, rfl, hcell⟩ := HS.out.plain (by rw [icells_len]; have := HN.out; omega)
      have HC := keepf hcell
      clear hcell HS
      go_enter Tryz.func123, Tryz.ntmps123
      go_wp2_with fail
      clear d1 d2
      go_loop [3, 4] (fun v i => ∃ k x : Nat, k ≤ n ∧ x ≤ 10485760 ∧ i = .int .i64 k ∧ v = .int .i64 x ∧ Hid (x = rmOf (ls.take k) ∧ okL (ls.take k))) (fun _ i => n - (intOf i).toNat)
      case atStart => exact ⟨0, 0, Nat.zero_le _, by omega, rfl, rfl, rfl, fun z hz => by simp at hz⟩
      case round =>
        obtain ⟨k, x, hk, hx, rfl, rfl, hI⟩ := hrel
        by_cases hlt : k < n
        · obtain ⟨z, hz⟩ : ∃ z, ls[k]? = some z := ⟨_, List.getElem?_eq_getElem (by have := HN.out; omega)⟩
          have hc := HC.out k _ (icells_get hz)
          have hzb := HB.out z (List.mem_of_getElem? hz)
          have HZ := keepf hz
          clear hz
          by_cases hneg : z < 0
          · have d1 : decide (z < 0) = true := by simpa using hneg
            go_wp2_with fail
            go_ret
            exact ⟨by rw [rmv, if_neg (not_may (not_okL HZ.out (.inl hneg)))]; rfl, rfl⟩
          · have d1 : decide (z < 0) = false := by simpa using hneg
            by_cases hbig : 15 < z
            · have d2 : decide (15 < z) = true := by simpa using hbig
              go_wp2_with fail
              go_ret
              exact ⟨by rw [rmv, if_neg (not_may (not_okL HZ.out (.inr hbig)))]; rfl, rfl⟩
            · have d2 : decide (15 < z) = false := by simpa using hbig
              obtain ⟨m, rfl⟩ := Int.eq_ofNat_of_zero_le (by omega : 0 ≤ z)
              have hm : m ≤ 15 := by omega
              go_wp2_with fail
              clear d1 d2 hneg hbig hzb
              go_loop [5, 6] (fun v i => ∃ j y : Nat, j ≤ m ∧ y ≤ 32768 ∧ i = .int .i64 j ∧ v = .int .i64 y ∧ Hid (y = 2 ^ (15 - j))) (fun _ i => m - (intOf i).toNat)
              case atStart => exact ⟨0, 32768, Nat.zero_le _, Nat.le_refl _, rfl, rfl, rfl⟩
              case round =>
                obtain ⟨j, y, hj, hy, rfl, rfl, hJ⟩ := hrel
                by_cases hjm : j < m
                · go_wp2_with fail
                  go_round
                  case rel => exact ⟨j + 1, y / 2, by omega, by omega, by go_num, by go_num, by show y / 2 = _; rw [hJ.out]; exact half j (by omega)⟩
                  case measure => simp [intOf]; omega
                · obtain rfl : j = m := by omega
                  have hr : rmOf (ls.take (k + 1)) = rmOf (ls.take k) + (if (j : Int) = 0 then 0 else 2 ^ (15 - j)) := by
                    rw [take_snoc ls k j HZ.out, rm_snoc]; simp
                  have hle := rm_le (ls.take (k + 1))
                  have hlen : (ls.take (k + 1)).length ≤ 320 := by have := HN.out; simp; omega
                  have ho := may_take hI.out.2 HZ.out (by omega) (by omega)
                  rw [← hI.out.1, ← hJ.out] at hr
                  have HR := keepf hr
                  have HO := keepf ho
                  have hx2 : rmOf (ls.take (k + 1)) ≤ 10485760 := by omega
                  rw [hr] at hx2
                  clear hle hlen ho hr
                  by_cases hj0 : j = 0
                  · subst hj0
                    go_wp2_with fail
                    go_round
                    case rel => exact ⟨_, _, _, ⟨k + 1, by omega, x, by omega, by go_num, rfl, ⟨by simpa using HR.out.symm, HO.out⟩⟩, rfl, rfl, rfl⟩
                    case measure => simp [intOf]; omega
                  · rw [if_neg (by omega)] at hx2
                    go_wp2_with fail
                    go_round
                    case rel => exact ⟨_, _, _, ⟨k + 1, by omega, x + y, by omega, by go_num, by go_num, ⟨by have := HR.out; rw [if_neg (by omega)] at this; exact this.symm, HO.out⟩⟩, rfl, rfl, rfl⟩
                    case measure => simp [intOf]; omega
        · obtain rfl : k = n := by omega
          have hI2 : x = rmOf ls ∧ okL ls := by have := hI.out; rwa [HN.out, List.take_length] at this
          by_cases hbig : 32768 < x
          · go_wp2_with fail
            go_ret
            have hno : ¬ May ls := by
              rintro ⟨_, _, _, h⟩
              omega
            exact ⟨by rw [rmv, if_neg hno]; rfl, rfl⟩
          · go_wp2_with fail
            go_ret
            have hyes : May ls := ⟨by have := HN.out; omega, by have := HN.out; omega, hI2.2, by omega⟩
            exact ⟨by rw [rmv, if_pos hyes, ← hI2.1]; rfl, rfl⟩
theorem rmay_any (ls : List Int) (A : Option Addr) (c : Nat) (w : World) (hL : ls.length ≤ 1000) (hb : in64 ls) (hS : Src w 1 A ls.length c (icells ls)) :
    Calls Tryz.prog 105 #[.slice A ls.length c] w fun e w' => e = .returned (.bool (decide (May ls))) ∧ w = w' := by
  have HP := keepf (fun W h => rroom_any ls A c W hL hb h)
  have HS := keepf hS
  clear hS hb
  go_enter Tryz.func105, Tryz.ntmps105
  go_wp2_with (go_at_call 123; refine (HP.out _ HS.out).mono ?_; rintro e w' ⟨rfl, rfl⟩)
  go_ret
  refine ⟨?_, rfl⟩
  by_cases h : May ls
  · simp [rmv, h]
  · simp [rmv, h]
end Go.Proofs.YtmmilchmnimjoaaGreat
/- Whole arrays and structs: loaded, stored, made, copied into, in a block that is known whole. Plain laws, no program. -/
namespace Go.Proofs.YtmmilchmnimjoaaGreat
open Go.RowKit
set_option linter.unusedVariables false
set_option linter.unusedSimpArgs false
theorem blk_setRow {w : World} {g : Nat} {t : TypeId} {cs : Array Value} (h : Blk w g t cs) (cs' : Array Value) : Blk (w.setRow g cs') g t cs' := setRow_heap w g cs cs' t (0, 0) h
theorem chg_setRow (w : World) (g : Nat) (cs : Array Value) : Chg (fun i => i = g) w (w.setRow g cs) :=
  ⟨rfl, rfl, rfl, by simp [World.setRow], fun k _ hk => setRow_other w g k cs hk⟩
section
variable {P : Program} {ops : Array Oper} {rest : List Oper} {o : Oper} {a : Act} {w : World} {Q : Exit → Act → World → Prop}
theorem load_blk (hgd : o.guard = none) (ty : TypeId) (x : Operand) (ho : o.op = .load ty x) (g : Nat) (hx : a.eval x = .pointer (some ⟨g, 0, none⟩)) (t : TypeId) (cs : Array Value) (d : TypeDesc)
    (hg : Blk w g t cs) (hu : P.underlying ty = some d) (hd : d.isRow = true) (n : Nat) (hi : (P.info? ty).map (·.size) = some n) (hn : cs.size = n)
    (h : wpList P ops Q rest (a.put o.dst (.agg cs)) w) : wpList P ops Q (o :: rest) a w :=
  wpList_load_row hgd ty x ho g hx t cs (0, 0) d hg hu (by cases d <;> simp_all [TypeDesc.isRow]) (by rw [hi, hn]) h
theorem load_mid (hgd : o.guard = none) (ty : TypeId) (x : Operand) (ho : o.op = .load ty x) (g off : Nat) (hx : a.eval x = .pointer (some ⟨g, off, none⟩)) (cs : Array Value) (d : TypeDesc)
    (hg : w.rangeAt g off cs.toList) (hu : P.underlying ty = some d) (hd : d.isRow = true) (n : Nat) (hi : (P.info? ty).map (·.size) = some n) (hn : cs.size = n)
    (h : wpList P ops Q rest (a.put o.dst (.agg cs)) w) : wpList P ops Q (o :: rest) a w :=
  wpList_load_mid hgd ty x ho g off hx cs.toList d hg hu hd (by rw [hi, ← hn]; simp) (by simpa using h)
theorem store_blk (hgd : o.guard = none) (ty : TypeId) (x y : Operand) (ho : o.op = .store ty x y) (g : Nat) (cells : Array Value) (hx : a.eval x = .pointer (some ⟨g, 0, none⟩)) (hy : a.eval y = .agg cells)
    (t : TypeId) (old : Array Value) (hg : Blk w g t old) (n : Nat) (hi : (P.info? ty).map (·.size) = some n) (hn : cells.size = n) (hold : old.size = n) (h1 : cells.all (·.oneCell') = true)
    (h : ∀ w', Blk w' g t cells → Chg (fun i => i = g) w w' → wpList P ops Q rest (a.put o.dst undef) w') : wpList P ops Q (o :: rest) a w :=
  wpList_store_row hgd ty x y ho g cells hx hy t old hg (by rw [hi, hn]) (by rw [hold, hn]) h1 (h _ (blk_setRow hg cells) (chg_setRow w g cells))
theorem alloc_big (hgd : o.guard = none) (ty : TypeId) (ho : o.op = .alloc ty) (Z : Array Value) (hz : (P.info? ty).bind (·.zero) = some (.agg Z))
    (h : ∀ w' g, g = w.heap.size → Blk w' g ty Z → Chg NoS w w' → wpList P ops Q rest (a.put o.dst (.pointer (some ⟨g, 0, none⟩))) w') : wpList P ops Q (o :: rest) a w := by
  refine wpList_plain hgd fun K hK => ?_
  have h1 := hK _ _ (h (w.alloc (.cells Z ty)) _ rfl (Blk.new w ty Z) ((Chg.refl _ _).alloc _))
  cases hq : P.info? ty with
  | none => simp [hq] at hz
  | some i =>
    have hz' : i.zero = some (.agg Z) := by simpa [hq] using hz
    unfold Oper.wp execOp
    simp [ho, Instr.alloc, zeroValue, typeInfo, hq, hz', newVar, newRow, newObj, Value.cells, Sem.run_bind, Result.andThen]
    exact h1
end
structure RowsIs (R : Array Value) (f m a : Nat → Nat) : Prop where
  size : R.size = 48
  c0 : ∀ i, i < 16 → R[i * 3]? = some (.int .u32 (f i : Nat))
  c1 : ∀ i, i < 16 → R[i * 3 + 1]? = some (.int .u32 (m i : Nat))
  c2 : ∀ i, i < 16 → R[i * 3 + 2]? = some (.int .i64 (a i : Nat))
theorem RowsIs.one {R : Array Value} {f m a : Nat → Nat} (h : RowsIs R f m a) : R.all (·.oneCell') = true := by
  rw [Array.all_eq_true]
  intro j hj
  have hs := h.size
  have hq : j / 3 < 16 := by omega
  have e : ∀ v, R[j]? = some v → v = R[j] := fun v hv => by
    rw [Array.getElem?_eq_getElem hj] at hv
    exact (Option.some.inj hv).symm
  rcases (by omega : j % 3 = 0 ∨ j % 3 = 1 ∨ j % 3 = 2) with h3 | h3 | h3
  · have := h.c0 _ hq
    rw [show j / 3 * 3 = j from by omega] at this
    rw [← e _ this]; rfl
  · have := h.c1 _ hq
    rw [show j / 3 * 3 + 1 = j from by omega] at this
    rw [← e _ this]; rfl
  · have := h.c2 _ hq
    rw [show j / 3 * 3 + 2 = j from by omega] at this
    rw [← e _ this]; rfl
theorem RowsIs.set1 {R : Array Value} {f m a : Nat → Nat} (h : RowsIs R f m a) (n v : Nat) (hn : n < 16) : RowsIs (R.setIfInBounds (n * 3 + 1) (.int .u32 (v : Nat))) f (fun i => if i = n then v else m i) a where
  size := by simpa using h.size
  c0 i hi := by
    rw [Array.getElem?_setIfInBounds_ne (by omega)]
    exact h.c0 i hi
  c1 i hi := by
    by_cases e : i = n
    · subst e
      have := h.size
      rw [Array.getElem?_setIfInBounds_self_of_lt (by omega)]
      simp
    · rw [Array.getElem?_setIfInBounds_ne (by omega), h.c1 i hi]
      simp [e]
  c2 i hi := by
    rw [Array.getElem?_setIfInBounds_ne (by omega)]
    exact h.c2 i hi
theorem RowsIs.congr {R : Array Value} {f m a f' m' a' : Nat → Nat} (h : RowsIs R f m a) (hf : ∀ i, i < 16 → f i = f' i) (hm : ∀ i, i < 16 → m i = m' i) (ha : ∀ i, i < 16 → a i = a' i) : RowsIs R f' m' a' where
  size := h.size
  c0 i hi := by rw [← hf i hi]; exact h.c0 i hi
  c1 i hi := by rw [← hm i hi]; exact h.c1 i hi
  c2 i hi := by rw [← ha i hi]; exact h.c2 i hi
theorem results_cell2 {P : Program} {fn : Func} {p u v : Tmp} {ty : TypeId} (h : fn.results = #[.cell p ty, .tmp u, .tmp v]) (tmps : Array Value) (w : World) (g : Nat) (t : TypeId) (cs : Array Value) (d : TypeDesc) (x y : Value)
    (hp : tmps.getD p undef = .pointer (some ⟨g, 0, none⟩)) (hg : Blk w g t cs) (hu : P.underlying ty = some d) (hd : d.isRow = true) (n : Nat) (hi : (P.info? ty).map (·.size) = some n) (hn : cs.size = n)
    (hx : tmps.getD u undef = x) (hy : tmps.getD v undef = y) :
    (results fn tmps).run P w = .ok (.tuple #[.agg cs, x, y]) w := by
  have hl := run_loadVar_row (P := P) w g t ty cs (0, 0) d hg hu (by cases d <;> simp_all [TypeDesc.isRow]) (by rw [hi, hn])
  have hp' : tmps[p]?.getD undef = .pointer (some ⟨g, 0, none⟩) := by simpa using hp
  have hx' : tmps[u]?.getD undef = x := by simpa using hx
  have hy' : tmps[v]?.getD undef = y := by simpa using hy
  simp [results, h, hp', hx', hy', asAddr, hl, Sem.run_bind, Result.andThen]
end Go.Proofs.YtmmilchmnimjoaaGreat
/- What count tells of lengths: the rows that they ask for, and the room. -/
namespace Go.Proofs.YtmmilchmnimjoaaGreat
open Go.RowKit
set_option linter.unusedVariables false
set_option linter.unusedSimpArgs false
def zrows : Array Value := ((List.range 48).map fun j => if j % 3 = 2 then Value.int .i64 0 else .int .u32 0).toArray
theorem zero_rows : (Tryz.prog.info? 156).bind (·.zero) = some (.agg zrows) := by kernel_rfl
theorem size_rows : (Tryz.prog.info? 156).map (·.size) = some 48 := by kernel_rfl
theorem rows_zero : RowsIs zrows (fun _ => 0) (fun _ => 0) (fun _ => 0) where
  size := by simp [zrows]
  c0 i hi := by simp [zrows, show i * 3 < 48 from by omega, show i * 3 % 3 = 0 from by omega]
  c1 i hi := by simp [zrows, show i * 3 + 1 < 48 from by omega, show (i * 3 + 1) % 3 = 1 from by omega]
  c2 i hi := by simp [zrows, show i * 3 + 2 < 48 from by omega, show (i * 3 + 2) % 3 = 2 from by omega]
def CountTo (w : World) (ls : List Int) (e : Ending) (w' : World) : Prop :=
  ∃ (R : Array Value) (x : Nat), e = .returned (.tuple #[.agg R, .int .i64 x, .bool (decide (May ls))]) ∧ R.size = 48 ∧ R.all (·.oneCell') = true ∧ (May ls → x = rmOf ls ∧ RowsIs R (fun _ => 0) (cnt ls) (fun _ => 0)) ∧ Chg NoS w w'
theorem chg_new {w wr w2 : World} {g : Nat} (h : Chg NoS w wr) (hg : g = w.heap.size) (k : Chg (fun i => i = g) wr w2) : Chg NoS w w2 :=
  h.trans k (fun i hi e => by omega)
theorem shr_room (m : Nat) (hm : m ≤ 15) : 32768 / 2 ^ m = 2 ^ (15 - m) := by
  rw [show (32768 : Nat) = 2 ^ 15 from rfl, Nat.pow_div hm (by decide)]
set_option maxHeartbeats 2000000 in
set_option maxRecDepth 100000 in
theorem count_any (ls : List Int) (A : Option Addr) (c : Nat) (w : World) (hL : ls.length ≤ 1000) (hb : in64 ls) (hS : Src w 1 A ls.length c (icells ls)) :
    Calls Tryz.prog 118 #[.slice A ls.length c] w (CountTo w ls) := by
  have HS := keepf hS
  have HB := keepf hb
  clear hS hb
  by_cases h0 : ls.length < 1
  · have H : Hid (¬ May ls) := by
      show ¬ May ls
      rintro ⟨h, _⟩
      omega
    have e0 : ls.length = 0 := by omega
    rw [e0]
    clear HS HB hL h0 e0
    go_enter Tryz.func118, Tryz.ntmps118
    go_wp2_with (first
      | (refine alloc_big rfl 156 rfl _ zero_rows ?_; intro w1 g hg hblk hch; have HG := keepf hg; have HBL := keepf hblk; have HCH := keepf hch; clear hg hblk hch)
      | (refine load_blk rfl 156 _ rfl _ rfl 156 _ _ HBL.out Tryz.underlying156 rfl 48 size_rows rows_zero.size ?_)
      | (refine store_blk rfl 156 _ _ rfl _ _ rfl rfl 156 _ HBL.out 48 size_rows rows_zero.size rows_zero.size rows_zero.one ?_; intro w2 hblk2 hch2; have HB2 := keepf hblk2; have HC2 := keepf hch2; clear hblk2 hch2))
    refine bodyPost_ret (results_cell2 rfl _ _ _ _ _ _ _ _ rfl HB2.out Tryz.underlying156 rfl 48 size_rows rows_zero.size rfl rfl) rfl ?_
    exact ⟨zrows, 0, by rw [decide_eq_false H.out]; rfl, rows_zero.size, rows_zero.one, fun h => absurd h H.out, chg_new HCH.out HG.out HC2.out⟩
  · by_cases h320 : 320 < ls.length
    · have H : Hid (¬ May ls) := by
        show ¬ May ls
        rintro ⟨_, h, _⟩
        omega
      clear HS HB hL
      generalize ls.length = n at *
      have d1 : decide ((n : Int) < 1) = false := by simp; omega
      have d2 : decide ((320 : Int) < n) = true := by simp; omega
      go_enter Tryz.func118, Tryz.ntmps118
      go_wp2_with (first
        | (refine alloc_big rfl 156 rfl _ zero_rows ?_; intro w1 g hg hblk hch; have HG := keepf hg; have HBL := keepf hblk; have HCH := keepf hch; clear hg hblk hch)
        | (refine load_blk rfl 156 _ rfl _ rfl 156 _ _ HBL.out Tryz.underlying156 rfl 48 size_rows rows_zero.size ?_)
        | (refine store_blk rfl 156 _ _ rfl _ _ rfl rfl 156 _ HBL.out 48 size_rows rows_zero.size rows_zero.size rows_zero.one ?_; intro w2 hblk2 hch2; have HB2 := keepf hblk2; have HC2 := keepf hch2; clear hblk2 hch2))
      refine bodyPost_ret (results_cell2 rfl _ _ _ _ _ _ _ _ rfl HB2.out Tryz.underlying156 rfl 48 size_rows rows_zero.size rfl rfl) rfl ?_
      exact ⟨zrows, 0, by rw [decide_eq_false H.out]; rfl, rows_zero.size, rows_zero.one, fun h => absurd h H.out, chg_new HCH.out HG.out HC2.out⟩
    · obtain ⟨n, hn⟩ : ∃ n, n = ls.length := ⟨_, rfl⟩
      rw [← hn] at h0 h320 hL ⊢
      have d1 : decide ((n : Int) < 1) = false := by simp; omega
      have d2 : decide ((320 : Int) < n) = false := by simp; omega
      have HN := keepf hn
      clear hn
      obtain ⟨b, off, rfl, hcell⟩ := HS.out.plain (by rw [icells_len]; have := HN.out; omega)
      have HC := keepf hcell
      clear hcell HS
      go_enter Tryz.func118, Tryz.ntmps118
      go_wp2_with (first
        | (refine alloc_big rfl 156 rfl _ zero_rows ?_; intro w1 g hg hblk hch; have HG := keepf hg; have HBL := keepf hblk; have HCH := keepf hch; clear hg hblk hch))
      clear d1 d2
      go_loopw [3, 18] (fun v i wr => ∃ k x : Nat, ∃ R : Array Value, k ≤ n ∧ x ≤ 10485760 ∧ i = .int .i64 k ∧ v = .int .i64 x ∧ Hid (x = rmOf (ls.take k) ∧ okL (ls.take k)) ∧ Hid (RowsIs R (fun _ => 0) (cnt (ls.take k)) (fun _ => 0)) ∧ Blk wr g 156 R ∧ Chg NoS w wr) (fun _ i _ => n - (intOf i).toNat)
      case atStart => exact ⟨0, 0, zrows, Nat.zero_le _, by omega, rfl, rfl, ⟨rfl, fun z hz => by simp at hz⟩, rows_zero.congr (fun _ _ => rfl) (fun i _ => by simp [cnt_nil]) (fun _ _ => rfl), HBL.out, HCH.out⟩
      case round =>
        obtain ⟨k, x, R, hk, hx, rfl, rfl, hI, hR, hB, hch⟩ := hrel
        have HBk := keepf hB
        have HCh := keepf hch
        clear hB hch
        by_cases hlt : k < n
        · obtain ⟨z, hz⟩ : ∃ z, ls[k]? = some z := ⟨_, List.getElem?_eq_getElem (by have := HN.out; omega)⟩
          have hc := (HCh.out.cell (p := ⟨b, off + k, none⟩) (by exact cell_lt (HC.out k _ (icells_get hz))) (fun h => h)).trans (HC.out k _ (icells_get hz))
          have hzb := HB.out z (List.mem_of_getElem? hz)
          have HZ := keepf hz
          clear hz
          by_cases hneg : z < 0
          · have d1 : decide (z < 0) = true := by simpa using hneg
            go_wp2_with (first
              | (refine load_blk rfl 156 _ rfl _ rfl 156 _ _ HBk.out Tryz.underlying156 rfl 48 size_rows hR.out.size ?_)
              | (refine store_blk rfl 156 _ _ rfl _ _ rfl rfl 156 _ HBk.out 48 size_rows hR.out.size hR.out.size hR.out.one ?_; intro w2 hblk2 hch2; have HB2 := keepf hblk2; have HC2 := keepf hch2; clear hblk2 hch2))
            refine bodyPost_ret (results_cell2 rfl _ _ _ _ _ _ _ _ rfl HB2.out Tryz.underlying156 rfl 48 size_rows hR.out.size rfl rfl) rfl ?_
            have hno := not_may (not_okL HZ.out (.inl hneg))
            exact ⟨R, 0, by rw [decide_eq_false hno]; rfl, hR.out.size, hR.out.one, fun h => absurd h hno, chg_new HCh.out HG.out HC2.out⟩
          · have d1 : decide (z < 0) = false := by simpa using hneg
            by_cases hbig : 15 < z
            · have d2 : decide (15 < z) = true := by simpa using hbig
              go_wp2_with (first
                | (refine load_blk rfl 156 _ rfl _ rfl 156 _ _ HBk.out Tryz.underlying156 rfl 48 size_rows hR.out.size ?_)
                | (refine store_blk rfl 156 _ _ rfl _ _ rfl rfl 156 _ HBk.out 48 size_rows hR.out.size hR.out.size hR.out.one ?_; intro w2 hblk2 hch2; have HB2 := keepf hblk2; have HC2 := keepf hch2; clear hblk2 hch2))
              refine bodyPost_ret (results_cell2 rfl _ _ _ _ _ _ _ _ rfl HB2.out Tryz.underlying156 rfl 48 size_rows hR.out.size rfl rfl) rfl ?_
              have hno := not_may (not_okL HZ.out (.inr hbig))
              exact ⟨R, 0, by rw [decide_eq_false hno]; rfl, hR.out.size, hR.out.one, fun h => absurd h hno, chg_new HCh.out HG.out HC2.out⟩
            · have d2 : decide (15 < z) = false := by simpa using hbig
              obtain ⟨m, rfl⟩ := Int.eq_ofNat_of_zero_le (by omega : 0 ≤ z)
              have hm : m ≤ 15 := by omega
              have ho := may_take hI.out.2 HZ.out (by omega) (by omega)
              have hr : rmOf (ls.take (k + 1)) = rmOf (ls.take k) + (if (m : Int) = 0 then 0 else 2 ^ (15 - m)) := by
                rw [take_snoc ls k m HZ.out, rm_snoc]; simp
              have hcn : ∀ i, cnt (ls.take (k + 1)) i = cnt (ls.take k) i + (if i ≠ 0 ∧ (m : Int) = i then 1 else 0) := fun i => by
                rw [take_snoc ls k m HZ.out, cnt_snoc]
              have HO := keepf ho
              have HR := keepf hr
              have HCN := keepf hcn
              clear ho hr hcn hzb
              by_cases hm0 : m = 0
              · subst hm0
                go_wp2_with fail
                go_roundw
                case rel => exact ⟨k + 1, x, R, by omega, by omega, by go_num, rfl, ⟨by have := HR.out; simp at this; rw [this]; exact hI.out.1, HO.out⟩, hR.out.congr (fun _ _ => rfl) (fun i _ => by rw [HCN.out]; simp; omega) (fun _ _ => rfl), HBk.out, HCh.out⟩
                case measure => simp [intOf]; omega
              · have hmi : 0 < (m : Int) := by omega
                have q1 : wr.cell? ⟨g, m * 3 + 1, none⟩ = some (.int .u32 (cnt (ls.take k) m : Nat)) := by
                  rw [HBk.out.cell]; exact hR.out.c1 m (by omega)
                have q2 := HBk.out.frozen (m * 3 + 1)
                have hcb : cnt (ls.take k) m ≤ 320 := by
                  have h1 := cnt_le (ls.take k) m
                  have h2 := HN.out
                  simp at h1
                  omega
                have hp : (32768 : Int) / 2 ^ m = ((2 ^ (15 - m) : Nat) : Int) := by
                  rw [← shr_room m hm]
                  simp
                have hp2 : 2 ^ (15 - m) ≤ 32768 := Nat.pow_le_pow_right (n := 2) (by decide) (by omega : 15 - m ≤ 15)
                have hrl := rm_le (ls.take (k + 1))
                have hlen : (ls.take (k + 1)).length ≤ 320 := by have := HN.out; simp; omega
                have hr2 := HR.out
                rw [if_neg (by omega), ← hI.out.1] at hr2
                have hxb : x + 2 ^ (15 - m) ≤ 10485760 := by omega
                have hR2 := hR.out.set1 m (cnt (ls.take k) m + 1) (by omega)
                have hcn2 := HCN.out
                have HR2 := keepf hR2
                have HRR := keepf hr2
                clear hrl hlen hr2 hR2 hcn2
                obtain ⟨pw, hpw⟩ : ∃ pw, pw = 2 ^ (15 - m) := ⟨_, rfl⟩
                rw [← hpw] at hp hp2 hxb
                have HPW := keepf hpw
                have HCM : Hid (∀ i, i < 16 → (if i = m then cnt (ls.take k) m + 1 else cnt (ls.take k) i) = cnt (ls.take (k + 1)) i) := by
                  intro i hi
                  rw [HCN.out]
                  by_cases e : i = m
                  · subst e; simp [hm0]
                  · simp [e]; omega
                clear hpw hR HCN
                generalize cnt (ls.take k) m = cm at *
                go_wp2_with fail
                go_roundw
                case rel =>
                  exact ⟨k + 1, x + pw, _, by omega, by omega, by go_num, by go_num, ⟨by rw [HRR.out, HPW.out], HO.out⟩, HR2.out.congr (fun _ _ => rfl) HCM.out (fun _ _ => rfl), HBk.out.set_ _ _, HCh.out.setCell (p := ⟨g, m * 3 + 1, none⟩) (fun h => by have := HG.out; exact absurd h (by show ¬ g < _; omega)) _⟩
                case measure => simp [intOf]; omega
        · obtain rfl : k = n := by omega
          have hI2 : x = rmOf ls ∧ okL ls := by have := hI.out; rwa [HN.out, List.take_length] at this
          have hR2 : RowsIs R (fun _ => 0) (cnt ls) (fun _ => 0) := by have := hR.out; rwa [HN.out, List.take_length] at this
          have hdm : decide (May ls) = decide ((x : Int) ≤ 32768) := by
            rw [decide_eq_decide]
            have := HN.out
            constructor
            · intro h; have := h.2.2.2; omega
            · intro h; exact ⟨by omega, by omega, hI2.2, by omega⟩
          have HI2 := keepf hI2
          have HR2 := keepf hR2
          have HDM := keepf hdm
          clear hI2 hR2 hdm
          go_wp2_with (first
            | (refine load_blk rfl 156 _ rfl _ rfl 156 _ _ HBk.out Tryz.underlying156 rfl 48 size_rows hR.out.size ?_)
            | (refine store_blk rfl 156 _ _ rfl _ _ rfl rfl 156 _ HBk.out 48 size_rows hR.out.size hR.out.size hR.out.one ?_; intro w2 hblk2 hch2; have HB2 := keepf hblk2; have HC2 := keepf hch2; clear hblk2 hch2))
          refine bodyPost_ret (results_cell2 rfl _ _ _ _ _ _ _ _ rfl HB2.out Tryz.underlying156 rfl 48 size_rows hR.out.size rfl rfl) rfl ?_
          exact ⟨R, x, by rw [HDM.out]; rfl, hR.out.size, hR.out.one, fun _ => ⟨HI2.out.1, HR2.out⟩, chg_new HCh.out HG.out HC2.out⟩
end Go.Proofs.YtmmilchmnimjoaaGreat
/- The cells of a table: how they are made, and what a store leaves of them. -/
namespace Go.Proofs.YtmmilchmnimjoaaGreat
open Go.RowKit
set_option linter.unusedVariables false
set_option linter.unusedSimpArgs false
structure TabIs (T : Array Value) (n d : Nat) (L : Nat → Int) (C f m a S : Nat → Nat) : Prop where
  size : T.size = 1011
  made : T[0]? = some (.bool true)
  n : T[1]? = some (.int .i64 n)
  deep : T[2]? = some (.int .i64 d)
  len : ∀ i, i < 320 → T[3 + i]? = some (.int .i64 (L i))
  code : ∀ i, i < 320 → T[323 + i]? = some (.int .u32 (C i : Nat))
  r0 : ∀ i, i < 16 → T[643 + i * 3]? = some (.int .u32 (f i : Nat))
  r1 : ∀ i, i < 16 → T[643 + i * 3 + 1]? = some (.int .u32 (m i : Nat))
  r2 : ∀ i, i < 16 → T[643 + i * 3 + 2]? = some (.int .i64 (a i : Nat))
  sym : ∀ i, i < 320 → T[691 + i]? = some (.int .i64 (S i : Nat))
section
variable {T : Array Value} {n d : Nat} {L : Nat → Int} {C f m a S : Nat → Nat}
theorem get_set_ne {T : Array Value} {i j : Nat} {v : Value} (h : j ≠ i) : (T.setIfInBounds i v)[j]? = T[j]? := Array.getElem?_setIfInBounds_ne (fun e => h e.symm)
theorem get_set_eq {T : Array Value} {i : Nat} {v : Value} (h : i < T.size) : (T.setIfInBounds i v)[i]? = some v := Array.getElem?_setIfInBounds_self_of_lt h
theorem TabIs.set_deep (h : TabIs T n d L C f m a S) (k : Nat) : TabIs (T.setIfInBounds 2 (.int .i64 k)) n k L C f m a S where
  size := by simpa using h.size
  made := by rw [get_set_ne (by omega)]; exact h.made
  n := by rw [get_set_ne (by omega)]; exact h.n
  deep := get_set_eq (by rw [h.size]; omega)
  len i hi := by rw [get_set_ne (by omega)]; exact h.len i hi
  code i hi := by rw [get_set_ne (by omega)]; exact h.code i hi
  r0 i hi := by rw [get_set_ne (by omega)]; exact h.r0 i hi
  r1 i hi := by rw [get_set_ne (by omega)]; exact h.r1 i hi
  r2 i hi := by rw [get_set_ne (by omega)]; exact h.r2 i hi
  sym i hi := by rw [get_set_ne (by omega)]; exact h.sym i hi
theorem TabIs.set_code (h : TabIs T n d L C f m a S) (k v : Nat) (hk : k < 320) : TabIs (T.setIfInBounds (323 + k) (.int .u32 (v : Nat))) n d L (fun i => if i = k then v else C i) f m a S where
  size := by simpa using h.size
  made := by rw [get_set_ne (by omega)]; exact h.made
  n := by rw [get_set_ne (by omega)]; exact h.n
  deep := by rw [get_set_ne (by omega)]; exact h.deep
  len i hi := by rw [get_set_ne (by omega)]; exact h.len i hi
  code i hi := by
    by_cases e : i = k
    · subst e; rw [get_set_eq (by rw [h.size]; omega)]; simp
    · rw [get_set_ne (by omega), h.code i hi]; simp [e]
  r0 i hi := by rw [get_set_ne (by omega)]; exact h.r0 i hi
  r1 i hi := by rw [get_set_ne (by omega)]; exact h.r1 i hi
  r2 i hi := by rw [get_set_ne (by omega)]; exact h.r2 i hi
  sym i hi := by rw [get_set_ne (by omega)]; exact h.sym i hi
theorem TabIs.set_sym (h : TabIs T n d L C f m a S) (k v : Nat) (hk : k < 320) : TabIs (T.setIfInBounds (691 + k) (.int .i64 (v : Nat))) n d L C f m a (fun i => if i = k then v else S i) where
  size := by simpa using h.size
  made := by rw [get_set_ne (by omega)]; exact h.made
  n := by rw [get_set_ne (by omega)]; exact h.n
  deep := by rw [get_set_ne (by omega)]; exact h.deep
  len i hi := by rw [get_set_ne (by omega)]; exact h.len i hi
  code i hi := by rw [get_set_ne (by omega)]; exact h.code i hi
  r0 i hi := by rw [get_set_ne (by omega)]; exact h.r0 i hi
  r1 i hi := by rw [get_set_ne (by omega)]; exact h.r1 i hi
  r2 i hi := by rw [get_set_ne (by omega)]; exact h.r2 i hi
  sym i hi := by
    by_cases e : i = k
    · subst e; rw [get_set_eq (by rw [h.size]; omega)]; simp
    · rw [get_set_ne (by omega), h.sym i hi]; simp [e]
theorem TabIs.set_r0 (h : TabIs T n d L C f m a S) (k v : Nat) (hk : k < 16) : TabIs (T.setIfInBounds (643 + k * 3) (.int .u32 (v : Nat))) n d L C (fun i => if i = k then v else f i) m a S where
  size := by simpa using h.size
  made := by rw [get_set_ne (by omega)]; exact h.made
  n := by rw [get_set_ne (by omega)]; exact h.n
  deep := by rw [get_set_ne (by omega)]; exact h.deep
  len i hi := by rw [get_set_ne (by omega)]; exact h.len i hi
  code i hi := by rw [get_set_ne (by omega)]; exact h.code i hi
  r0 i hi := by
    by_cases e : i = k
    · subst e; rw [get_set_eq (by rw [h.size]; omega)]; simp
    · rw [get_set_ne (by omega), h.r0 i hi]; simp [e]
  r1 i hi := by rw [get_set_ne (by omega)]; exact h.r1 i hi
  r2 i hi := by rw [get_set_ne (by omega)]; exact h.r2 i hi
  sym i hi := by rw [get_set_ne (by omega)]; exact h.sym i hi
theorem TabIs.set_r2 (h : TabIs T n d L C f m a S) (k v : Nat) (hk : k < 16) : TabIs (T.setIfInBounds (643 + k * 3 + 2) (.int .i64 (v : Nat))) n d L C f m (fun i => if i = k then v else a i) S where
  size := by simpa using h.size
  made := by rw [get_set_ne (by omega)]; exact h.made
  n := by rw [get_set_ne (by omega)]; exact h.n
  deep := by rw [get_set_ne (by omega)]; exact h.deep
  len i hi := by rw [get_set_ne (by omega)]; exact h.len i hi
  code i hi := by rw [get_set_ne (by omega)]; exact h.code i hi
  r0 i hi := by rw [get_set_ne (by omega)]; exact h.r0 i hi
  r1 i hi := by rw [get_set_ne (by omega)]; exact h.r1 i hi
  r2 i hi := by
    by_cases e : i = k
    · subst e; rw [get_set_eq (by rw [h.size]; omega)]; simp
    · rw [get_set_ne (by omega), h.r2 i hi]; simp [e]
  sym i hi := by rw [get_set_ne (by omega)]; exact h.sym i hi
theorem TabIs.congr {n' d' : Nat} {L' : Nat → Int} {C' f' m' a' S' : Nat → Nat} (h : TabIs T n d L C f m a S) (hn : n = n') (hd : d = d') (hL : ∀ i, i < 320 → L i = L' i) (hC : ∀ i, i < 320 → C i = C' i)
    (hf : ∀ i, i < 16 → f i = f' i) (hm : ∀ i, i < 16 → m i = m' i) (ha : ∀ i, i < 16 → a i = a' i) (hS : ∀ i, i < 320 → S i = S' i) : TabIs T n' d' L' C' f' m' a' S' where
  size := h.size
  made := h.made
  n := by rw [← hn]; exact h.n
  deep := by rw [← hd]; exact h.deep
  len i hi := by rw [← hL i hi]; exact h.len i hi
  code i hi := by rw [← hC i hi]; exact h.code i hi
  r0 i hi := by rw [← hf i hi]; exact h.r0 i hi
  r1 i hi := by rw [← hm i hi]; exact h.r1 i hi
  r2 i hi := by rw [← ha i hi]; exact h.r2 i hi
  sym i hi := by rw [← hS i hi]; exact h.sym i hi
end
theorem foldl_set (l : List Value) : ∀ (k o : Nat) (T : Array Value) (i : Nat), ((l.zipIdx k).foldl (fun cs p => cs.setIfInBounds (o + p.2) p.1) T)[i]? = (if o + k ≤ i ∧ i < o + k + l.length ∧ i < T.size then l[i - (o + k)]? else T[i]?) ∧ ((l.zipIdx k).foldl (fun cs p => cs.setIfInBounds (o + p.2) p.1) T).size = T.size := by
  induction l with
  | nil => intro k o T i; simp; omega
  | cons c r ih =>
    intro k o T i
    rw [List.zipIdx_cons, List.foldl_cons]
    obtain ⟨h1, h2⟩ := ih (k + 1) o (T.setIfInBounds (o + k) c) i
    refine ⟨?_, by rw [h2]; simp⟩
    rw [h1]
    simp only [Array.size_setIfInBounds, List.length_cons]
    by_cases e : i = o + k
    · subst e
      rw [if_neg (by omega)]
      by_cases hs : o + k < T.size
      · rw [get_set_eq hs, if_pos (by omega)]; simp
      · rw [if_neg (by omega), Array.getElem?_eq_none (by simp; omega), Array.getElem?_eq_none (by omega)]
    · rw [get_set_ne e]
      by_cases hin : o + (k + 1) ≤ i ∧ i < o + (k + 1) + r.length ∧ i < T.size
      · rw [if_pos hin, if_pos (by omega), show i - (o + k) = (i - (o + (k + 1))) + 1 from by omega, List.getElem?_cons_succ]
      · rw [if_neg hin, if_neg (by omega)]
def ztab : Array Value := ((List.range 1011).map fun j => if j < 1 then Value.bool false else if j < 323 then .int .i64 0 else if j < 643 then .int .u32 0 else if j < 691 then (if (j - 643) % 3 = 2 then .int .i64 0 else .int .u32 0) else .int .i64 0).toArray
set_option maxRecDepth 100000 in
theorem zero_tab : (Tryz.prog.info? 158).bind (·.zero) = some (.agg ztab) := by kernel_rfl
def placesOf (P : Program) (t : TypeId) : Option (List (Nat × Nat)) :=
  match P.underlying t with
  | some (.struct fields) => fields.toList.mapM (fun f => (P.info? f.type).map fun i => (f.offset, i.size))
  | _ => none
theorem places_tab : placesOf Tryz.prog 158 = some [(0, 1), (1, 1), (2, 1), (3, 320), (323, 320), (643, 48), (691, 320)] := by kernel_rfl
theorem built_struct {P : Program} {t : TypeId} {z : Value} {places : List (Nat × Nat)} {parts : List (Nat × Value)} (hz : (P.info? t).bind (·.zero) = some z) (hp : placesOf P t = some places) :
    P.built t parts = Instr.fill (places.toArray[·]?) z.cells parts := by
  unfold Program.built placesOf at *
  cases hi : P.info? t with
  | none => simp [hi] at hz
  | some i =>
    have hz' : i.zero = some z := by simpa [hi] using hz
    cases hu : P.underlying t with
    | none => simp [hu] at hp
    | some d =>
      cases d <;> simp only [hu] at hp <;> first | (cases hp; done) | simp [hz', hp]
def newTab (n : Nat) (R : Array Value) : Array Value := (R.toList.zipIdx 0).foldl (fun cs p => cs.setIfInBounds (643 + p.2) p.1) ((ztab.setIfInBounds 0 (.bool true)).setIfInBounds 1 (.int .i64 n))
theorem ztab_size : ztab.size = 1011 := by simp [ztab]
theorem built_tab (n : Nat) (R : Array Value) (hR : R.size = 48) : Tryz.prog.built 158 [(0, .bool true), (1, .int .i64 n), (5, .agg R)] = some (newTab n R) := by
  rw [built_struct zero_tab places_tab]
  have hz := ztab_size
  simp [Instr.fill, Value.cells, hR, hz, newTab]
  have e : (48 : Nat) = R.zipIdx.size := by simp [hR]
  rw [e, ← Array.toList_zipIdx, Array.foldl_toList]
theorem newTab_is (n : Nat) (R : Array Value) (m : Nat → Nat) (hR : RowsIs R (fun _ => 0) m (fun _ => 0)) : TabIs (newTab n R) n 0 (fun _ => 0) (fun _ => 0) (fun _ => 0) m (fun _ => 0) (fun _ => 0) := by
  have hz := ztab_size
  have hs := hR.size
  have hg : ∀ i, (newTab n R)[i]? = if 643 ≤ i ∧ i < 691 then R[i - 643]? else ((ztab.setIfInBounds 0 (.bool true)).setIfInBounds 1 (.int .i64 n))[i]? := by
    intro i
    unfold newTab
    rw [(foldl_set R.toList 0 643 _ i).1]
    simp only [Array.size_setIfInBounds, hz, Nat.add_zero, Array.length_toList, hs]
    by_cases h : 643 ≤ i ∧ i < 691
    · rw [if_pos h, if_pos (by omega)]; simp
    · rw [if_neg h, if_neg (by omega)]
  have hlow : ∀ i, 2 ≤ i → i < 643 ∨ 691 ≤ i → (newTab n R)[i]? = ztab[i]? := by
    intro i h1 h2
    rw [hg, if_neg (by omega), get_set_ne (by omega), get_set_ne (by omega)]
  refine ⟨?_, ?_, ?_, ?_, ?_, ?_, ?_, ?_, ?_, ?_⟩
  · unfold newTab
    rw [(foldl_set R.toList 0 643 _ 0).2]
    simp [hz]
  · rw [hg, if_neg (by omega), get_set_ne (by omega), get_set_eq (by omega)]
  · rw [hg, if_neg (by omega), get_set_eq (by simp; omega)]
  · rw [hlow 2 (by omega) (by omega)]; simp [ztab]
  · intro i hi
    rw [hlow _ (by omega) (by omega)]
    simp [ztab, show 3 + i < 1011 from by omega, show ¬ 3 + i < 1 from by omega, show 3 + i < 323 from by omega]
  · intro i hi
    rw [hlow _ (by omega) (by omega)]
    simp [ztab, show 323 + i < 1011 from by omega, show ¬ 323 + i < 1 from by omega, show ¬ 323 + i < 323 from by omega, show 323 + i < 643 from by omega]
  · intro i hi
    rw [hg, if_pos (by omega), show 643 + i * 3 - 643 = i * 3 from by omega]; exact hR.c0 i hi
  · intro i hi
    rw [hg, if_pos (by omega), show 643 + i * 3 + 1 - 643 = i * 3 + 1 from by omega]; exact hR.c1 i hi
  · intro i hi
    rw [hg, if_pos (by omega), show 643 + i * 3 + 2 - 643 = i * 3 + 2 from by omega]; exact hR.c2 i hi
  · intro i hi
    rw [hlow _ (by omega) (by omega)]
    simp [ztab, show 691 + i < 1011 from by omega, show ¬ 691 + i < 1 from by omega, show ¬ 691 + i < 323 from by omega, show ¬ 691 + i < 643 from by omega, show ¬ 691 + i < 691 from by omega]
theorem splice_get (l : List Value) (off : Nat) (cs : List Value) (h : off + cs.length ≤ l.length) (j : Nat) : (splice l off cs)[j]? = if j < off then l[j]? else if j < off + cs.length then cs[j - off]? else l[j]? := by
  unfold splice
  rw [List.getElem?_append, List.length_take, show min off l.length = off from by omega]
  by_cases h1 : j < off
  · rw [if_pos h1, if_pos h1, List.getElem?_take, if_pos h1]
  · rw [if_neg h1, if_neg h1, List.getElem?_append]
    by_cases h2 : j < off + cs.length
    · rw [if_pos (by omega), if_pos h2]
    · rw [if_neg (by omega), if_neg h2, List.getElem?_drop, show off + cs.length + (j - off - cs.length) = j from by omega]
theorem TabIs.copy {T : Array Value} {n d : Nat} {C f m a S : Nat → Nat} (h : TabIs T n d (fun _ => 0) C f m a S) (ls : List Int) (hl : ls.length ≤ 320) :
    TabIs (splice T.toList 3 (icells ls)).toArray n d (fun i => ls.getD i 0) C f m a S := by
  have hs := h.size
  have hg : ∀ j, (splice T.toList 3 (icells ls)).toArray[j]? = if 3 ≤ j ∧ j < 3 + ls.length then (icells ls)[j - 3]? else T[j]? := by
    intro j
    rw [List.getElem?_toArray, splice_get _ _ _ (by rw [icells_len]; simp; omega), icells_len]
    by_cases h1 : j < 3
    · rw [if_pos h1, if_neg (by omega)]; simp
    · rw [if_neg h1]
      by_cases h2 : j < 3 + ls.length
      · rw [if_pos h2, if_pos (by omega)]
      · rw [if_neg h2, if_neg (by omega)]; simp
  have hn : ∀ j, ¬ (3 ≤ j ∧ j < 323) → (splice T.toList 3 (icells ls)).toArray[j]? = T[j]? := fun j hj => by rw [hg, if_neg (by omega)]
  refine ⟨?_, ?_, ?_, ?_, ?_, ?_, ?_, ?_, ?_, ?_⟩
  · simp [length_splice T.toList 3 (icells ls) (by rw [icells_len]; simp; omega), hs]
  · rw [hn _ (by omega)]; exact h.made
  · rw [hn _ (by omega)]; exact h.n
  · rw [hn _ (by omega)]; exact h.deep
  · intro i hi
    rw [hg]
    by_cases h1 : i < ls.length
    · rw [if_pos (by omega), show 3 + i - 3 = i from by omega, icells_get (List.getElem?_eq_getElem h1)]
      simp [List.getD_eq_getElem?_getD, h1]
    · rw [if_neg (by omega), h.len i hi]
      simp [List.getD_eq_getElem?_getD, h1]
  · intro i hi; rw [hn _ (by omega)]; exact h.code i hi
  · intro i hi; rw [hn _ (by omega)]; exact h.r0 i hi
  · intro i hi; rw [hn _ (by omega)]; exact h.r1 i hi
  · intro i hi; rw [hn _ (by omega)]; exact h.r2 i hi
  · intro i hi; rw [hn _ (by omega)]; exact h.sym i hi
section
variable {P : Program} {ops : Array Oper} {rest : List Oper} {o : Oper} {a : Act} {w : World} {Q : Exit → Act → World → Prop}
theorem build_to (hgd : o.guard = none) (t : TypeId) (parts : Array (Nat × Operand)) (ho : o.op = .build t parts) (cells : Array Value) (hf : P.built t (parts.map fun (i, x) => (i, a.eval x)).toList = some cells)
    (h : wpList P ops Q rest (a.put o.dst (.agg cells)) w) : wpList P ops Q (o :: rest) a w :=
  wpList_build hgd t parts ho (by rw [hf]; rfl) (by rw [hf]; exact h)
theorem box_big (hgd : o.guard = none) (ty : TypeId) (x : Operand) (ho : o.op = .box ty x) (Z : Array Value) (hx : a.eval x = .agg Z)
    (h : ∀ w' g, g = w.heap.size → Blk w' g ty Z → Chg NoS w w' → wpList P ops Q rest (a.put o.dst (.pointer (some ⟨g, 0, none⟩))) w') : wpList P ops Q (o :: rest) a w := by
  refine wpList_plain hgd fun K hK => ?_
  have h1 := hK _ _ (h (w.alloc (.cells Z ty)) _ rfl (Blk.new w ty Z) ((Chg.refl _ _).alloc _))
  unfold Oper.wp execOp
  simp [ho, hx, Instr.box, newVar, newRow, newObj, Value.cells, Sem.run_bind, Result.andThen]
  exact h1
theorem copy_blk (hgd : o.guard = none) (d s : Operand) (dT sT : TypeId) (ho : o.op = .call { callee := .builtin .copy, args := #[d, s], argTypes := #[dT, sT] }) (elem : TypeId) (hu : P.underlying dT = some (.slice elem)) (hsz : (P.info? elem).map (·.size) = some 1)
    (g off dLen dCap : Nat) (hd : a.eval d = .slice (some ⟨g, off, none⟩) dLen dCap) (A : Option Addr) (sLen sCap : Nat) (hs : a.eval s = .slice A sLen sCap) (t : TypeId) (cur : Array Value) (hg : Blk w g t cur)
    (cs : List Value) (hS : Src w 1 A sLen sCap cs) (hle : sLen ≤ dLen) (hfit : off + sLen ≤ cur.size) (h1 : ∀ v ∈ cs, v.oneCell' = true)
    (h : ∀ w', Blk w' g t (splice cur.toList off cs).toArray → Chg (fun i => i = g) w w' → wpList P ops Q rest (a.put o.dst (goInt cs.length)) w') : wpList P ops Q (o :: rest) a w := by
  have hl := hS.1
  have hmin : Nat.min sLen dLen = sLen := Nat.min_eq_left hle
  rcases A with _ | ad
  · obtain ⟨rfl, rfl⟩ := hS.2.1 rfl
    obtain rfl : cs = [] := List.eq_nil_of_length_eq_zero (by simpa using hl)
    refine wpList_copy_nothing hgd d s dT sT ho elem hu hsz _ _ _ _ _ _ hd hs (by rw [hmin]) ?_
    exact h w (by simpa [splice] using hg) (Chg.refl _ _)
  · refine wpList_copy_own hgd d s dT sT ho elem hu hsz g off dLen dCap ad sLen sCap hd hs cur t hg cs (by rw [hmin]; simpa using hl) (hS.2.2 ad rfl) (by rw [hl]; simpa using hfit) h1 ?_
    exact h _ (blk_setRow hg _) (chg_setRow w g _)
theorem index_big (hgd : o.guard = none) (ty e : TypeId) (n : Nat) (x y : Operand) (ho : o.op = .index ty x y) (cs : Array Value) (hx : a.eval x = .agg cs) (k : IntKind) (i : Nat) (hy : a.eval y = .int k (i : Nat)) (v : Value)
    (hu : P.underlying ty = some (.array n e)) (hi : i < n) (hv : cs[i]? = some v) (hz : (P.info? e).map (·.size) = some 1) (hr : (P.underlying e).map TypeDesc.isRow = some false)
    (h : wpList P ops Q rest (a.put o.dst v) w) : wpList P ops Q (o :: rest) a w := by
  refine wpList_plain hgd fun K hK => ?_
  have h1 := hK _ _ h
  unfold Oper.wp execOp
  have hrun : (Instr.index ty (.agg cs) (.int k (i : Nat))).run P w = .ok v w := by
    have hb : (0 : Int) ≤ (i : Int) ∧ (i : Int) < (n : Int) := ⟨by omega, by omega⟩
    cases hq : P.info? e with
    | none => simp [hq] at hz
    | some ie =>
      have hs : ie.size = 1 := by simpa [hq] using hz
      cases hue : P.underlying e with
      | none => simp [hue] at hr
      | some de =>
        have hde : de.isRow = false := by simpa [hue] using hr
        have hagg : (isAgg e).run P w = .ok false w := by
          unfold isAgg
          rw [Sem.run_bind, run_underlying hue w]
          cases de <;> simp_all [TypeDesc.isRow]
        simp [Instr.index, asIntOf, Sem.run_bind, run_underlying hu w, hb, sizeOf, typeInfo, hq, hs, part, hagg, hv, Result.andThen]
        intro h9
        omega
  simp [ho, hx, hy, hrun, Result.andThen]
  exact h1
end
end Go.Proofs.YtmmilchmnimjoaaGreat
/- What begin and number do to a table. -/
namespace Go.Proofs.YtmmilchmnimjoaaGreat
open Go.RowKit
set_option linter.unusedVariables false
set_option linter.unusedSimpArgs false
theorem size_row : (Tryz.prog.info? 154).map (·.size) = some 3 := by kernel_rfl
def rowCells (f m a : Nat) : Array Value := #[.int .u32 (f : Nat), .int .u32 (m : Nat), .int .i64 (a : Nat)]
theorem rowCells_one (f m a : Nat) : (rowCells f m a).all (·.oneCell') = true := by simp [rowCells, Value.oneCell']
theorem row_range {w : World} {g : Nat} {T : Array Value} {t : TypeId} {n d : Nat} {L : Nat → Int} {C f m a S : Nat → Nat} (hB : Blk w g t T) (h : TabIs T n d L C f m a S) (i : Nat) (hi : i < 16) :
    w.rangeAt g (643 + i * 3) (rowCells (f i) (m i) (a i)).toList := by
  intro j v hv
  have hc := hB.cell (643 + i * 3 + j)
  rw [hc]
  match j, hv with
  | 0, hv => simp [rowCells] at hv; subst hv; exact h.r0 i hi
  | 1, hv => simp [rowCells] at hv; subst hv; exact h.r1 i hi
  | 2, hv => simp [rowCells] at hv; subst hv; exact h.r2 i hi
  | j + 3, hv => simp [rowCells] at hv
set_option maxHeartbeats 2000000 in
set_option maxRecDepth 100000 in
theorem begin_any (g : Nat) (T : Array Value) (n : Nat) (L : Nat → Int) (C m S : Nat → Nat) (w : World) (hB : Blk w g 158 T) (hT : TabIs T n 0 L C (fun _ => 0) m (fun _ => 0) S)
    (hf : ∀ i, i < 16 → fst m i + m i ≤ 65536) (ha : ∀ i, i ≤ 16 → att m i ≤ 65536) :
    Calls Tryz.prog 119 #[.pointer (some ⟨g, 0, none⟩)] w fun e w' => e = .returned (.tuple #[]) ∧ ∃ T', Blk w' g 158 T' ∧ TabIs T' n (deepU m 16) L C (fst m) m (att m) S ∧ Chg (fun i => i = g) w w' := by
  have HB := keepf hB
  have HT := keepf hT
  have HF := keepf hf
  have HA := keepf ha
  clear hB hT hf ha
  have HG : Hid (g < w.heap.size) := HB.out.lt
  go_enter Tryz.func119, Tryz.ntmps119
  go_wp2_with fail
  have hb2 := Blk.new w 154 (rowCells 0 0 0)
  have hch := (Chg.refl (fun i => i = g) w).alloc (.cells (rowCells 0 0 0) 154)
  have hbt := HB.out.alloc (.cells (rowCells 0 0 0) 154)
  change Code.wp _ _ _ _ (w.alloc (.cells (rowCells 0 0 0) 154))
  generalize w.alloc (.cells (rowCells 0 0 0) 154) = w1 at *
  obtain ⟨g2, hg2⟩ : ∃ g2, g2 = w.heap.size := ⟨_, rfl⟩
  rw [← hg2] at hb2 HG ⊢
  have HG2 := keepf hg2
  have HB2 := keepf hb2
  have HCH := keepf hch
  have HBT := keepf hbt
  clear hg2 hb2 hch hbt
  have hne : g2 ≠ g := by have := HG.out; omega
  have hne2 : g ≠ g2 := by have := HG.out; omega
  go_loopw [6] (fun i wr => ∃ k p q r : Nat, ∃ T : Array Value, k ≤ 16 ∧ p ≤ 65536 ∧ q ≤ 65536 ∧ p + q ≤ 65536 ∧ r ≤ 65536 ∧ i = .int .i64 k ∧ Hid ((p + q) * 2 = fst m k ∧ r + q = att m k) ∧ Hid (TabIs T n (deepU m k) L C (fun i => if i < k then fst m i else 0) m (fun i => if i < k then att m i else 0) S) ∧ Blk wr g 158 T ∧ Blk wr g2 154 (rowCells p q r) ∧ Chg (fun i => i = g) w wr) (fun i _ => 16 - (intOf i).toNat)
  case atStart => exact ⟨0, 0, 0, 0, T, by omega, by omega, by omega, by omega, by omega, rfl, ⟨rfl, rfl⟩, HT.out.congr rfl rfl (fun _ _ => rfl) (fun _ _ => rfl) (fun i _ => by simp) (fun _ _ => rfl) (fun i _ => by simp) (fun _ _ => rfl), HBT.out, HB2.out, HCH.out⟩
  case round =>
    clear HB HT HB2 HCH HBT
    obtain ⟨k, p, q, r, T, hk, hp, hq, hpq, hr, rfl, hI, hT, hB, hB2, hch⟩ := hrel
    have a0 := hB2.cell 0
    have a1 := hB2.cell 1
    have a2 := hB2.cell 2
    simp [rowCells] at a0 a1 a2
    have HBk := keepf hB
    have HB2 := keepf hB2
    have HCh := keepf hch
    clear hB hB2 hch
    by_cases hlt : k < 16
    · have t0 : wr.cell? ⟨g, 643 + k * 3, none⟩ = some (.int .u32 0) := by rw [HBk.out.cell, hT.out.r0 k hlt]; simp
      have t1 : wr.cell? ⟨g, 643 + k * 3 + 1, none⟩ = some (.int .u32 (m k : Nat)) := by rw [HBk.out.cell, hT.out.r1 k hlt]
      have t2 : wr.cell? ⟨g, 643 + k * 3 + 2, none⟩ = some (.int .i64 0) := by rw [HBk.out.cell, hT.out.r2 k hlt]; simp
      have t3 : wr.cell? ⟨g, 2, none⟩ = some (.int .i64 (deepU m k : Nat)) := by rw [HBk.out.cell, hT.out.deep]
      have f0 := HBk.out.frozen (643 + k * 3)
      have f2 := HBk.out.frozen (643 + k * 3 + 2)
      go_upto_region 7 with fail
      have hb := (HBk.out.set_ (643 + k * 3) (.int .u32 (((p : Int) + q) * 2))).set_ (643 + k * 3 + 2) (.int .i64 ((r : Int) + q))
      have hc := (HCh.out.setCell (p := ⟨g, 643 + k * 3, none⟩) (fun _ => rfl) (.int .u32 (((p : Int) + q) * 2))).setCell (p := ⟨g, 643 + k * 3 + 2, none⟩) (fun _ => rfl) (.int .i64 ((r : Int) + q))
      have hb2 := (HB2.out.far (p := ⟨g, 643 + k * 3, none⟩) hne (.int .u32 (((p : Int) + q) * 2))).far (p := ⟨g, 643 + k * 3 + 2, none⟩) hne (.int .i64 ((r : Int) + q))
      have ht := (hT.out.set_r0 k ((p + q) * 2) hlt).set_r2 k (r + q) hlt
      rw [show (((p + q) * 2 : Nat) : Int) = ((p : Int) + q) * 2 from by omega, show ((r + q : Nat) : Int) = (r : Int) + q from by omega] at ht
      generalize (wr.setCell ⟨g, 643 + k * 3, none⟩ (.int .u32 (((p : Int) + q) * 2))).setCell ⟨g, 643 + k * 3 + 2, none⟩ (.int .i64 ((r : Int) + q)) = w2 at *
      generalize (T.setIfInBounds (643 + k * 3) (.int .u32 (((p : Int) + q) * 2))).setIfInBounds (643 + k * 3 + 2) (.int .i64 ((r : Int) + q)) = T2 at *
      rw [hI.out.1, hI.out.2] at ht
      have hT2 : TabIs T2 n (deepU m k) L C (fun i => if i < k + 1 then fst m i else 0) m (fun i => if i < k + 1 then att m i else 0) S := ht.congr rfl rfl (fun _ _ => rfl) (fun _ _ => rfl)
        (fun i _ => by
          by_cases e : i = k
          · subst e; simp
          · simp only [e, if_false]; by_cases e2 : i < k
            · rw [if_pos e2, if_pos (by omega)]
            · rw [if_neg e2, if_neg (by omega)]) (fun _ _ => rfl)
        (fun i _ => by
          by_cases e : i = k
          · subst e; simp
          · simp only [e, if_false]; by_cases e2 : i < k
            · rw [if_pos e2, if_pos (by omega)]
            · rw [if_neg e2, if_neg (by omega)]) (fun _ _ => rfl)
      clear ht a0 a1 a2 t0 t1 t2 t3 f0 f2 hT
      have HT2 := keepf hT2
      have HBb := keepf hb
      have HCc := keepf hc
      have HBb2 := keepf hb2
      clear hT2 hb hc hb2 HBk HCh HB2
      have t1 : w2.cell? ⟨g, 643 + k * 3 + 1, none⟩ = some (.int .u32 (m k : Nat)) := by rw [HBb.out.cell, HT2.out.r1 k hlt]
      have hfk := HF.out k hlt
      have hak := HA.out (k + 1) (by omega)
      by_cases hm : m k = 0
      · have hdm : deepU m (k + 1) = deepU m k := by rw [deepU, if_neg (by omega)]
        rw [hm] at t1
        have HR : Hid (w2.rangeAt g (643 + k * 3) (rowCells (fst m k) (m k) (att m k)).toList) := by
          have := row_range HBb.out HT2.out k hlt
          simp only [Nat.lt_add_one, if_true] at this
          exact this
        have HM := keepf hm
        have HD := keepf hdm
        clear hm hdm
        go_wp2_with (first
          | (refine load_mid rfl 154 _ rfl g _ rfl _ _ HR.out Tryz.underlying154 rfl 3 size_row rfl ?_)
          | (refine store_blk rfl 154 _ _ rfl _ _ rfl rfl 154 _ HBb2.out 3 size_row rfl rfl (rowCells_one _ _ _) ?_; intro w3 hblk3 hch3; have HB3 := keepf hblk3; have HC3 := keepf hch3; clear hblk3 hch3))
        go_roundw
        case rel =>
          refine ⟨k + 1, fst m k, m k, att m k, T2, by omega, by omega, by omega, by omega, by rw [att] at hak; omega, by go_num, ⟨by rw [fst], by rw [att]⟩, ?_, ?_, HB3.out, ?_⟩
          · rw [HD.out]; exact HT2.out
          · exact HBb.out.chg HC3.out (fun h => hne2 h)
          · exact HCc.out.trans HC3.out (fun i hi e => by subst e; have := HG2.out; omega)
        case measure => simp [intOf]; omega
      · have hdm : deepU m (k + 1) = k := by rw [deepU, if_pos (by omega)]
        have hm1 : 0 < m k := by omega
        have t3 : w2.cell? ⟨g, 2, none⟩ = some (.int .i64 (deepU m k : Nat)) := by rw [HBb.out.cell, HT2.out.deep]
        have f3 := HBb.out.frozen 2
        have hm2 : (0 : Int) < (m k : Nat) := by omega
        have HD := keepf hdm
        clear hdm
        go_upto_region 9 with fail
        have hb := HBb.out.set_ 2 (.int .i64 (k : Nat))
        have hc := HCc.out.setCell (p := ⟨g, 2, none⟩) (fun _ => rfl) (.int .i64 (k : Nat))
        have hb2 := HBb2.out.far (p := ⟨g, 2, none⟩) hne (.int .i64 (k : Nat))
        have ht := HT2.out.set_deep k
        generalize w2.setCell ⟨g, 2, none⟩ (.int .i64 (k : Nat)) = w3 at *
        generalize T2.setIfInBounds 2 (.int .i64 (k : Nat)) = T3 at *
        have HR : Hid (w3.rangeAt g (643 + k * 3) (rowCells (fst m k) (m k) (att m k)).toList) := by
          have := row_range hb ht k hlt
          simp only [Nat.lt_add_one, if_true] at this
          exact this
        have HT3 := keepf ht
        have HB3 := keepf hb
        have HC3 := keepf hc
        have HB23 := keepf hb2
        clear ht hb hc hb2 t1 t3 f3 HT2 HBb HCc HBb2
        go_wp2_with (first
          | (refine load_mid rfl 154 _ rfl g _ rfl _ _ HR.out Tryz.underlying154 rfl 3 size_row rfl ?_)
          | (refine store_blk rfl 154 _ _ rfl _ _ rfl rfl 154 _ HB23.out 3 size_row rfl rfl (rowCells_one _ _ _) ?_; intro w4 hblk4 hch4; have HB4 := keepf hblk4; have HC4 := keepf hch4; clear hblk4 hch4))
        go_roundw
        case rel =>
          refine ⟨k + 1, fst m k, m k, att m k, T3, by omega, by omega, by omega, by omega, by rw [att] at hak; omega, by go_num, ⟨by rw [fst], by rw [att]⟩, ?_, ?_, HB4.out, ?_⟩
          · rw [HD.out]; exact HT3.out
          · exact HB3.out.chg HC4.out (fun h => hne2 h)
          · exact HC3.out.trans HC4.out (fun i hi e => by subst e; have := HG2.out; omega)
        case measure => simp [intOf]; omega
    · obtain rfl : k = 16 := by omega
      go_wp2_with fail
      go_end0
      refine ⟨rfl, T, HBk.out, hT.out.congr rfl rfl (fun _ _ => rfl) (fun _ _ => rfl) (fun i hi => by simp [hi]) (fun _ _ => rfl) (fun i hi => by simp [hi]) (fun _ _ => rfl), HCh.out⟩
end Go.Proofs.YtmmilchmnimjoaaGreat
