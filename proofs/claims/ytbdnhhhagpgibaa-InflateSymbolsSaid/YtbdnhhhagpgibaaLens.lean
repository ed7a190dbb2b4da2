/- Codes of prefixes, from their lengths: plain mathematics, no program. -/
import Derived.WalkKit
namespace Go.Proofs.Ytbdnhhhagpgibaa
set_option linter.unusedVariables false

/-- How many of the lengths are n (none is counted of those without a code). -/
def cnt (ls : List Int) (n : Nat) : Nat := if n = 0 then 0 else ls.countP (fun z => z == (n : Int))

/-- The room that lengths take. -/
def rmOf : List Int → Nat
  | [] => 0
  | z :: r => (if z = 0 then 0 else 2 ^ (15 - z.toNat)) + rmOf r

def okL (ls : List Int) : Prop := ∀ z ∈ ls, 0 ≤ z ∧ z ≤ 15
def May (ls : List Int) : Prop := 1 ≤ ls.length ∧ ls.length ≤ 320 ∧ okL ls ∧ rmOf ls ≤ 32768

instance (ls : List Int) : Decidable (okL ls) := by unfold okL; infer_instance
instance (ls : List Int) : Decidable (May ls) := by unfold May; infer_instance

/-- The first code of n bits, where there are m i codes of i bits. -/
def fst (m : Nat → Nat) : Nat → Nat
  | 0 => 0
  | n + 1 => (fst m n + m n) * 2
/-- How many codes have fewer bits than n. -/
def att (m : Nat → Nat) : Nat → Nat
  | 0 => 0
  | n + 1 => att m n + m n
/-- The greatest i below n of which there is a code, or 0. -/
def deepU (m : Nat → Nat) : Nat → Nat
  | 0 => 0
  | n + 1 => if 0 < m n then n else deepU m n
def ks (m : Nat → Nat) : Nat → Nat
  | 0 => 0
  | n + 1 => ks m n + m n * 2 ^ (15 - n)

def lenAt (ls : List Int) (s : Nat) : Nat := (ls.getD s 0).toNat
def rank (ls : List Int) (s : Nat) : Nat := cnt (ls.take s) (lenAt ls s)
/-- The code of a symbol. -/
def cd (ls : List Int) (s : Nat) : Nat := if lenAt ls s = 0 then 0 else fst (cnt ls) (lenAt ls s) + rank ls s
def deepL (ls : List Int) : Nat := deepU (cnt ls) 16

theorem cnt_nil (n : Nat) : cnt [] n = 0 := by simp [cnt]
theorem cnt_cons (z : Int) (r : List Int) (n : Nat) : cnt (z :: r) n = cnt r n + (if n ≠ 0 ∧ z = n then 1 else 0) := by
  unfold cnt
  by_cases h : n = 0
  · simp [h]
  · rw [if_neg h, if_neg h, List.countP_cons]
    by_cases h2 : z = n <;> simp [h, h2]
theorem cnt_append (a b : List Int) (n : Nat) : cnt (a ++ b) n = cnt a n + cnt b n := by
  unfold cnt
  split
  · rfl
  · rw [List.countP_append]
theorem cnt_zero (ls : List Int) : cnt ls 0 = 0 := by simp [cnt]
theorem cnt_snoc (a : List Int) (z : Int) (n : Nat) : cnt (a ++ [z]) n = cnt a n + (if n ≠ 0 ∧ z = n then 1 else 0) := by
  rw [cnt_append, cnt_cons, cnt_nil]; simp
theorem cnt_le (ls : List Int) (n : Nat) : cnt ls n ≤ ls.length := by
  unfold cnt; split
  · omega
  · exact List.countP_le_length
theorem take_snoc (ls : List Int) (k : Nat) (z : Int) (h : ls[k]? = some z) : ls.take (k + 1) = ls.take k ++ [z] := by
  rw [List.take_add_one, h]; rfl
theorem rm_snoc (a : List Int) (z : Int) : rmOf (a ++ [z]) = rmOf a + (if z = 0 then 0 else 2 ^ (15 - z.toNat)) := by
  induction a with
  | nil => simp [rmOf]
  | cons x r ih => simp only [List.cons_append, rmOf, ih]; omega
theorem rm_le (ls : List Int) : rmOf ls ≤ ls.length * 32768 := by
  induction ls with
  | nil => simp [rmOf]
  | cons z r ih =>
    have : 2 ^ (15 - z.toNat) ≤ 2 ^ 15 := Nat.pow_le_pow_right (by decide) (by omega)
    simp only [rmOf, List.length_cons]
    split <;> omega
theorem rm_take_le (ls : List Int) (k : Nat) : rmOf (ls.take k) ≤ rmOf ls := by
  induction ls generalizing k with
  | nil => simp [rmOf]
  | cons z r ih =>
    cases k with
    | zero => simp [rmOf]
    | succ k => simp only [List.take_succ_cons, rmOf]; have := ih k; omega
theorem cnt_take_le (ls : List Int) (k n : Nat) : cnt (ls.take k) n ≤ cnt ls n := by
  have := cnt_append (ls.take k) (ls.drop k) n
  rw [List.take_append_drop] at this
  omega

theorem ks_add (a b : Nat → Nat) (n : Nat) : ks (fun i => a i + b i) n = ks a n + ks b n := by
  induction n with
  | zero => rfl
  | succ n ih => simp only [ks, ih, Nat.add_mul]; omega
theorem ks_one (z : Int) (hz : 0 ≤ z) (n : Nat) : ks (fun i => if i ≠ 0 ∧ z = i then 1 else 0) n = if 0 < z ∧ z < n then 2 ^ (15 - z.toNat) else 0 := by
  induction n with
  | zero => simp [ks]; omega
  | succ n ih =>
    rw [ks, ih]
    by_cases h : n ≠ 0 ∧ z = n
    · rw [if_pos h, if_neg (by omega), if_pos (by omega), h.2]; simp
    · rw [if_neg h]
      by_cases h2 : 0 < z ∧ z < n
      · rw [if_pos h2, if_pos (by omega)]; simp
      · rw [if_neg h2, if_neg (by omega)]; simp
theorem ks_rm (ls : List Int) (h : okL ls) : ks (cnt ls) 16 = rmOf ls := by
  induction ls with
  | nil => rfl
  | cons z r ih =>
    have hz := h z (by simp)
    have e : cnt (z :: r) = fun i => cnt r i + (if i ≠ 0 ∧ z = i then 1 else 0) := funext (cnt_cons z r)
    rw [e, ks_add, ks_one z hz.1, ih (fun y hy => h y (by simp [hy])), rmOf]
    by_cases h0 : z = 0
    · simp [h0]
    · rw [if_pos (by omega), if_neg h0]; omega
theorem ks_mono (m : Nat → Nat) (a b : Nat) (h : a ≤ b) : ks m a ≤ ks m b := by
  induction b with
  | zero => rw [show a = 0 from by omega]; exact Nat.le_refl _
  | succ b ih =>
    by_cases e : a = b + 1
    · rw [e]; exact Nat.le_refl _
    · have := ih (by omega)
      rw [ks]; omega
theorem fst_ks (m : Nat → Nat) (n : Nat) (h : n ≤ 15) : (fst m n + m n) * 2 ^ (15 - n) = ks m (n + 1) := by
  induction n with
  | zero => simp [fst, ks]
  | succ n ih =>
    have e : 2 ^ (15 - n) = 2 * 2 ^ (15 - (n + 1)) := by
      rw [show 15 - n = (15 - (n + 1)) + 1 from by omega, Nat.pow_succ]; omega
    have h1 := ih (by omega)
    rw [ks, ← h1, e, fst, Nat.add_mul, Nat.mul_assoc]
theorem fst_le (ls : List Int) (hM : May ls) (n : Nat) (h : n ≤ 15) : fst (cnt ls) n + cnt ls n ≤ 2 ^ n := by
  have h1 := fst_ks (cnt ls) n h
  have h2 := ks_mono (cnt ls) (n + 1) 16 (by omega)
  rw [ks_rm ls hM.2.2.1] at h2
  have h3 : (fst (cnt ls) n + cnt ls n) * 2 ^ (15 - n) ≤ 2 ^ n * 2 ^ (15 - n) := by
    rw [h1, ← Nat.pow_add, show n + (15 - n) = 15 from by omega]
    exact Nat.le_trans h2 hM.2.2.2
  exact Nat.le_of_mul_le_mul_right h3 (Nat.two_pow_pos _)

theorem att_add (a b : Nat → Nat) (n : Nat) : att (fun i => a i + b i) n = att a n + att b n := by
  induction n with
  | zero => rfl
  | succ n ih => simp only [att, ih]; omega
theorem att_one (z : Int) (n : Nat) : att (fun i => if i ≠ 0 ∧ z = i then 1 else 0) n = if 0 < z ∧ z < n then 1 else 0 := by
  induction n with
  | zero => simp [att]; omega
  | succ n ih =>
    rw [att, ih]
    by_cases h : n ≠ 0 ∧ z = n
    · rw [if_pos h, if_neg (by omega), if_pos (by omega)]
    · rw [if_neg h]
      by_cases h2 : 0 < z ∧ z < n
      · rw [if_pos h2, if_pos (by omega)]
      · rw [if_neg h2, if_neg (by omega)]
theorem att_le (ls : List Int) (n : Nat) : att (cnt ls) n ≤ ls.length := by
  induction ls with
  | nil =>
    have : cnt [] = fun _ => 0 := funext cnt_nil
    rw [this]
    induction n with
    | zero => simp [att]
    | succ n ih => simp [att] at ih ⊢; exact ih
  | cons z r ih =>
    have e : cnt (z :: r) = fun i => cnt r i + (if i ≠ 0 ∧ z = i then 1 else 0) := funext (cnt_cons z r)
    rw [e, att_add, att_one]
    simp only [List.length_cons]
    split <;> omega
theorem att_mono (m : Nat → Nat) (a b : Nat) (h : a ≤ b) : att m a ≤ att m b := by
  induction b with
  | zero => rw [show a = 0 from by omega]; exact Nat.le_refl _
  | succ b ih =>
    by_cases e : a = b + 1
    · rw [e]; exact Nat.le_refl _
    · have := ih (by omega)
      rw [att]; omega
theorem att_lt_of (ls : List Int) (a b : Nat) (h : a < b) : att (cnt ls) a + cnt ls a ≤ att (cnt ls) b := att_mono (cnt ls) (a + 1) b h

theorem lenAt_some {ls : List Int} {s n : Nat} (h : ls[s]? = some (n : Int)) : lenAt ls s = n := by
  simp [lenAt, List.getD_eq_getElem?_getD, h]
theorem some_lenAt {ls : List Int} {s : Nat} (hk : okL ls) (h : s < ls.length) : ls[s]? = some (lenAt ls s : Int) := by
  rw [List.getElem?_eq_getElem h]
  have := hk ls[s] (List.getElem_mem h)
  simp [lenAt, List.getD_eq_getElem?_getD, h]
  omega
theorem lenAt_le {ls : List Int} (hk : okL ls) (s : Nat) : lenAt ls s ≤ 15 := by
  by_cases h : s < ls.length
  · have h1 := hk ls[s] (List.getElem_mem h)
    simp [lenAt, List.getD_eq_getElem?_getD, h]
    omega
  · simp [lenAt, List.getD_eq_getElem?_getD, h]

/-- The rank grows from symbol to symbol of one length. -/
theorem cnt_take_lt (ls : List Int) {a b n : Nat} (h : a < b) (hn : n ≠ 0) (ha : ls[a]? = some (n : Int)) : cnt (ls.take a) n < cnt (ls.take b) n := by
  have e : ls.take b = ls.take (a + 1) ++ (ls.take b).drop (a + 1) := by
    have := List.take_append_drop (a + 1) (ls.take b)
    rw [List.take_take, show min (a + 1) b = a + 1 from by omega] at this
    exact this.symm
  rw [e, cnt_append, take_snoc ls a n ha, cnt_snoc]
  simp [hn]
  omega
theorem rank_lt {ls : List Int} {s n : Nat} (hn : n ≠ 0) (h : ls[s]? = some (n : Int)) : rank ls s < cnt ls n := by
  have h1 := cnt_take_lt ls (b := ls.length) (List.getElem?_eq_some_iff.1 h).1 hn h
  rw [List.take_length] at h1
  rw [rank, lenAt_some h]
  exact h1
theorem snoc_ind {α : Type} {P : List α → Prop} (h0 : P []) (h1 : ∀ r z, P r → P (r ++ [z])) (l : List α) : P l := by
  have h : ∀ m : List α, P m.reverse := by
    intro m
    induction m with
    | nil => exact h0
    | cons z r ih => rw [List.reverse_cons]; exact h1 _ _ ih
  have := h l.reverse
  rwa [List.reverse_reverse] at this
theorem cnt_find (ls : List Int) (n j : Nat) (hn : n ≠ 0) (h : j < cnt ls n) : ∃ s : Nat, ls[s]? = some (n : Int) ∧ cnt (ls.take s) n = j := by
  induction ls using snoc_ind with
  | h0 => simp [cnt_nil] at h
  | h1 r z ih =>
    rw [cnt_snoc] at h
    by_cases h1 : j < cnt r n
    · obtain ⟨s, hs, hc⟩ := ih h1
      have hl := (List.getElem?_eq_some_iff.1 hs).1
      exact ⟨s, by rw [List.getElem?_append_left hl]; exact hs, by rw [List.take_append_of_le_length (by omega)]; exact hc⟩
    · by_cases h2 : n ≠ 0 ∧ z = n
      · rw [if_pos h2] at h
        refine ⟨r.length, by simp [h2.2], ?_⟩
        rw [List.take_append_of_le_length (Nat.le_refl _), List.take_length]; omega
      · rw [if_neg h2] at h; omega
theorem rank_inj {ls : List Int} {a b n : Nat} (hn : n ≠ 0) (ha : ls[a]? = some (n : Int)) (hb : ls[b]? = some (n : Int)) (h : rank ls a = rank ls b) : a = b := by
  rw [rank, rank, lenAt_some ha, lenAt_some hb] at h
  rcases Nat.lt_trichotomy a b with h1 | h1 | h1
  · have := cnt_take_lt ls h1 hn ha; omega
  · exact h1
  · have := cnt_take_lt ls h1 hn hb; omega
/-- Where a symbol stands among all that have codes. -/
theorem place_lt {ls : List Int} {s n : Nat} (hn : n ≠ 0) (h : ls[s]? = some (n : Int)) : att (cnt ls) n + rank ls s < ls.length := by
  have h1 := rank_lt hn h
  have h2 := att_le ls (n + 1)
  rw [att] at h2
  omega
theorem place_inj {ls : List Int} {a b n k : Nat} (hn : n ≠ 0) (hk : k ≠ 0) (ha : ls[a]? = some (n : Int)) (hb : ls[b]? = some (k : Int))
    (h : att (cnt ls) n + rank ls a = att (cnt ls) k + rank ls b) : a = b := by
  have h1 := rank_lt hn ha
  have h2 := rank_lt hk hb
  rcases Nat.lt_trichotomy n k with h3 | h3 | h3
  · have := att_lt_of ls n k h3; omega
  · subst h3; exact rank_inj hn ha hb (by omega)
  · have := att_lt_of ls k n h3; omega

theorem cd_eq {ls : List Int} {s n : Nat} (hn : n ≠ 0) (h : ls[s]? = some (n : Int)) : cd ls s = fst (cnt ls) n + rank ls s := by
  rw [cd, lenAt_some h, if_neg hn]
theorem cd_lt {ls : List Int} {s n : Nat} (hM : May ls) (hn : n ≠ 0) (h : ls[s]? = some (n : Int)) : cd ls s < 2 ^ n := by
  have h1 := hM.2.2.1 n (List.mem_of_getElem? h)
  have h2 := fst_le ls hM n (by omega)
  have h3 := rank_lt hn h
  rw [cd_eq hn h]
  omega
theorem cd_lt16 {ls : List Int} (hM : May ls) (s : Nat) : cd ls s < 32768 := by
  unfold cd
  split
  · omega
  · rename_i h0
    have hl : s < ls.length := by
      by_cases h : s < ls.length
      · exact h
      · exact absurd (by simp [lenAt, List.getD_eq_getElem?_getD, h]) h0
    have h1 := some_lenAt hM.2.2.1 hl
    have h2 := cd_lt hM h0 h1
    have h3 : 2 ^ lenAt ls s ≤ 2 ^ 15 := Nat.pow_le_pow_right (by decide) (lenAt_le hM.2.2.1 s)
    rw [cd_eq h0 h1] at h2
    omega
theorem cd_inj {ls : List Int} {a b n : Nat} (hn : n ≠ 0) (ha : ls[a]? = some (n : Int)) (hb : ls[b]? = some (n : Int)) (h : cd ls a = cd ls b) : a = b := by
  rw [cd_eq hn ha, cd_eq hn hb] at h
  exact rank_inj hn ha hb (by omega)

/-- Codes of more bits lie behind. -/
theorem fst_far (m : Nat → Nat) (n d : Nat) : (fst m n + m n) * 2 ^ (d + 1) ≤ fst m (n + d + 1) := by
  induction d with
  | zero => simp [fst]
  | succ d ih =>
    rw [show n + (d + 1) + 1 = (n + d + 1) + 1 from by omega, fst, Nat.pow_succ, ← Nat.mul_assoc]
    have : (fst m n + m n) * 2 ^ (d + 1) ≤ fst m (n + d + 1) + m (n + d + 1) := by omega
    exact Nat.mul_le_mul_right 2 this
/-- No code begins another one. -/
theorem apart {ls : List Int} {a b n k : Nat} (hn : n ≠ 0) (hle : n ≤ k) (ha : ls[a]? = some (n : Int)) (hb : ls[b]? = some (k : Int)) (hne : a ≠ b) :
    cd ls b / 2 ^ (k - n) ≠ cd ls a := by
  rcases Nat.eq_or_lt_of_le hle with h | h
  · subst h
    simp only [Nat.sub_self, Nat.pow_zero, Nat.div_one]
    intro h2
    exact hne (cd_inj hn hb ha h2).symm
  · obtain ⟨d, rfl⟩ : ∃ d, k = n + d + 1 := ⟨k - n - 1, by omega⟩
    have h1 := rank_lt hn ha
    have h2 := fst_far (cnt ls) n d
    rw [cd_eq hn ha, cd_eq (by omega) hb, show n + d + 1 - n = d + 1 from by omega]
    have h3 : fst (cnt ls) n + cnt ls n ≤ (fst (cnt ls) (n + d + 1) + rank ls b) / 2 ^ (d + 1) := by
      rw [Nat.le_div_iff_mul_le (Nat.two_pow_pos _)]
      omega
    omega

theorem deepU_le (m : Nat → Nat) (n : Nat) : ∀ i, i < n → 0 < m i → i ≤ deepU m n := by
  induction n with
  | zero => intro i h; omega
  | succ n ih =>
    intro i h h0
    rw [deepU]
    split
    · omega
    · rename_i h1
      have : i ≠ n := by rintro rfl; exact h1 h0
      exact ih i (by omega) h0
theorem deepU_lt (m : Nat → Nat) (n : Nat) : deepU m n ≤ n - 1 := by
  induction n with
  | zero => simp [deepU]
  | succ n ih => rw [deepU]; split <;> omega
theorem deepU_pos (m : Nat → Nat) (n : Nat) (h : 0 < deepU m n) : 0 < m (deepU m n) := by
  induction n with
  | zero => simp [deepU] at h
  | succ n ih =>
    rw [deepU] at h ⊢
    split
    · assumption
    · rename_i h1
      rw [if_neg h1] at h
      exact ih h
theorem deepL_le (ls : List Int) : deepL ls ≤ 15 := deepU_lt _ 16
theorem deepL_of {ls : List Int} (hk : okL ls) {s n : Nat} (hn : n ≠ 0) (h : ls[s]? = some (n : Int)) : n ≤ deepL ls := by
  have h1 := hk n (List.mem_of_getElem? h)
  have h2 := rank_lt hn h
  exact deepU_le _ 16 n (by omega) (by omega)
theorem deepL_some {ls : List Int} (h : deepL ls ≠ 0) : ∃ s : Nat, ls[s]? = some (deepL ls : Int) := by
  have h1 := deepU_pos (cnt ls) 16 (by show 0 < deepL ls; omega)
  obtain ⟨s, hs, _⟩ := cnt_find ls (deepL ls) 0 h h1
  exact ⟨s, hs⟩

/-- Bits, the highest one first. -/
def vl (B : List Bool) : Nat := B.foldl (fun x b => 2 * x + b.toNat) 0
theorem vl_snoc (B : List Bool) (b : Bool) : vl (B ++ [b]) = 2 * vl B + b.toNat := by simp [vl, List.foldl_append]
theorem vl_lt (B : List Bool) : vl B < 2 ^ B.length := by
  induction B using snoc_ind with
  | h0 => simp [vl]
  | h1 r z ih =>
    rw [vl_snoc, List.length_append, List.length_singleton, Nat.pow_succ]
    cases z <;> simp <;> omega

/-- Bits begin with the code of s, which has n bits. -/
def Hit (ls : List Int) (B : List Bool) (n s : Nat) : Prop := n ≠ 0 ∧ n ≤ B.length ∧ ls[s]? = some (n : Int) ∧ cd ls s = vl (B.take n)
/-- What comes of taking a symbol: symbol, how many bits were taken, and error. -/
inductive Out (ls : List Int) (B : List Bool) : Nat → Nat → Int → Prop
  | ok (n s : Nat) (h : Hit ls B n s) (h0 : ∀ m q, m < n → ¬ Hit ls B m q) : Out ls B s n 0
  | cut (h : B.length < deepL ls) (h0 : ∀ m q, ¬ Hit ls B m q) : Out ls B 0 B.length 10
  | code (h : deepL ls ≤ B.length) (h0 : ∀ m q, ¬ Hit ls B m q) : Out ls B 0 (deepL ls) 13

theorem Out.one {ls : List Int} {B : List Bool} {s n s' n' : Nat} {e e' : Int} (h : Out ls B s n e) (k : Out ls B s' n' e') : s = s' ∧ n = n' ∧ e = e' := by
  cases h with
  | ok n s h h0 =>
    cases k with
    | ok n' s' k k0 =>
      have hn : n = n' := by
        rcases Nat.lt_trichotomy n n' with h1 | h1 | h1
        · exact absurd h (k0 _ _ h1)
        · exact h1
        · exact absurd k (h0 _ _ h1)
      subst hn
      exact ⟨cd_inj h.1 h.2.2.1 k.2.2.1 (by rw [h.2.2.2, k.2.2.2]), rfl, rfl⟩
    | cut k k0 => exact absurd h (k0 _ _)
    | code k k0 => exact absurd h (k0 _ _)
  | cut h h0 =>
    cases k with
    | ok n' s' k k0 => exact absurd k (h0 _ _)
    | cut k k0 => exact ⟨rfl, rfl, rfl⟩
    | code k k0 => omega
  | code h h0 =>
    cases k with
    | ok n' s' k k0 => exact absurd k (h0 _ _)
    | cut k k0 => omega
    | code k k0 => exact ⟨rfl, rfl, rfl⟩
theorem Out.le {ls : List Int} {B : List Bool} {s n : Nat} {e : Int} (h : Out ls B s n e) : n ≤ B.length := by
  cases h with
  | ok n s h h0 => exact h.2.1
  | cut h h0 => exact Nat.le_refl _
  | code h h0 => exact h
end Go.Proofs.Ytbdnhhhagpgibaa
