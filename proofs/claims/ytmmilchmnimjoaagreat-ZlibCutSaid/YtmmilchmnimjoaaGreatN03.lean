/- Merged by program: Codes SortM Swap SymD. -/
import Derived.Test.YtmmilchmnimjoaaGreatN00
import Derived.Test.YtmmilchmnimjoaaGreatN02
import Derived.Laws.Cover3
import Derived.WalkKit
import Derived.StillTailTactics
import Derived.BigQuiet
import Derived.BigRegion
import Derived.Shelf.Abstract
/- What Codes and Lengths of a table hand back; the copy that slices.Clone makes. -/
namespace Go.Proofs.YtmmilchmnimjoaaGreat
open Go.RowKit
set_option linter.unusedVariables false
set_option linter.unusedSimpArgs false
theorem info_u32 : (Tryz.prog.info? 42).map (fun i => (i.zero, i.size, i.bytes)) = some (some (.int .u32 0), 1, 4) := by kernel_rfl
theorem info_int : (Tryz.prog.info? 3).map (fun i => (i.zero, i.size, i.bytes)) = some (some (.int .i64 0), 1, 8) := by kernel_rfl
theorem eql_slice_nil {P : Program} (t e : TypeId) (a : Addr) (l c : Nat) (w : World) (h : P.underlying t = some (.slice e)) : (binOp .eql t (.slice (some a) l c) (.slice none 0 0)).run P w = .ok (.bool false) w := by
  simp only [binOp]
  simp [run_equal_slice_nil w t e (some a) l c h]
def ccells (L : List Nat) : List Value := L.map fun x => .int .u32 (x : Nat)
theorem own_empty (w : World) (t : TypeId) : (w.alloc (.cells #[] t)).ownsRow 0 t 1 (.slice (some ⟨w.heap.size, 0, none⟩) 0 0) 0 [] :=
  ⟨rfl, .inr ⟨_, 0, #[], rfl, Nat.zero_le _, Blk.new w t #[], Nat.le_refl _, by unfold maxLen; omega, rfl, rfl⟩⟩
def codesOf (ls : List Int) : List Nat := (List.range ls.length).map (cd ls)
def CodesTo (w : World) (ls : List Int) (e : Ending) (w' : World) : Prop :=
  ∃ A cap, e = .returned (.tuple #[.slice A ls.length cap, .int .i64 0]) ∧ w'.ownsRow 0 42 1 (.slice A ls.length cap) ls.length (ccells (codesOf ls)) ∧ Chg NoS w w' ∧ (∀ i, i < w.heap.size → (Value.slice A ls.length cap).ownBlock ≠ some i)
end Go.Proofs.YtmmilchmnimjoaaGreat
/- Rows of which two places are exchanged: plain mathematics, no program. -/
namespace Go.Proofs.YtmmilchmnimjoaaGreat
set_option linter.unusedVariables false
def swapD (d : List Int) (i j : Nat) : List Int := (d.set i (d.getD j 0)).set j (d.getD i 0)
theorem swapD_len (d : List Int) (i j : Nat) : (swapD d i j).length = d.length := by simp [swapD]
theorem swapD_get (d : List Int) (i j k : Nat) (hi : i < d.length) (hj : j < d.length) : (swapD d i j).getD k 0 = if k = j then d.getD i 0 else if k = i then d.getD j 0 else d.getD k 0 := by
  unfold swapD
  simp only [List.getD_eq_getElem?_getD, List.getElem?_set, List.length_set]
  by_cases h1 : k = j
  · subst h1; simp [hj]
  · rw [if_neg (fun e => h1 e.symm), if_neg h1]
    by_cases h2 : k = i
    · subst h2; simp [hi]
    · rw [if_neg (fun e => h2 e.symm), if_neg h2]
theorem swapD_perm (d : List Int) (i j : Nat) (hi : i < d.length) (hj : j < d.length) : (swapD d i j).Perm d := by
  have e1 : d.getD i 0 = d[i] := by simp [List.getD_eq_getElem?_getD, hi]
  have e2 : d.getD j 0 = d[j] := by simp [List.getD_eq_getElem?_getD, hj]
  have e3 : swapD d i j = (d.set i d[j]).set j d[i] := by unfold swapD; rw [e1, e2]
  rw [e3, List.perm_iff_count]
  intro a
  rw [List.count_set (by simpa using hj), List.count_set hi]
  have h1 : 0 < d.count d[i] := List.count_pos_iff.2 (List.getElem_mem hi)
  have h2 : 0 < d.count d[j] := List.count_pos_iff.2 (List.getElem_mem hj)
  by_cases hij : i = j
  · subst hij
    simp only [List.getElem_set_self]
    by_cases ha : d[i] = a
    · subst ha; simp
    · simp [ha]
  · rw [List.getElem_set_ne hij]
    by_cases ha : d[i] = a
    · by_cases hb : d[j] = a
      · subst ha; simp [hb]
      · subst ha; simp [hb]
    · by_cases hb : d[j] = a
      · subst hb; simp [ha]
      · simp [ha, hb]
structure Same (d d' : List Int) (a b : Nat) : Prop where
  len : d'.length = d.length
  perm : d'.Perm d
  out : ∀ i, ¬ (a ≤ i ∧ i < b) → d'.getD i 0 = d.getD i 0
  src : ∀ i, a ≤ i → i < b → ∃ j, a ≤ j ∧ j < b ∧ d'.getD i 0 = d.getD j 0
theorem Same.refl (d : List Int) (a b : Nat) : Same d d a b := ⟨rfl, List.Perm.refl _, fun _ _ => rfl, fun i h1 h2 => ⟨i, h1, h2, rfl⟩⟩
theorem Same.trans {d e f : List Int} {a b : Nat} (h : Same d e a b) (k : Same e f a b) : Same d f a b := ⟨k.len.trans h.len, k.perm.trans h.perm, fun i hi => (k.out i hi).trans (h.out i hi), fun i h1 h2 => by
  obtain ⟨j, j1, j2, j3⟩ := k.src i h1 h2
  obtain ⟨q, q1, q2, q3⟩ := h.src j j1 j2
  exact ⟨q, q1, q2, j3.trans q3⟩⟩
theorem Same.wide {d e : List Int} {a b a' b' : Nat} (h : Same d e a b) (h1 : a' ≤ a) (h2 : b ≤ b') : Same d e a' b' := ⟨h.len, h.perm, fun i hi => h.out i (by omega), fun i h3 h4 => by
  by_cases hi : a ≤ i ∧ i < b
  · obtain ⟨j, j1, j2, j3⟩ := h.src i hi.1 hi.2
    exact ⟨j, by omega, by omega, j3⟩
  · exact ⟨i, h3, h4, h.out i hi⟩⟩
theorem Same.swap (d : List Int) (a b i j : Nat) (hb : b ≤ d.length) (hi : a ≤ i ∧ i < b) (hj : a ≤ j ∧ j < b) : Same d (swapD d i j) a b :=
  ⟨swapD_len d i j, swapD_perm d i j (by omega) (by omega), fun k hk => by
    rw [swapD_get d i j k (by omega) (by omega), if_neg (by omega), if_neg (by omega)], fun k h1 h2 => by
    rw [swapD_get d i j k (by omega) (by omega)]
    by_cases h3 : k = j
    · exact ⟨i, hi.1, hi.2, by rw [if_pos h3]⟩
    · by_cases h4 : k = i
      · exact ⟨j, hj.1, hj.2, by rw [if_neg h3, if_pos h4]⟩
      · exact ⟨k, h1, h2, by rw [if_neg h3, if_neg h4]⟩⟩
def Sorted (key : Int → Int) (d : List Int) (a b : Nat) : Prop := ∀ i j, a ≤ i → i < j → j < b → key (d.getD i 0) ≤ key (d.getD j 0)
theorem Sorted.part {key : Int → Int} {d : List Int} {a b a' b' : Nat} (h : Sorted key d a b) (h1 : a ≤ a') (h2 : b' ≤ b) : Sorted key d a' b' := fun i j hi hij hj => h i j (by omega) hij (by omega)
theorem Sorted.le {key : Int → Int} {d : List Int} {a b i j : Nat} (h : Sorted key d a b) (hi : a ≤ i) (hij : i ≤ j) (hj : j < b) : key (d.getD i 0) ≤ key (d.getD j 0) := by
  rcases Nat.eq_or_lt_of_le hij with e | e
  · subst e; exact Int.le_refl _
  · exact h i j hi e hj
theorem Sorted.congr {key : Int → Int} {d e : List Int} {a b : Nat} (h : Sorted key d a b) (he : ∀ i, a ≤ i → i < b → e.getD i 0 = d.getD i 0) : Sorted key e a b := fun i j hi hij hj => by
  rw [he i hi (by omega), he j (by omega) hj]
  exact h i j hi hij hj
theorem ins_left {key : Int → Int} {d d' : List Int} {a b i : Nat} (h1 : a + 1 ≤ i) (h2 : i ≤ b) (f1 : ∀ q, a ≤ q → q + 1 < i → d'.getD q 0 = d.getD (q + 1) 0) (f2 : d'.getD (i - 1) 0 = d.getD a 0) (f3 : ∀ q, i ≤ q → q < b → d'.getD q 0 = d.getD q 0)
    (k1 : ∀ k, a < k → k < i → key (d.getD k 0) ≤ key (d.getD a 0)) (k2 : ∀ k, i ≤ k → k < b → key (d.getD a 0) ≤ key (d.getD k 0)) (hs : Sorted key d (a + 1) b) : Sorted key d' a b := by
  intro p q hp hpq hq
  by_cases c1 : p + 1 < i
  · rw [f1 p hp c1]
    by_cases c2 : q + 1 < i
    · rw [f1 q (by omega) c2]; exact hs.le (by omega) (by omega) (by omega)
    · by_cases c3 : q + 1 = i
      · rw [show q = i - 1 from by omega, f2]; exact k1 _ (by omega) (by omega)
      · rw [f3 q (by omega) hq]
        exact Int.le_trans (k1 (p + 1) (by omega) (by omega)) (k2 q (by omega) hq)
  · by_cases c3 : p + 1 = i
    · rw [show p = i - 1 from by omega, f2, f3 q (by omega) hq]; exact k2 q (by omega) hq
    · rw [f3 p (by omega) (by omega), f3 q (by omega) hq]; exact hs.le (by omega) (by omega) hq
theorem ins_right {key : Int → Int} {d d' : List Int} {a m i : Nat} (h1 : a ≤ i) (h2 : i ≤ m) (f1 : ∀ q, i < q → q ≤ m → d'.getD q 0 = d.getD (q - 1) 0) (f2 : d'.getD i 0 = d.getD m 0) (f3 : ∀ q, a ≤ q → q < i → d'.getD q 0 = d.getD q 0)
    (k1 : ∀ k, a ≤ k → k < i → key (d.getD k 0) ≤ key (d.getD m 0)) (k2 : ∀ k, i ≤ k → k < m → key (d.getD m 0) ≤ key (d.getD k 0)) (hs : Sorted key d a m) : Sorted key d' a (m + 1) := by
  intro p q hp hpq hq
  by_cases c1 : p < i
  · rw [f3 p hp c1]
    by_cases c2 : q < i
    · rw [f3 q (by omega) c2]; exact hs.le hp (by omega) (by omega)
    · by_cases c3 : q = i
      · rw [c3, f2]; exact k1 p hp c1
      · rw [f1 q (by omega) (by omega)]
        exact hs.le hp (by omega) (by omega)
  · by_cases c3 : p = i
    · rw [c3, f2, f1 q (by omega) (by omega)]; exact k2 _ (by omega) (by omega)
    · rw [f1 p (by omega) (by omega), f1 q (by omega) (by omega)]; exact hs.le (by omega) (by omega) (by omega)
theorem sym_main {key : Int → Int} {d d1 : List Int} {a m b s e mid : Nat} (h1 : a ≤ s) (h2 : s ≤ m) (h3 : m ≤ e) (h4 : e ≤ b) (hmid : mid + m = s + e) (s1 : Sorted key d a m) (s2 : Sorted key d m b)
    (x1 : ∀ x y, a ≤ x → x < s → e ≤ y → y < b → key (d.getD x 0) ≤ key (d.getD y 0)) (x2 : ∀ x y, s ≤ x → x < m → m ≤ y → y < e → key (d.getD y 0) ≤ key (d.getD x 0))
    (f : ∀ k, s ≤ k → k < e → d1.getD k 0 = if k < mid then d.getD (m + (k - s)) 0 else d.getD (k - (e - m)) 0) (fo : ∀ k, ¬ (s ≤ k ∧ k < e) → d1.getD k 0 = d.getD k 0) :
    Sorted key d1 a s ∧ Sorted key d1 s mid ∧ Sorted key d1 mid e ∧ Sorted key d1 e b ∧ ∀ x y, a ≤ x → x < mid → mid ≤ y → y < b → key (d1.getD x 0) ≤ key (d1.getD y 0) := by
  refine ⟨(s1.part (Nat.le_refl _) h2).congr (fun i _ hi => fo i (by omega)), ?_, ?_, (s2.part h3 (Nat.le_refl _)).congr (fun i hi _ => fo i (by omega)), ?_⟩
  · intro i j hi hij hj
    rw [f i hi (by omega), f j (by omega) (by omega), if_pos (by omega), if_pos hj]
    exact s2.le (by omega) (by omega) (by omega)
  · intro i j hi hij hj
    rw [f i (by omega) (by omega), f j (by omega) hj, if_neg (by omega), if_neg (by omega)]
    exact s1.le (by omega) (by omega) (by omega)
  · intro x y hx hxm hy hyb
    by_cases c1 : x < s
    · rw [fo x (by omega)]
      by_cases c2 : y < e
      · rw [f y (by omega) c2, if_neg (by omega)]; exact s1.le hx (by omega) (by omega)
      · rw [fo y (by omega)]; exact x1 x y hx c1 (by omega) hyb
    · rw [f x (by omega) (by omega), if_pos hxm]
      by_cases c2 : y < e
      · rw [f y (by omega) c2, if_neg (by omega)]; exact x2 _ _ (by omega) (by omega) (by omega) (by omega)
      · rw [fo y (by omega)]; exact s2.le (by omega) (by omega) hyb
theorem sym_end {key : Int → Int} {d1 d2 d3 : List Int} {a mid b : Nat} (h : Same d1 d2 a mid) (k : Same d2 d3 mid b) (hs : Sorted key d2 a mid) (ks : Sorted key d3 mid b)
    (hx : ∀ x y, a ≤ x → x < mid → mid ≤ y → y < b → key (d1.getD x 0) ≤ key (d1.getD y 0)) : Sorted key d3 a b := by
  intro p q hp hpq hq
  by_cases c1 : q < mid
  · rw [k.out p (by omega), k.out q (by omega)]; exact hs p q hp hpq c1
  · by_cases c2 : p < mid
    · obtain ⟨x, x1, x2, x3⟩ := h.src p hp c2
      obtain ⟨y, y1, y2, y3⟩ := k.src q (by omega) hq
      rw [k.out p (by omega), x3, y3, h.out y (by omega)]
      exact hx x y x1 x2 y1 y2
    · exact ks p q (by omega) hpq hq
def kk (key : Int → Int) (N : Int) (x : Int) : Int := key x * N + x
theorem kk_lt {key : Int → Int} {N x y : Int} (hx : 0 ≤ x ∧ x < N) (hy : 0 ≤ y ∧ y < N) : kk key N x < kk key N y ↔ key x < key y ∨ (key x = key y ∧ x < y) := by
  have h1 : ∀ {a b : Int}, a < b → a * N + N ≤ b * N := fun {a b} h => by
    have := Int.mul_le_mul_of_nonneg_right (show a + 1 ≤ b from h) (show 0 ≤ N by omega)
    rw [Int.add_mul, Int.one_mul] at this
    exact this
  unfold kk
  constructor
  · intro h
    rcases Int.lt_trichotomy (key x) (key y) with h2 | h2 | h2
    · exact .inl h2
    · rw [h2] at h; exact .inr ⟨h2, by omega⟩
    · have := h1 h2; omega
  · rintro (h | ⟨h, h2⟩)
    · have := h1 h; omega
    · rw [h]; omega
theorem kk_le {key : Int → Int} {N x y : Int} (hx : 0 ≤ x ∧ x < N) (hy : 0 ≤ y ∧ y < N) (h : kk key N x ≤ kk key N y) : key x ≤ key y ∧ (key x = key y → x ≤ y) := by
  have h1 := mt (kk_lt (key := key) hy hx).2 (by omega)
  exact ⟨by omega, fun e => by omega⟩
def InTurn (key : Int → Int) (d : List Int) : Prop := ∀ p q, p < q → q < d.length → key (d.getD p 0) = key (d.getD q 0) → d.getD p 0 ≤ d.getD q 0
theorem InTurn.part {key : Int → Int} {d d' : List Int} {a b : Nat} (h : InTurn key d) (hs : Same d d' a b) (hb : b ≤ d.length) (hq : ∀ p q, a ≤ p → p < q → q < b → key (d'.getD p 0) = key (d'.getD q 0) → d'.getD p 0 ≤ d'.getD q 0) : InTurn key d' := by
  intro p q hpq hq2 he
  have hlen := hs.len
  by_cases hp : a ≤ p ∧ p < b
  · by_cases hq3 : q < b
    · exact hq p q hp.1 hpq hq3 he
    · obtain ⟨p', h1, h2, h3⟩ := hs.src p hp.1 hp.2
      rw [h3, hs.out q (by omega)] at he ⊢
      exact h p' q (by omega) (by omega) he
  · by_cases hq3 : a ≤ q ∧ q < b
    · obtain ⟨q', h1, h2, h3⟩ := hs.src q hq3.1 hq3.2
      rw [hs.out p hp, h3] at he ⊢
      exact h p q' (by omega) (by omega) he
    · rw [hs.out p hp, hs.out q hq3] at he ⊢
      exact h p q hpq (by omega) he
theorem InTurn.same {key0 key : Int → Int} {N : Int} {d d' : List Int} {a b : Nat} (hk : key = kk key0 N) (h : InTurn key0 d) (hs : Same d d' a b) (hb : b ≤ d.length) (hg : ∀ i, i < d'.length → 0 ≤ d'.getD i 0 ∧ d'.getD i 0 < N) (hq : Sorted key d' a b) : InTurn key0 d' := by
  subst hk
  have hlen := hs.len
  exact h.part hs hb fun p q h1 h2 h3 he => (kk_le (hg p (by omega)) (hg q (by omega)) (hq p q h1 h2 h3)).2 he
theorem sym_st {key0 key : Int → Int} {N : Int} {d d1 : List Int} {a m b s e mid : Nat} (hk : key = kk key0 N) (h1 : a ≤ s) (h2 : s ≤ m) (h3 : m ≤ e) (h4 : e ≤ b) (hmid : mid + m = s + e) (hb : b ≤ d.length) (hst : InTurn key0 d) (hs : Same d d1 a b) (hg : ∀ i, i < d1.length → 0 ≤ d1.getD i 0 ∧ d1.getD i 0 < N)
    (hm : Sorted key d1 a s ∧ Sorted key d1 s mid ∧ Sorted key d1 mid e ∧ Sorted key d1 e b ∧ ∀ x y, a ≤ x → x < mid → mid ≤ y → y < b → key (d1.getD x 0) ≤ key (d1.getD y 0))
    (f : ∀ k, s ≤ k → k < e → d1.getD k 0 = if k < mid then d.getD (m + (k - s)) 0 else d.getD (k - (e - m)) 0) (fo : ∀ k, ¬ (s ≤ k ∧ k < e) → d1.getD k 0 = d.getD k 0) : InTurn key0 d1 := by
  subst hk
  obtain ⟨m1, m2, m3, m4, m5⟩ := hm
  have hlen := hs.len
  refine hst.part hs hb fun p q hp hpq hq he => ?_
  have hle : kk key0 N (d1.getD p 0) ≤ kk key0 N (d1.getD q 0) → d1.getD p 0 ≤ d1.getD q 0 := fun h => (kk_le (hg p (by omega)) (hg q (by omega)) h).2 he
  by_cases c1 : p < mid
  · by_cases c2 : mid ≤ q
    · exact hle (m5 p q hp c1 c2 hq)
    · by_cases c3 : q < s
      · exact hle (m1 p q hp hpq c3)
      · by_cases c4 : s ≤ p
        · exact hle (m2 p q c4 hpq (by omega))
        · rw [fo p (by omega), f q (by omega) (by omega), if_pos (by omega)] at he ⊢
          exact hst _ _ (by omega) (by omega) he
  · by_cases c3 : q < e
    · exact hle (m3 p q (by omega) hpq c3)
    · by_cases c4 : e ≤ p
      · exact hle (m4 p q c4 hpq hq)
      · rw [f p (by omega) (by omega), if_neg c1, fo q (by omega)] at he ⊢
        exact hst _ _ (by omega) (by omega) he
end Go.Proofs.YtmmilchmnimjoaaGreat
/- What swapRange does to a row of integers. -/
namespace Go.Proofs.YtmmilchmnimjoaaGreat
open Go.RowKit
set_option linter.unusedVariables false
set_option linter.unusedSimpArgs false
def Row (w : World) (g cap : Nat) (d : List Int) : Prop := w.ownsRow 0 3 1 (.slice (some ⟨g, 0, none⟩) d.length cap) d.length (icells d)
theorem Row.chg {w w' : World} {g cap : Nat} {d : List Int} {K : Nat → Prop} (h : Row w g cap d) (hc : Chg K w w') (hk : ¬ K g) : Row w' g cap d := own_chg h hc (fun i hi => by
  simp [Value.ownBlock] at hi
  subst hi
  exact hk)
theorem Row.drewN {w : World} {g cap : Nat} {d : List Int} (h : Row w g cap d) (n : Nat) : Row (w.drewN n) g cap d := own_drewN h n
theorem Row.drew {w : World} {g cap : Nat} {d : List Int} (h : Row w g cap d) : Row w.drew g cap d := own_drew h
theorem Row.cell {w : World} {g cap : Nat} {d : List Int} (h : Row w g cap d) (i : Nat) (hi : i < d.length) : w.cell? ⟨g, i, none⟩ = some (.int .i64 (d.getD i 0)) := by
  have h1 := World.ownsRow.cellAt h i (by omega)
  rw [h1]
  simp [icells, List.getD_eq_getElem?_getD, hi]
theorem Row.set {w : World} {g cap : Nat} {d : List Int} (h : Row w g cap d) (i : Nat) (x : Int) : Row (w.setCell ⟨g, i, none⟩ (.int .i64 x)) g cap (d.set i x) := by
  have h1 := (World.ownsRow.stored h i (.int .i64 x)).1
  have e : (icells d).set i (.int .i64 x) = icells (d.set i x) := by simp [icells, List.map_set]
  rw [e] at h1
  unfold Row
  rw [List.length_set]
  exact h1
theorem Row.frozen {w : World} {g cap : Nat} {d : List Int} (h : Row w g cap d) (i : Nat) : w.frozen? ⟨g, i, none⟩ = false := World.ownsRow.frozenAt h i
theorem Row.swap {w : World} {g cap : Nat} {d : List Int} (h : Row w g cap d) (i j : Nat) : Row ((w.setCell ⟨g, i, none⟩ (.int .i64 (d.getD j 0))).setCell ⟨g, j, none⟩ (.int .i64 (d.getD i 0))) g cap (swapD d i j) := (h.set i _).set j _
def SortTo (w : World) (g cap : Nat) (d : List Int) (a b : Nat) (R : List Int → Prop) (e : Ending) (w' : World) : Prop :=
  e = .returned (.tuple #[]) ∧ ∃ d', Row w' g cap d' ∧ Same d d' a b ∧ R d' ∧ Chg (fun i => i = g) w w'
set_option maxHeartbeats 2000000 in
set_option maxRecDepth 100000 in
theorem swapRange_any (g cap a b n : Nat) (f : Value) (d : List Int) (w : World) (hR : Row w g cap d) (hab : a + n ≤ b) (hb : b + n ≤ d.length) (hL : d.length ≤ 1000000) :
    Calls Tryz.prog 175 #[.slice (some ⟨g, 0, none⟩) d.length cap, .int .i64 a, .int .i64 b, .int .i64 n, f] w
      (SortTo w g cap d a (b + n) (fun d' => ∀ k, d'.getD k 0 = if a ≤ k ∧ k < a + n then d.getD (b + (k - a)) 0 else if b ≤ k ∧ k < b + n then d.getD (a + (k - b)) 0 else d.getD k 0)) := by
  have HR := keepf hR
  clear hR
  obtain ⟨N, hN⟩ : ∃ N, N = d.length := ⟨_, rfl⟩
  have HN := keepf hN
  rw [← hN] at hb hL ⊢
  clear hN
  go_enter Tryz.func175, Tryz.ntmps175
  go_wp2_with fail
  go_loopw [10] (fun i wr => ∃ k : Nat, ∃ d1 : List Int, k ≤ n ∧ i = .int .i64 k ∧ d1.length = N ∧ Row wr g cap d1 ∧ Hid (Same d d1 a (b + n)) ∧ Hid (∀ q, d1.getD q 0 = if a ≤ q ∧ q < a + k then d.getD (b + (q - a)) 0 else if b ≤ q ∧ q < b + k then d.getD (a + (q - b)) 0 else d.getD q 0) ∧ Chg (fun i => i = g) w wr) (fun i _ => n - (intOf i).toNat)
  case atStart => exact ⟨0, d, Nat.zero_le _, rfl, HN.out.symm, HR.out, Same.refl _ _ _, fun q => by rw [if_neg (by omega), if_neg (by omega)], Chg.refl _ _⟩
  case round =>
    obtain ⟨k, d1, hk, rfl, hl1, hRw, hSm, hQ, hch⟩ := hrel
    have HRw := keepf hRw
    have HCh := keepf hch
    clear hRw hch HR
    by_cases hlt : k < n
    · have c1 := HRw.out.cell (a + k) (by omega)
      have c2 := HRw.out.cell (b + k) (by omega)
      have f1 := HRw.out.frozen (a + k)
      have f2 := HRw.out.frozen (b + k)
      obtain ⟨x, hx⟩ : ∃ x, x = d1.getD (a + k) 0 := ⟨_, rfl⟩
      obtain ⟨y, hy⟩ : ∃ y, y = d1.getD (b + k) 0 := ⟨_, rfl⟩
      rw [← hx] at c1
      rw [← hy] at c2
      have HX := keepf hx
      have HY := keepf hy
      clear hx hy
      have e1 : IntKind.i64.wrap ((a : Int) + k) = (a : Int) + k := by rw [IntKind.wrap_i64]; omega
      have e2 : IntKind.i64.wrap ((b : Int) + k) = (b : Int) + k := by rw [IntKind.wrap_i64]; omega
      have b1 : (a : Int) + k < N := by omega
      have b2 : (b : Int) + k < N := by omega
      have b3 : 0 ≤ (a : Int) + k := by omega
      have b4 : 0 ≤ (b : Int) + k := by omega
      have t1 : ((a : Int) + k).toNat = a + k := by omega
      have t2 : ((b : Int) + k).toNat = b + k := by omega
      go_upto_region 3 with fail
      go_region
      go_wp2_with fail
      go_roundw
      case rel =>
        have hsw := HRw.out.swap (a + k) (b + k)
        rw [← HX.out, ← HY.out] at hsw
        refine ⟨k + 1, swapD d1 (a + k) (b + k), by omega, by go_num, by rw [swapD_len]; exact hl1, hsw.drew, hSm.out.trans (Same.swap d1 a (b + n) (a + k) (b + k) (by omega) (by omega) (by omega)), ?_, ((HCh.out.setCell (p := ⟨g, a + k, none⟩) (fun _ => rfl) _).setCell (p := ⟨g, b + k, none⟩) (fun _ => rfl) _).drew⟩
        intro q
        rw [swapD_get d1 _ _ q (by omega) (by omega)]
        have hq0 := hQ.out
        by_cases h1 : q = b + k
        · subst h1
          rw [if_pos rfl, if_neg (show ¬ (a ≤ b + k ∧ b + k < a + (k + 1)) by omega), if_pos (show b ≤ b + k ∧ b + k < b + (k + 1) by omega), hq0, if_neg (show ¬ (a ≤ a + k ∧ a + k < a + k) by omega), if_neg (show ¬ (b ≤ a + k ∧ a + k < b + k) by omega)]
          congr 1; omega
        · rw [if_neg h1]
          by_cases h2 : q = a + k
          · subst h2
            rw [if_pos rfl, if_pos (show a ≤ a + k ∧ a + k < a + (k + 1) by omega), hq0, if_neg (show ¬ (a ≤ b + k ∧ b + k < a + k) by omega), if_neg (show ¬ (b ≤ b + k ∧ b + k < b + k) by omega)]
            congr 1; omega
          · rw [if_neg h2, hq0]
            by_cases h3 : a ≤ q ∧ q < a + k
            · rw [if_pos h3, if_pos (show a ≤ q ∧ q < a + (k + 1) by omega)]
            · rw [if_neg h3, if_neg (show ¬ (a ≤ q ∧ q < a + (k + 1)) by omega)]
              by_cases h4 : b ≤ q ∧ q < b + k
              · rw [if_pos h4, if_pos (show b ≤ q ∧ q < b + (k + 1) by omega)]
              · rw [if_neg h4, if_neg (show ¬ (b ≤ q ∧ q < b + (k + 1)) by omega)]
      case measure => simp [intOf]; omega
    · obtain rfl : n = k := by omega
      go_wp2_with fail
      go_end0
      exact ⟨rfl, d1, HRw.out, hSm.out, hQ.out, HCh.out⟩
set_option maxHeartbeats 2000000 in
set_option maxRecDepth 100000 in
theorem rotate_any (g cap a m b : Nat) (f : Value) (d : List Int) (w : World) (hR : Row w g cap d) (ham : a < m) (hmb : m < b) (hb : b ≤ d.length) (hL : d.length ≤ 1000000) :
    Calls Tryz.prog 174 #[.slice (some ⟨g, 0, none⟩) d.length cap, .int .i64 a, .int .i64 m, .int .i64 b, f] w
      (SortTo w g cap d a b (fun d' => ∀ k, a ≤ k → k < b → d'.getD k 0 = if k < a + (b - m) then d.getD (m + (k - a)) 0 else d.getD (k - (b - m)) 0)) := by
  have HR := keepf hR
  clear hR
  obtain ⟨N, hN⟩ : ∃ N, N = d.length := ⟨_, rfl⟩
  have HN := keepf hN
  rw [← hN] at hb hL ⊢
  clear hN
  have HSW : Hid (∀ (W : World) (d1 : List Int) (a' b' n' : Nat), d1.length = N → Row W g cap d1 → a' + n' ≤ b' → b' + n' ≤ N →
      Calls Tryz.prog 175 #[.slice (some ⟨g, 0, none⟩) N cap, .int .i64 a', .int .i64 b', .int .i64 n', f] W
      (SortTo W g cap d1 a' (b' + n') (fun d' => ∀ k, d'.getD k 0 = if a' ≤ k ∧ k < a' + n' then d1.getD (b' + (k - a')) 0 else if b' ≤ k ∧ k < b' + n' then d1.getD (a' + (k - b')) 0 else d1.getD k 0))) := by
    intro W d1 a' b' n' h1 h2 h3 h4
    subst h1
    exact swapRange_any g cap a' b' n' f d1 W h2 h3 h4 hL
  obtain ⟨T, hT⟩ : ∃ T : Nat → Int, ∀ k, T k = if k < a + (b - m) then d.getD (m + (k - a)) 0 else d.getD (k - (b - m)) 0 := ⟨_, fun _ => rfl⟩
  have HT := keepf hT
  clear hT
  go_enter Tryz.func174, Tryz.ntmps174
  go_wp2_with fail
  go_loopw [10, 11] (fun vi vj wr => ∃ i j : Nat, ∃ d1 : List Int, 0 < i ∧ 0 < j ∧ i ≤ m - a ∧ j ≤ b - m ∧ vi = .int .i64 i ∧ vj = .int .i64 j ∧ d1.length = N ∧ Row wr g cap d1 ∧ Hid (Same d d1 a b) ∧
      Hid ((∀ k, a ≤ k → k < b → ¬ (m - i ≤ k ∧ k < m + j) → d1.getD k 0 = T k) ∧ (∀ y, y < j → T (m - i + y) = d1.getD (m + y) 0) ∧ (∀ x, x < i → T (m - i + j + x) = d1.getD (m - i + x) 0)) ∧ Chg (fun i => i = g) w wr) (fun vi vj _ => (intOf vi).toNat + (intOf vj).toNat)
  case atStart =>
    refine ⟨m - a, b - m, d, by omega, by omega, by omega, by omega, by go_num, by go_num, HN.out.symm, HR.out, Same.refl _ _ _, ⟨fun k h1 h2 h3 => absurd ⟨by omega, by omega⟩ h3, fun y hy => ?_, fun x hx => ?_⟩, Chg.refl _ _⟩
    · rw [HT.out, if_pos (by omega)]; congr 1; omega
    · rw [HT.out, if_neg (by omega)]; congr 1; omega
  case round =>
    obtain ⟨i, j, d1, hi0, hj0, hi, hj, rfl, rfl, hl1, hRw, hSm, hQ, hch⟩ := hrel
    have HRw := keepf hRw
    have HCh := keepf hch
    clear hRw hch HR
    have emi : ((m : Int) - i) = ((m - i : Nat) : Int) := by omega
    have HMI := keepf emi
    clear emi
    by_cases hij : i = j
    · subst hij
      go_wp2_with (go_at_call 175; rw [HMI.out]; refine (HSW.out _ d1 (m - i) m i hl1 HRw.out (by omega) (by omega)).mono ?_; rintro e w3 ⟨rfl, d3, hr3, hs3, hq3, hc3⟩; have HR3 := keepf hr3; have HS3 := keepf hs3; have HQ3 := keepf hq3; have HC3 := keepf hc3; clear hr3 hs3 hq3 hc3)
      go_end0
      refine ⟨rfl, d3, HR3.out, hSm.out.trans (HS3.out.wide (by omega) (by omega)), fun k h1 h2 => ?_, HCh.out.trans HC3.out (fun _ _ h => h)⟩
      obtain ⟨hA, hB, hC⟩ := hQ.out
      rw [← HT.out, HQ3.out]
      by_cases h3 : m - i ≤ k ∧ k < m - i + i
      · rw [if_pos h3, ← hB _ (by omega)]; congr 1; omega
      · rw [if_neg h3]
        by_cases h4 : m ≤ k ∧ k < m + i
        · rw [if_pos h4, ← hC _ (by omega)]; congr 1; omega
        · rw [if_neg h4]; exact hA k h1 h2 (by omega)
    · by_cases hlt : j < i
      · have hlt' : (j : Int) < i := by omega
        have hne' : ¬ ((i : Int) = (j : Int)) := by omega
        go_wp2_with (go_at_call 175; rw [HMI.out]; refine (HSW.out _ d1 (m - i) m j hl1 HRw.out (by omega) (by omega)).mono ?_; rintro e w3 ⟨rfl, d3, hr3, hs3, hq3, hc3⟩; have HR3 := keepf hr3; have HS3 := keepf hs3; have HQ3 := keepf hq3; have HC3 := keepf hc3; clear hr3 hs3 hq3 hc3)
        go_roundw
        case rel =>
          refine ⟨i - j, j, d3, by omega, by omega, by omega, by omega, by go_num, rfl, by rw [HS3.out.len]; exact hl1, HR3.out, hSm.out.trans (HS3.out.wide (by omega) (by omega)), ?_, HCh.out.trans HC3.out (fun _ _ h => h)⟩
          obtain ⟨hA, hB, hC⟩ := hQ.out
          refine ⟨fun k h1 h2 h3 => ?_, fun y hy => ?_, fun x hx => ?_⟩
          · rw [HQ3.out]
            by_cases h4 : m - i ≤ k ∧ k < m - i + j
            · rw [if_pos h4, ← hB _ (by omega)]; congr 1; omega
            · rw [if_neg h4, if_neg (show ¬ (m ≤ k ∧ k < m + j) by omega)]; exact hA k h1 h2 (by omega)
          · rw [HQ3.out, if_neg (show ¬ (m - i ≤ m + y ∧ m + y < m - i + j) by omega), if_pos (show m ≤ m + y ∧ m + y < m + j by omega), show m - i + (m + y - m) = m - i + y from by omega, ← hC y (by omega)]
            congr 1; omega
          · rw [HQ3.out, if_neg (show ¬ (m - i ≤ m - (i - j) + x ∧ m - (i - j) + x < m - i + j) by omega), if_neg (show ¬ (m ≤ m - (i - j) + x ∧ m - (i - j) + x < m + j) by omega), show m - (i - j) + x = m - i + (j + x) from by omega, ← hC (j + x) (by omega)]
            congr 1; omega
        case measure => simp [intOf]; omega
      · have hlt' : decide ((j : Int) < i) = false := by simp; omega
        have hne' : ¬ ((i : Int) = (j : Int)) := by omega
        have emj : ((m : Int) + j - i) = ((m + j - i : Nat) : Int) := by omega
        have HMJ := keepf emj
        clear emj
        go_wp2_with (go_at_call 175; rw [HMI.out, HMJ.out]; refine (HSW.out _ d1 (m - i) (m + j - i) i hl1 HRw.out (by omega) (by omega)).mono ?_; rintro e w3 ⟨rfl, d3, hr3, hs3, hq3, hc3⟩; have HR3 := keepf hr3; have HS3 := keepf hs3; have HQ3 := keepf hq3; have HC3 := keepf hc3; clear hr3 hs3 hq3 hc3)
        go_roundw
        case rel =>
          refine ⟨i, j - i, d3, by omega, by omega, by omega, by omega, rfl, by go_num, by rw [HS3.out.len]; exact hl1, HR3.out, hSm.out.trans (HS3.out.wide (by omega) (by omega)), ?_, HCh.out.trans HC3.out (fun _ _ h => h)⟩
          obtain ⟨hA, hB, hC⟩ := hQ.out
          refine ⟨fun k h1 h2 h3 => ?_, fun y hy => ?_, fun x hx => ?_⟩
          · rw [HQ3.out, if_neg (show ¬ (m - i ≤ k ∧ k < m - i + i) by omega)]
            by_cases h4 : m + j - i ≤ k ∧ k < m + j - i + i
            · rw [if_pos h4, ← hC _ (by omega)]; congr 1; omega
            · rw [if_neg h4]; exact hA k h1 h2 (by omega)
          · rw [HQ3.out, if_neg (show ¬ (m - i ≤ m + y ∧ m + y < m - i + i) by omega), if_neg (show ¬ (m + j - i ≤ m + y ∧ m + y < m + j - i + i) by omega), ← hB y (by omega)]
          · rw [HQ3.out, if_pos (show m - i ≤ m - i + x ∧ m - i + x < m - i + i by omega), show m + j - i + (m - i + x - (m - i)) = m + (j - i + x) from by omega, ← hB (j - i + x) (by omega)]
            congr 1; omega
        case measure => simp [intOf]; omega
end Go.Proofs.YtmmilchmnimjoaaGreat
/- Comparisons by a key, as a function value makes them. -/
namespace Go.Proofs.YtmmilchmnimjoaaGreat
open Go.RowKit
set_option linter.unusedVariables false
def cmpv (a b : Int) : Int := if a < b then -1 else if b < a then 1 else 0
theorem cmpv_lt (a b : Int) : decide (cmpv a b < 0) = decide (a < b) := by
  unfold cmpv
  by_cases h : a < b
  · simp [h]
  · rw [if_neg h]
    by_cases h2 : b < a
    · simp [h2, h]
    · simp [h2, h]
def CmpOf (g : Nat) (lb : Array Value) (key : Int → Int) (N : Int) (blk : Nat) (w0 : World) : Prop :=
  ∀ (x y : Int) (W : World), 0 ≤ x → x < N → 0 ≤ y → y < N → Chg (fun i => i = blk) w0 W → Calls Tryz.prog g (#[.int .i64 x, .int .i64 y] ++ lb) W fun e w' => e = .returned (.int .i64 (cmpv (key x) (key y))) ∧ ∃ m, w' = W.drewN m
def Good (N : Int) (d : List Int) : Prop := ∀ x ∈ d, 0 ≤ x ∧ x < N
theorem Good.get {N : Int} {d : List Int} (h : Good N d) (i : Nat) (hi : i < d.length) : 0 ≤ d.getD i 0 ∧ d.getD i 0 < N := by
  have e : d.getD i 0 = d[i] := by simp [List.getD_eq_getElem?_getD, hi]
  rw [e]
  exact h _ (List.getElem_mem hi)
theorem Good.same {N : Int} {d d' : List Int} {a b : Nat} (h : Good N d) (k : Same d d' a b) : Good N d' := fun x hx => h x (k.perm.mem_iff.1 hx)
theorem drewN_drewN (w : World) (m n : Nat) : (w.drewN m).drewN n = w.drewN (m + n) := by simp [World.drewN, Nat.add_assoc]
theorem quiet_draw {P : Program} {f : FuncId} {args : Array Value} {w : World} {n : Nat} {v : Value}
    (h : Calls P f args (w.drewN n) fun e w' => e = .returned v ∧ ∃ m, w' = (w.drewN n).drewN m) : Calls P f args (w.drewN n) fun e w'' => e = .returned v ∧ ∃ m, w'' = w.drewN m :=
  h.mono fun _ _ ⟨he, m, hm⟩ => ⟨he, n + m, by rw [hm, drewN_drewN]⟩
theorem cmp_cross {key0 key : Int → Int} {N : Int} {d : List Int} {i j : Nat} (hk : key = kk key0 N) (hst : InTurn key0 d) (hg : Good N d) (hji : j < i) (hi : i < d.length) :
    decide (cmpv (key0 (d.getD i 0)) (key0 (d.getD j 0)) < 0) = decide (key (d.getD i 0) < key (d.getD j 0)) := by
  subst hk
  rw [cmpv_lt]
  have h1 := kk_lt (key := key0) (hg.get i hi) (hg.get j (by omega))
  have h2 := hst j i hji hi
  rw [decide_eq_decide, h1]
  omega
end Go.Proofs.YtmmilchmnimjoaaGreat
