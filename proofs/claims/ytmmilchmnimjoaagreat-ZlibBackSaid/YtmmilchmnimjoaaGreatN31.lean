/- Merged by program: Zm. -/
import Derived.Test.YtmmilchmnimjoaaGreatN20
import Derived.Test.YtmmilchmnimjoaaGreatN28
import Derived.Test.YtmmilchmnimjoaaGreatN30
/- Packed bytes with a head and a sum: what Unpack may tell, and what it tells of packed bytes, cut, changed or with others behind. Plain, no program. -/
namespace Go.Proofs.YtmmilchmnimjoaaGreat
open Go.RowKit
set_option linter.unusedVariables false
set_option linter.unusedSimpArgs false
def headOk (x y : Nat) : Bool := decide (x % 16 = 8 ∧ x / 16 ≤ 7 ∧ y / 32 % 2 = 0 ∧ (256 * x + y) % 31 = 0)
def chkN (bs : List Nat) : Int := if bs.length < 2 then 10 else if headOk (bs.getD 0 0) (bs.getD 1 0) then 0 else 11
inductive UnIs (bs : List Nat) (most : Nat) : Int → Nat → List Nat → Prop
  | head {k : Int} (h : chkN bs = k) (h0 : k ≠ 0) : UnIs bs most k 0 []
  | bad {k : Int} (h : chkN bs = 0) (h0 : k ≠ 0) (hr : Runs (bs.drop 2) most st0 (.err k)) : UnIs bs most k 0 []
  | cut {out : List Nat} {b : Nat} (h : chkN bs = 0) (hr : Runs (bs.drop 2) most st0 (.ok out b)) (hl : bs.length < (b + 7) / 8 + 6) : UnIs bs most 10 0 []
  | sum {out : List Nat} {b : Nat} (h : chkN bs = 0) (hr : Runs (bs.drop 2) most st0 (.ok out b)) (hl : (b + 7) / 8 + 6 ≤ bs.length) (hs : (bs.drop ((b + 7) / 8 + 2)).take 4 ≠ b4 (sumA out)) : UnIs bs most 12 0 []
  | ok {out : List Nat} {b : Nat} (h : chkN bs = 0) (hr : Runs (bs.drop 2) most st0 (.ok out b)) (hl : (b + 7) / 8 + 6 ≤ bs.length) (hs : (bs.drop ((b + 7) / 8 + 2)).take 4 = b4 (sumA out)) : UnIs bs most 0 ((b + 7) / 8 + 6) out
def zpk (L : List Bool) (bs : List Nat) : List Nat := 120 :: 156 :: (bytesOf false L ++ b4 (sumA bs))
theorem b4_len (x : Nat) : (b4 x).length = 4 := rfl
theorem zpk_len (L : List Bool) (bs : List Nat) : (zpk L bs).length = (bytesOf false L).length + 6 := by
  simp [zpk, b4_len]
theorem zpk_lt (L : List Bool) (bs : List Nat) : ∀ x ∈ zpk L bs, x < 256 := by
  intro x hx
  simp only [zpk, List.mem_cons, List.mem_append] at hx
  rcases hx with rfl | rfl | hx | hx
  · decide
  · decide
  · exact byte_lt x hx
  · exact b4_lt _ (sum_lt bs) x hx
theorem chk_pk (l : List Nat) : chkN (120 :: 156 :: l) = 0 := by
  unfold chkN
  rw [if_neg (by simp)]
  have e : headOk ((120 :: 156 :: l).getD 0 0) ((120 :: 156 :: l).getD 1 0) = true := by
    show headOk 120 156 = true
    decide
  rw [if_pos e]
theorem un_ok {l : List Nat} {most : Nat} {k : Int} {n : Nat} {out o : List Nat} {a : Nat} (h : UnIs (120 :: 156 :: l) most k n out) (hr : Runs l most st0 (.ok o a)) :
    (l.length < (a + 7) / 8 + 4 ∧ k = 10 ∧ n = 0 ∧ out = []) ∨ ((a + 7) / 8 + 4 ≤ l.length ∧ (l.drop ((a + 7) / 8)).take 4 ≠ b4 (sumA o) ∧ k = 12 ∧ n = 0 ∧ out = []) ∨
    ((a + 7) / 8 + 4 ≤ l.length ∧ (l.drop ((a + 7) / 8)).take 4 = b4 (sumA o) ∧ k = 0 ∧ n = (a + 7) / 8 + 6 ∧ out = o) := by
  have hc := chk_pk l
  have hone : ∀ {r : Res}, Runs ((120 :: 156 :: l).drop 2) most st0 r → Res.ok o a = r := fun {r} h2 => hr.one h2
  have hd : ∀ b, (120 :: 156 :: l).drop (b + 2) = l.drop b := fun b => rfl
  cases h with
  | head h1 h0 => exact absurd (h1.symm.trans hc) h0
  | bad _ _ h2 => cases hone h2
  | @cut o2 b _ h2 h3 =>
    obtain ⟨rfl, rfl⟩ := Res.ok.inj (hone h2)
    exact .inl ⟨by simpa using h3, rfl, rfl, rfl⟩
  | @sum o2 b _ h2 h3 h4 =>
    obtain ⟨rfl, rfl⟩ := Res.ok.inj (hone h2)
    rw [hd] at h4
    exact .inr (.inl ⟨by simpa using h3, h4, rfl, rfl, rfl⟩)
  | @ok o2 b _ h2 h3 h4 =>
    obtain ⟨rfl, rfl⟩ := Res.ok.inj (hone h2)
    rw [hd] at h4
    exact .inr (.inr ⟨by simpa using h3, h4, rfl, rfl, rfl⟩)
theorem un_err {l : List Nat} {most : Nat} {k j : Int} {n : Nat} {out : List Nat} (h : UnIs (120 :: 156 :: l) most k n out) (hr : Runs l most st0 (.err j)) : k = j ∧ n = 0 ∧ out = [] := by
  have hc := chk_pk l
  have hone : ∀ {r : Res}, Runs ((120 :: 156 :: l).drop 2) most st0 r → Res.err j = r := fun {r} h2 => hr.one h2
  cases h with
  | head h1 h0 => exact absurd (h1.symm.trans hc) h0
  | bad _ _ h2 => exact ⟨(Res.err.inj (hone h2)).symm, rfl, rfl⟩
  | cut _ h2 => cases hone h2
  | sum _ h2 => cases hone h2
  | ok _ h2 => cases hone h2
theorem nby_of (L : List Bool) : (L.length + 7) / 8 = (bytesOf false L).length := packed_size L
theorem un_back {j : Nat} {bs ms : List Nat} {L : List Bool} {k : Int} {n most : Nat} {out : List Nat} (hp : Packed j bs L) (hb : ∀ x ∈ bs, x < 256) (hm : bs.length ≤ most) (h : UnIs (zpk L bs ++ ms) most k n out) : k = 0 ∧ n = (zpk L bs).length ∧ out = bs := by
  have hr := packed_more (ms := b4 (sumA bs) ++ ms) hp hb hm
  rw [← List.append_assoc] at hr
  have e : zpk L bs ++ ms = 120 :: 156 :: (bytesOf false L ++ b4 (sumA bs) ++ ms) := rfl
  rw [e] at h
  have hz := zpk_len L bs
  rcases un_ok h hr with ⟨h1, _⟩ | ⟨h1, h2, _⟩ | ⟨h1, h2, h3, h4, h5⟩
  · rw [nby_of] at h1
    simp only [List.length_append, b4_len] at h1
    omega
  · exfalso
    apply h2
    rw [nby_of, List.append_assoc, List.drop_left]
    have h4 := List.take_left (l₁ := b4 (sumA bs)) (l₂ := ms)
    rwa [b4_len] at h4
  · rw [nby_of] at h4
    exact ⟨h3, by omega, h5⟩
theorem un_cut {j : Nat} {bs : List Nat} {L : List Bool} {k : Int} {n m : Nat} {out : List Nat} (hp : Packed j bs L) (hb : ∀ x ∈ bs, x < 256) (hm : m < (zpk L bs).length) (h : UnIs ((zpk L bs).take m) bs.length k n out) : k = 10 ∧ n = 0 ∧ out = [] := by
  rw [zpk_len] at hm
  have hlen : ((zpk L bs).take m).length = m := by rw [List.length_take, zpk_len]; omega
  by_cases h2 : m < 2
  · have hc : chkN ((zpk L bs).take m) = 10 := by
      unfold chkN
      rw [if_pos (by omega)]
    cases h with
    | head h1 h0 => exact ⟨h1.symm.trans hc, rfl, rfl⟩
    | bad h1 => rw [hc] at h1; exact absurd h1 (by decide)
    | cut h1 => rw [hc] at h1; exact absurd h1 (by decide)
    | sum h1 => rw [hc] at h1; exact absurd h1 (by decide)
    | ok h1 => rw [hc] at h1; exact absurd h1 (by decide)
  · obtain ⟨q, rfl⟩ : ∃ q, m = q + 2 := ⟨m - 2, by omega⟩
    have e : (zpk L bs).take (q + 2) = 120 :: 156 :: ((bytesOf false L ++ b4 (sumA bs)).take q) := rfl
    rw [e] at h
    by_cases h3 : q < (bytesOf false L).length
    · rw [List.take_append_of_le_length (by omega)] at h
      obtain ⟨h4, h5, h6⟩ := un_err h (packed_cut hp hb (Nat.le_refl _) h3)
      exact ⟨h4, h5, h6⟩
    · have et : (bytesOf false L ++ b4 (sumA bs)).take q = bytesOf false L ++ (b4 (sumA bs)).take (q - (bytesOf false L).length) := by
        rw [List.take_append, List.take_of_length_le (by omega)]
      rw [et] at h
      have hl : (bytesOf false L ++ (b4 (sumA bs)).take (q - (bytesOf false L).length)).length = q := by
        rw [List.length_append, List.length_take, b4_len]
        omega
      rcases un_ok h (packed_more hp hb (Nat.le_refl _)) with ⟨h1, h4, h5, h6⟩ | ⟨h1, _⟩ | ⟨h1, _⟩
      · exact ⟨h4, h5, h6⟩
      · rw [nby_of, hl] at h1; omega
      · rw [nby_of, hl] at h1; omega
theorem b4_inj {x y : Nat} (h : b4 x = b4 y) : x = y := by
  simp only [b4, List.cons.injEq, and_true] at h
  omega
theorem stored_packed (bs : List Nat) : Packed 0 bs (storedL true bs []) := by
  unfold Packed
  rw [if_neg (by decide)]
  exact .stored true bs []
theorem set_same {xs : List Nat} {j x : Nat} (hj : j < xs.length) : xs.set j x = xs ↔ xs[j]? = some x := by
  constructor
  · intro h
    rw [← h]
    simp [hj]
  · intro h
    rw [List.getElem?_eq_getElem hj] at h
    injection h with h
    rw [← h]
    exact List.set_getElem_self hj
theorem un_sees {bs : List Nat} {i x : Nat} {k : Int} {n : Nat} {out : List Nat} (hb : ∀ y ∈ bs, y < 256) (hl : bs.length ≤ 1500) (hi : i < bs.length + 4) (hx : x < 256)
    (h : UnIs ((zpk (storedL true bs []) bs).set (7 + i) x) bs.length k n out) : (k = 0 ↔ (zpk (storedL true bs []) bs)[7 + i]? = some x) ∧ (k = 0 → out = bs) := by
  have est : ∀ cs : List Nat, cs.length ≤ 1500 → (∀ y ∈ cs, y < 256) → bytesOf false (storedL true cs []) = st5 cs := fun cs h1 h2 => st5_bytes cs (by omega) h2
  have ez : zpk (storedL true bs []) bs = 120 :: 156 :: (st5 bs ++ b4 (sumA bs)) := by rw [zpk, est bs hl hb]
  have hs5 := st5_len bs
  rw [ez] at h ⊢
  have e7 : (120 :: 156 :: (st5 bs ++ b4 (sumA bs))).set (7 + i) x = 120 :: 156 :: ((st5 bs ++ b4 (sumA bs)).set (5 + i) x) := by
    rw [show 7 + i = (5 + i) + 1 + 1 from by omega]
    rfl
  have g7 : (120 :: 156 :: (st5 bs ++ b4 (sumA bs)))[7 + i]? = (st5 bs ++ b4 (sumA bs))[5 + i]? := by
    rw [show 7 + i = (5 + i) + 1 + 1 from by omega]
    rfl
  rw [e7] at h
  rw [g7]
  by_cases hd : i < bs.length
  · have hb' : ∀ y ∈ bs.set i x, y < 256 := fun y hy => by
      rcases List.mem_or_eq_of_mem_set hy with h1 | h1
      · exact hb y h1
      · omega
    have hl' : (bs.set i x).length = bs.length := List.length_set
    have hset : (st5 bs ++ b4 (sumA bs)).set (5 + i) x = st5 (bs.set i x) ++ b4 (sumA bs) := by
      rw [List.set_append_left _ _ (by omega)]
      congr 1
      unfold st5
      rw [hl', List.set_append_right _ _ (by simp)]
      congr 2
      simp
    rw [hset] at h
    have hr := packed_more (ms := b4 (sumA bs)) (most := bs.length) (stored_packed (bs.set i x)) hb' (by omega)
    have hn := nby_of (storedL true (bs.set i x) [])
    rw [est _ (by omega) hb'] at hr hn
    have hsx := st5_len (bs.set i x)
    have hsum := sum_set bs i x hd hx hb
    have hget : (st5 bs ++ b4 (sumA bs))[5 + i]? = bs[i]? := by
      rw [List.getElem?_append_left (by omega)]
      unfold st5
      rw [List.getElem?_append_right (by simp)]
      congr 1
      simp
    rw [hget]
    rcases un_ok h hr with ⟨h1, _⟩ | ⟨h1, h2, h3, _⟩ | ⟨h1, h2, h3, _, h5⟩
    · rw [hn, List.length_append, b4_len] at h1; omega
    · rw [hn, List.drop_left] at h2
      have h2 : b4 (sumA bs) ≠ b4 (sumA (bs.set i x)) := h2
      have hne : sumA (bs.set i x) ≠ sumA bs := fun e => h2 (by rw [e])
      rw [h3]
      exact ⟨⟨fun e => absurd e (by decide), fun e => absurd (hsum.2 e) hne⟩, fun e => absurd e (by decide)⟩
    · rw [hn, List.drop_left] at h2
      have h2 : b4 (sumA bs) = b4 (sumA (bs.set i x)) := h2
      have h6 := hsum.1 (b4_inj h2).symm
      exact ⟨⟨fun _ => h6, fun _ => h3⟩, fun _ => by rw [h5]; exact (set_same hd).2 h6⟩
  · obtain ⟨j, rfl⟩ : ∃ j, i = bs.length + j := ⟨i - bs.length, by omega⟩
    have hset : (st5 bs ++ b4 (sumA bs)).set (5 + (bs.length + j)) x = st5 bs ++ (b4 (sumA bs)).set j x := by
      rw [List.set_append_right _ _ (by omega)]
      congr 2
      omega
    rw [hset] at h
    have hr := packed_more (ms := (b4 (sumA bs)).set j x) (most := bs.length) (stored_packed bs) hb (Nat.le_refl _)
    have hn := nby_of (storedL true bs [])
    rw [est _ hl hb] at hr hn
    have hget : (st5 bs ++ b4 (sumA bs))[5 + (bs.length + j)]? = (b4 (sumA bs))[j]? := by
      rw [List.getElem?_append_right (by omega)]
      congr 1
      omega
    rw [hget]
    have hss := set_same (xs := b4 (sumA bs)) (j := j) (x := x) (by rw [b4_len]; omega)
    have hl4 : ((b4 (sumA bs)).set j x).length = 4 := by rw [List.length_set, b4_len]
    have htk : (((b4 (sumA bs)).set j x)).take 4 = (b4 (sumA bs)).set j x := List.take_of_length_le (by omega)
    rcases un_ok h hr with ⟨h1, _⟩ | ⟨h1, h2, h3, _⟩ | ⟨h1, h2, h3, _, h5⟩
    · rw [hn, List.length_append, hl4] at h1; omega
    · rw [hn, List.drop_left, htk] at h2
      rw [h3]
      exact ⟨⟨fun e => absurd e (by decide), fun e => absurd (hss.2 e) h2⟩, fun e => absurd e (by decide)⟩
    · rw [hn, List.drop_left, htk] at h2
      exact ⟨⟨fun _ => hss.1 h2, fun _ => h3⟩, fun _ => h5⟩
end Go.Proofs.YtmmilchmnimjoaaGreat
