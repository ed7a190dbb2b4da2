/- The lengths that share gives may be, and are complete. Plain, no program. -/
import Derived.Test.YtkhhiaggmncehaaShareW
namespace Go.Proofs.Ytkhhiaggmncehaa
set_option linter.unusedVariables false

theorem level_long (S : List Nd) : ∀ k j, S.length ≤ j * 2 ^ k → 2 * S.length ≤ (levelOf S k).length + j
  | 0, j, h => by
    have : (levelOf S 0).length = S.length := rfl
    simp at h
    omega
  | k + 1, j, h => by
    have ih := level_long S k (2 * j) (by rw [Nat.pow_succ] at h; rw [Nat.mul_comm 2 j, Nat.mul_assoc, Nat.mul_comm 2]; exact h)
    rw [levelOf, mergeOf_len, pairsOf_len]
    omega

/-- The room of one length. -/
def rm1 (z : Int) : Nat := if z = 0 then 0 else 2 ^ (15 - z.toNat)
theorem rmOf_set (z : Int) : ∀ (D : List Int) (i : Nat), i < D.length → rmOf (D.set i z) + rm1 (D.getD i 0) = rmOf D + rm1 z
  | x :: D, 0, _ => by
    show rm1 z + rmOf D + rm1 x = rm1 x + rmOf D + rm1 z
    omega
  | x :: D, i + 1, h => by
    have ih := rmOf_set z D i (by simpa using h)
    show rm1 x + rmOf (D.set i z) + rm1 (D.getD i 0) = rm1 x + rmOf D + rm1 z
    omega
theorem rmOf_zero : ∀ D : List Int, (∀ y, y < D.length → D.getD y 0 = 0) → rmOf D = 0
  | [], _ => rfl
  | x :: D, h => by
    have h0 : x = 0 := h 0 (by simp)
    have h1 := rmOf_zero D (fun y hy => h (y + 1) (by simpa using hy))
    subst h0
    show rm1 0 + rmOf D = 0
    rw [h1]
    rfl
theorem rmOf_sum : ∀ (d : List Int) (D : List Int), d.Nodup → Good D.length d → (∀ y : Nat, (y : Int) ∉ d → D.getD y 0 = 0) → rmOf D = (d.map (fun x => rm1 (D.getD x.toNat 0))).sum
  | [], D, _, _, h => by rw [rmOf_zero D (fun y _ => h y (by simp))]; rfl
  | x :: d, D, hn, hg, h => by
    have hn2 := List.nodup_cons.1 hn
    have hx := hg x (List.mem_cons_self ..)
    have ih := rmOf_sum d (D.set x.toNat 0) hn2.2 (fun y hy => by rw [List.length_set]; exact hg y (List.mem_cons_of_mem _ hy)) (fun y hy => by
      rw [List.getD_eq_getElem?_getD, List.getElem?_set]
      by_cases e : x.toNat = y
      · rw [if_pos e]; split <;> rfl
      · rw [if_neg e, ← List.getD_eq_getElem?_getD]
        refine h y (fun hm => ?_)
        rcases List.mem_cons.1 hm with h1 | h1
        · omega
        · exact hy h1)
    have hs := rmOf_set 0 D x.toNat (by omega)
    have e : (d.map (fun y => rm1 ((D.set x.toNat 0).getD y.toNat 0))) = d.map (fun y => rm1 (D.getD y.toNat 0)) := by
      refine List.map_congr_left (fun y hy => ?_)
      rw [List.getD_eq_getElem?_getD, List.getElem?_set, if_neg, ← List.getD_eq_getElem?_getD]
      intro e
      have hy2 := hg y (List.mem_cons_of_mem _ hy)
      have : x = y := by omega
      subst this
      exact hn2.1 hy
    rw [e] at ih
    rw [List.map_cons, List.sum_cons, ← ih]
    have : rm1 0 = 0 := rfl
    omega

/-- The room of depths. -/
theorem sum_kraft (cs : List Nat) (hm : cs.length ≤ 15) (d : List Int) (D : List Int) (hat : ∀ i x, d[i]? = some x → D.getD x.toNat 0 = (depth cs i : Nat)) (hpos : ∀ i, i < d.length → 1 ≤ depth cs i) :
    (d.map (fun x => rm1 (D.getD x.toNat 0))).sum = 2 ^ (15 - cs.length) * kraft cs d.length := by
  have key : ∀ n, n ≤ d.length → ((d.take n).map (fun x => rm1 (D.getD x.toNat 0))).sum = 2 ^ (15 - cs.length) * kraft cs n := by
    intro n
    induction n with
    | zero => intro _; simp [kraft]
    | succ n ih =>
      intro hn
      have hx : d[n]? = some d[n] := List.getElem?_eq_getElem (by omega)
      have h1 := hat n _ hx
      have h2 := hpos n (by omega)
      have h3 := depth_le cs n
      have e : rm1 (D.getD d[n].toNat 0) = 2 ^ (15 - cs.length) * 2 ^ (cs.length - depth cs n) := by
        rw [h1, rm1, if_neg (by omega), Int.toNat_natCast, ← Nat.pow_add]
        congr 1
        omega
      rw [take_more d n _ hx, List.map_append, List.sum_append, ih (by omega), kraft, Nat.mul_add]
      simp only [List.map_cons, List.map_nil, List.sum_cons, List.sum_nil, Nat.add_zero]
      rw [e]
  have h := key d.length (Nat.le_refl _)
  rwa [List.take_length] at h

/-- What share's lengths are. -/
structure LensOk (cs : List Int) (most : Nat) (d D : List Int) : Prop where
  len : D.length = cs.length
  no : ∀ y : Nat, (y : Int) ∉ d → D.getD y 0 = 0
  yes : ∀ x ∈ d, 1 ≤ D.getD x.toNat 0 ∧ D.getD x.toNat 0 ≤ most
  one : d.length = 1 → ∀ x ∈ d, D.getD x.toNat 0 = 1
  mono : ∀ x ∈ d, ∀ y ∈ d, keyOf cs y < keyOf cs x → D.getD x.toNat 0 ≤ D.getD y.toNat 0
  room : rmOf D ≤ 32768
  all : 2 ≤ d.length → rmOf D = 32768

theorem lens_ok {cs d D : List Int} {most : Nat} (hu : UsedIs cs d) (hN : 2 ≤ d.length) (hm1 : 1 ≤ most) (hm : most ≤ 15) (hle : d.length ≤ 2 ^ most) (hk : ∀ z ∈ cs, 0 ≤ z ∧ z ≤ 2147483647)
    (h : LenIs D cs.length d (depth (leavesOf (leaves cs d) (most - 1) (2 * d.length - 2)))) : LensOk cs most d D := by
  have hnd : d.Nodup := hu.perm.nodup_iff.2 (usedTo_nodup cs cs.length)
  have hg : Good cs.length d := fun x hx => by
    have h1 := (usedTo_mem cs cs.length x).1 (hu.perm.mem_iff.1 hx)
    exact ⟨h1.1, h1.2.1⟩
  have hf : ∀ x ∈ leaves cs d, x.2 = false := fun x hx => by
    obtain ⟨v, _, rfl⟩ := List.mem_map.1 hx
    rfl
  have hw : ∀ x ∈ leaves cs d, 0 ≤ x.1 := fun x hx => by
    obtain ⟨v, hv, rfl⟩ := List.mem_map.1 hx
    have h1 := (usedTo_mem cs cs.length v).1 (hu.perm.mem_iff.1 hv)
    exact Int.le_of_lt h1.2.2
  have hup : Up (leaves cs d) := by
    refine List.pairwise_iff_getElem.2 (fun i j hi hj hij => ?_)
    have h1 := hu.sorted i j (Nat.zero_le _) hij (by simpa [leaves] using hj)
    have hi2 : i < d.length := by simpa [leaves] using hi
    have hj2 : j < d.length := by simpa [leaves] using hj
    simp only [List.getD_eq_getElem?_getD, List.getElem?_eq_getElem hi2, List.getElem?_eq_getElem hj2, Option.getD_some] at h1
    simpa [leaves] using h1
  have hS : (leaves cs d).length = d.length := by simp [leaves]
  obtain ⟨M, rfl⟩ : ∃ M, most = M + 1 := ⟨most - 1, by omega⟩
  rw [Nat.add_sub_cancel] at h
  have hlong := level_long (leaves cs d) M 2 (by rw [hS]; rw [Nat.pow_succ] at hle; omega)
  rw [hS] at hlong
  have hT : 2 * d.length - 2 ≤ (levelOf (leaves cs d) M).length := by omega
  obtain ⟨ls, hls⟩ : ∃ ls, ls = leavesOf (leaves cs d) M (2 * d.length - 2) := ⟨_, rfl⟩
  have hll : ls.length = M + 1 := by rw [hls, leavesOf_len]
  have hle2 : ∀ c ∈ ls, c ≤ d.length := by rw [hls, ← hS]; rw [hS]; intro c hc; have := leaves_le hf hup M _ hT c hc; omega
  have hsort : ls.Pairwise (fun c e => e ≤ c) := by rw [hls]; exact leaves_sorted hf hup hw M _ hT
  have hws : wsum ls = (2 * d.length - 2) * 2 ^ M := by rw [hls]; exact wsum_leaves _ hf M _
  rw [← hls] at h
  have hka := kraft_all ls d.length hsort hle2
  have hkr : kraft ls d.length = 2 ^ (M + 1) := by
    rw [hws, hll, Nat.pow_succ] at hka
    rw [Nat.pow_succ]
    obtain ⟨e, he⟩ : ∃ e, d.length = e + 1 := ⟨d.length - 1, by omega⟩
    rw [he] at hka ⊢
    have e1 : 2 * (e + 1) - 2 = 2 * e := by omega
    have e2 : (e + 1) * (2 ^ M * 2) = 2 * e * 2 ^ M + 2 ^ M * 2 := by rw [Nat.add_mul, Nat.one_mul, ← Nat.mul_assoc, Nat.mul_comm (e * 2 ^ M) 2, ← Nat.mul_assoc]
    rw [e1, e2] at hka
    omega
  have hpos : ∀ i, i < d.length → 1 ≤ depth ls i := by
    intro i hi
    refine Nat.le_of_not_lt (fun h0 => ?_)
    have h1 := kraft_ge ls i d.length hi
    have h2 : depth ls i = 0 := by omega
    rw [h2, hll, hkr, Nat.sub_zero] at h1
    omega
  have hroom : rmOf D = 32768 := by
    rw [rmOf_sum d D hnd (by rw [h.len]; exact hg) h.no, sum_kraft ls (by omega) d D h.at_ hpos, hkr, hll, ← Nat.pow_add]
    have : 15 - (M + 1) + (M + 1) = 15 := by omega
    rw [this]
  refine ⟨h.len, h.no, fun x hx => ?_, fun e => by omega, fun x hx y hy hxy => ?_, by omega, fun _ => hroom⟩
  · obtain ⟨i, hi, rfl⟩ := List.getElem_of_mem hx
    have h1 := h.at_ i _ (List.getElem?_eq_getElem hi)
    have h2 := hpos i hi
    have h3 := depth_le ls i
    rw [h1]
    omega
  · obtain ⟨i, hi, rfl⟩ := List.getElem_of_mem hx
    obtain ⟨j, hj, rfl⟩ := List.getElem_of_mem hy
    rw [h.at_ i _ (List.getElem?_eq_getElem hi), h.at_ j _ (List.getElem?_eq_getElem hj)]
    have hji : j ≤ i := by
      refine Nat.le_of_not_lt (fun hlt => ?_)
      have h1 := hu.sorted i j (Nat.zero_le _) hlt hj
      simp only [List.getD_eq_getElem?_getD, List.getElem?_eq_getElem hi, List.getElem?_eq_getElem hj, Option.getD_some] at h1
      omega
    have := depth_mono ls j i hji
    omega
end Go.Proofs.Ytkhhiaggmncehaa
