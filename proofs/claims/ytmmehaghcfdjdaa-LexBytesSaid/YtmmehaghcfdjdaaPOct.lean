/- The number to the base 8 of the reader. -/
import Derived.Test.YtmmehaghcfdjdaaPLx2
namespace Go.Proofs.Ytmmehaghcfdjdaa
open Go.RowKit
set_option linter.unusedVariables false
set_option linter.unusedSimpArgs false

theorem octs_none {k m : Nat} {l : List Nat} (h : l = [] ∨ ∃ x r, l = x :: r ∧ ¬ (48 ≤ x ∧ x ≤ 55)) : octs (k + 1) m l = (m, 0) := by
  rcases h with rfl | ⟨x, r, rfl, h⟩
  · rfl
  · rw [octs, if_neg h]
theorem octs_some {k m x : Nat} {r : List Nat} (h : 48 ≤ x ∧ x ≤ 55) : octs (k + 1) m (x :: r) = ((octs k (8 * m + (x - 48)) r).1, (octs k (8 * m + (x - 48)) r).2 + 1) := by rw [octs, if_pos h]
/-- What a digit to the base 8 does to the number's lowest eight bits. -/
theorem octs_mod : ∀ (k : Nat) (l : List Nat) (m m' : Nat), m % 256 = m' % 256 → (octs k m l).1 % 256 = (octs k m' l).1 % 256 ∧ (octs k m l).2 = (octs k m' l).2 := by
  intro k
  induction k with
  | zero => intro l m m' h; exact ⟨h, rfl⟩
  | succ k ih =>
    intro l m m' h
    cases l with
    | nil => exact ⟨h, rfl⟩
    | cons x r =>
      by_cases hx : 48 ≤ x ∧ x ≤ 55
      · rw [octs_some hx, octs_some hx]
        have := ih r (8 * m + (x - 48)) (8 * m' + (x - 48)) (by omega)
        exact ⟨this.1, by simp only []; rw [this.2]⟩
      · rw [octs_none (.inr ⟨x, r, rfl, hx⟩), octs_none (.inr ⟨x, r, rfl, hx⟩)]
        exact ⟨h, rfl⟩
/-- In the loop: so many digits were taken. -/
def OcIn (V w wr : World) (A : Option Addr) (bs : List Nat) (c : Nat) (last : Bool) (R p x : Nat) (out : List Nat) (j k z : Nat) : Prop :=
  RD V w wr A bs.length c last R k out ∧ (octs 2 x (bs.drop p)).1 % 256 = (octs (2 - j) z (bs.drop k)).1 % 256 ∧ p + (octs 2 x (bs.drop p)).2 = k + (octs (2 - j) z (bs.drop k)).2
set_option maxHeartbeats 2000000 in
set_option maxRecDepth 100000 in
theorem poctal_any {V w W : World} {A : Option Addr} {bs : List Nat} {c R p : Nat} {last : Bool} {out : List Nat} (h : RD V w W A bs.length c last R p out) (hS : Src w 1 A bs.length c (lcells bs)) (hl : bs.length ≤ 1000000) (hc : bs.length ≤ c) (hp : p ≤ bs.length) (hb : ∀ d ∈ bs, d < 256) (x : Nat) (hx : x < 8) :
    Calls Try.prog 40 #[.pointer (some ⟨R, 0, none⟩), .int .u8 (x : Nat)] W fun e W' => e = .returned (.int .u8 ((octs 2 x (bs.drop p)).1 % 256 : Nat)) ∧ RD V w W' A bs.length c last R (p + (octs 2 x (bs.drop p)).2) out := by
  have HR := h.new
  have HO := keepf (show OcIn V w W A bs c last R p x out 0 p x from ⟨h, rfl, rfl⟩)
  have HCELL := keepf (fun (X : World) (hX : Chg NoS w X) (hn : 0 < bs.length) => lcell hS hX hn)
  have HCELL0 := keepf (fun (hn : 0 < bs.length) => lcell hS (Chg.refl NoS w) hn)
  have HB := keepf hb
  obtain ⟨n, hn⟩ : ∃ n, bs.length = n := ⟨_, rfl⟩
  have HN := keepf hn
  rw [hn] at hl hc hp
  clear h hS hn hb
  go_enter Try.func40, Try.ntmps40
  go_upto_region 2 with fail
  go_loopw [1, 5] (fun vz vj wr => ∃ j k z : Nat, j ≤ 2 ∧ k ≤ n ∧ z < 256 ∧ vz = .int .u8 (z : Nat) ∧ vj = .int .i64 (j : Nat) ∧ Hid (OcIn V w wr A bs c last R p x out j k z)) (fun _ vj _ => 2 - (intOf vj).toNat)
  case atStart => exact ⟨0, p, x, by omega, hp, by omega, rfl, rfl, HO⟩
  case round =>
    obtain ⟨j, k, z, hj, hk, hz, rfl, rfl, HI⟩ := hrel
    obtain ⟨c2, c3, c4, f3⟩ := HI.out.1.cells
    rw [HN.out] at c2
    by_cases hj2 : j = 2
    · subst hj2
      have HE := keepf HI.out.2
      go_wp2_with fail
      go_ret
      refine ⟨?_, ?_⟩
      · rw [HE.out.1, show octs (2 - 2) z (bs.drop k) = (z, 0) from rfl]; simp only []; rw [Nat.mod_eq_of_lt hz]; rfl
      · rw [HE.out.2]; exact HI.out.1
    obtain ⟨i, hi⟩ : ∃ i, 2 - j = i + 1 := ⟨1 - j, by omega⟩
    have j1 : (j : Int) < 2 := by omega
    by_cases hkn : k = n
    · have HE := keepf (show octs (2 - j) z (bs.drop k) = (z, 0) from by rw [hi, octs_none (.inl (List.drop_of_length_le (by rw [HN.out]; omega)))])
      have HE2 := keepf HI.out.2
      subst hkn
      clear hi hj2
      go_upto_region 3 with fail
      go_quiet (fail)
      go_wp2_with fail
      go_ret
      refine ⟨?_, ?_⟩
      · rw [HE2.out.1, HE.out]; simp only []; rw [Nat.mod_eq_of_lt hz]; rfl
      · rw [HE2.out.2, HE.out]; exact HI.out.1.drewN _
    obtain ⟨y, hy, hd⟩ := drop_at (bs := bs) (k := k) (by rw [HN.out]; omega)
    obtain ⟨b, off, rfl, hcell⟩ := HCELL.out wr HI.out.1.chg (by rw [HN.out]; omega)
    have c0 := hcell k y hy
    have hbR : b ≠ R := by
      obtain ⟨b', off', e, hc'⟩ := HCELL0.out (by rw [HN.out]; omega)
      cases e
      have := cell_lt (hc' k y hy)
      simp only at this
      omega
    have hy256 := HB.out y (List.mem_of_getElem? hy)
    have k1 : (k : Int) < n := by omega
    have k2 : ((k : Int) == n) = false := by simp; omega
    have k3 : (k == n) = false := by simp; omega
    have HE2 := keepf HI.out.2
    by_cases hoct : 48 ≤ y ∧ y ≤ 55
    · have HD := keepf (show octs (2 - j) z (bs.drop k) = ((octs i (8 * z + (y - 48)) (bs.drop (k + 1))).1, (octs i (8 * z + (y - 48)) (bs.drop (k + 1))).2 + 1) from by rw [hi, hd, octs_some hoct])
      have HI1 := keepf (show 2 - (j + 1) = i from by omega)
      obtain ⟨o1, o2⟩ := hoct
      obtain ⟨t, ht⟩ : ∃ t, t = 8 * z % 256 := ⟨_, rfl⟩
      obtain ⟨u, hu⟩ : ∃ u, u = y - 48 := ⟨_, rfl⟩
      obtain ⟨v, hv⟩ : ∃ v, v = (t + u) % 256 := ⟨_, rfl⟩
      have w1 : IntKind.u8.wrap (8 * (z : Int)) = (t : Int) := by rw [IntKind.wrap_u8]; omega
      have w2 : IntKind.u8.wrap ((y : Int) - 48) = (u : Int) := by rw [IntKind.wrap_u8]; omega
      have w3 : IntKind.u8.wrap ((t : Int) + (u : Int)) = (v : Int) := by rw [IntKind.wrap_u8]; omega
      have HV := keepf (show (8 * z + (y - 48)) % 256 = v % 256 from by omega)
      have hv2 : v < 256 := by omega
      have m1 : decide ((y : Int) < 48) = false := by simp; omega
      have m2 : decide ((55 : Int) < y) = false := by simp; omega
      have m3 : decide (y < 48) = false := by simp; omega
      have m4 : decide (55 < y) = false := by simp; omega
      clear ht hu hv hi hj2 hkn hy hd hcell hy256 o1 o2
      go_upto_region 3 with fail
      go_quiet (fail)
      go_upto_region 4 with fail
      go_quiet (fail)
      go_wp2_with fail
      go_roundw
      case rel =>
        refine ⟨j + 1, k + 1, v, by omega, by omega, hv2, rfl, by go_num, keepf ⟨(HI.out.1.drewN _).at_ _, ?_, ?_⟩⟩
        · rw [HE2.out.1, HD.out, HI1.out]; exact (octs_mod i _ _ _ HV.out).1
        · rw [HE2.out.2, HD.out, HI1.out, ← (octs_mod i (bs.drop (k + 1)) _ _ HV.out).2]; simp only []; omega
      case measure => simp [intOf]; omega
    · have HE := keepf (show octs (2 - j) z (bs.drop k) = (z, 0) from by rw [hi, octs_none (.inr ⟨y, _, hd, hoct⟩)])
      clear hi hd hj2 hkn hcell hy
      by_cases hlo : y < 48
      · clear hoct
        have m1 : decide ((y : Int) < 48) = true := by simp; omega
        have m3 : decide (y < 48) = true := by simp; omega
        go_upto_region 3 with fail
        go_quiet (fail)
        go_wp2_with fail
        go_ret
        refine ⟨?_, ?_⟩
        · rw [HE2.out.1, HE.out]; simp only []; rw [Nat.mod_eq_of_lt hz]; rfl
        · rw [HE2.out.2, HE.out]; exact HI.out.1.drewN _
      · have hhi : 55 < y := by omega
        clear hoct
        have m1 : decide ((y : Int) < 48) = false := by simp; omega
        have m3 : decide (y < 48) = false := by simp; omega
        have m2 : decide ((55 : Int) < y) = true := by simp; omega
        have m4 : decide (55 < y) = true := by simp; omega
        go_upto_region 3 with fail
        go_quiet (fail)
        go_wp2_with fail
        go_ret
        refine ⟨?_, ?_⟩
        · rw [HE2.out.1, HE.out]; simp only []; rw [Nat.mod_eq_of_lt hz]; rfl
        · rw [HE2.out.2, HE.out]; exact HI.out.1.drewN _
end Go.Proofs.Ytmmehaghcfdjdaa
