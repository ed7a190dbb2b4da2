/- What SortStableFunc does to a row of integers. -/
import Derived.Test.YtkhhiaggmncehaaIns
import Derived.Test.YtkhhiaggmncehaaSym
namespace Go.Proofs.Ytkhhiaggmncehaa
open Go.RowKit
set_option linter.unusedVariables false
set_option linter.unusedSimpArgs false

/-- From lo to hi what stands in one piece of size z is in order. -/
def BlkS (key : Int → Int) (d : List Int) (z lo hi : Nat) : Prop := ∀ p q, lo ≤ p → p < q → q < hi → p / z = q / z → key (d.getD p 0) ≤ key (d.getD q 0)

theorem blk_of {z c p : Nat} (h1 : c * z ≤ p) (h2 : p < c * z + z) : p / z = c := Nat.div_eq_of_lt_le h1 (by rw [Nat.succ_mul]; exact h2)
theorem blk_lo {z p c : Nat} (h : p / z = c) : c * z ≤ p := by subst h; exact Nat.div_mul_le_self p z
theorem BlkS.sorted {key : Int → Int} {d : List Int} {z lo hi a b c : Nat} (h : BlkS key d z lo hi) (ha : a = c * z) (h1 : lo ≤ a) (h2 : b ≤ hi) (h3 : b ≤ a + z) : Sorted key d a b := by
  intro p q hp hpq hq
  subst ha
  exact h p q (by omega) hpq (by omega) ((blk_of hp (by omega)).trans (blk_of (by omega) (by omega)).symm)
theorem BlkS.step {key : Int → Int} {d d3 : List Int} {zz a b c : Nat} (h : BlkS key d zz 0 a) (ha : a = c * zz) (hb : b ≤ a + zz) (hs : Same d d3 a b) (hq : Sorted key d3 a b) : BlkS key d3 zz 0 b := by
  intro p q _ hpq hqb he
  by_cases h1 : q < a
  · rw [hs.out p (by omega), hs.out q (by omega)]; exact h p q (Nat.zero_le _) hpq h1 he
  · have h2 : q / zz = c := blk_of (by omega) (by omega)
    have h3 := blk_lo (he.trans h2)
    exact hq p q (by omega) hpq hqb
theorem BlkS.rest {key : Int → Int} {d d3 : List Int} {z a b N : Nat} (h : BlkS key d z a N) (hab : a ≤ b) (hs : Same d d3 a b) : BlkS key d3 z b N := by
  intro p q hp hpq hqN he
  rw [hs.out p (by omega), hs.out q (by omega)]
  exact h p q (by omega) hpq hqN he
theorem BlkS.whole {key : Int → Int} {d : List Int} {z N : Nat} (h : BlkS key d z 0 N) (hz : N ≤ z) : Sorted key d 0 N := by
  intro p q _ hpq hq
  exact h p q (Nat.zero_le _) hpq hq (by rw [Nat.div_eq_of_lt (by omega), Nat.div_eq_of_lt (by omega)])

set_option maxHeartbeats 4000000 in
set_option maxRecDepth 100000 in
theorem stable_any (g : Nat) (lb : Array Value) (eg : ∀ args w, (callFunc g args).run Try.prog w = .ok (.enter g args) w) (key : Int → Int) (NN : Int) (gs cap : Nat) (w0 : World) (hcmp : CmpOf g lb key NN gs w0)
    (d : List Int) (w : World) (hL : d.length ≤ 100000) (hR : Row w gs cap d) (hG : Good NN d) (hch : Chg (fun i => i = gs) w0 w) :
    Calls Try.prog 53 #[.slice (some ⟨gs, 0, none⟩) d.length cap, .int .i64 d.length, .func (.func g) #[] lb] w (SortTo w gs cap d 0 d.length (fun d' => Sorted key d' 0 d.length)) := by
  have HR := keepf hR
  have HG := keepf hG
  have HCH := keepf hch
  clear hR hG hch
  obtain ⟨N, hN⟩ : ∃ N, N = d.length := ⟨_, rfl⟩
  have HN := keepf hN
  rw [← hN] at hL ⊢
  have HINS : Hid (∀ (a b : Nat) (d1 : List Int) (W : World), a ≤ b → b ≤ N → d1.length = N → Row W gs cap d1 → Good NN d1 → Chg (fun i => i = gs) w0 W →
      Calls Try.prog 57 #[.slice (some ⟨gs, 0, none⟩) N cap, .int .i64 a, .int .i64 b, .func (.func g) #[] lb] W (SortTo W gs cap d1 a b (fun d' => Sorted key d' a b))) := by
    intro a b d1 W h1 h2 h3 h4 h5 h6
    subst h3
    exact ins_any g lb eg key NN gs cap w0 hcmp a b d1 W h1 h2 (by omega) h4 h5 h6
  have HSYM : Hid (∀ (a m b : Nat) (d1 : List Int) (W : World), a < m → m < b → b ≤ N → d1.length = N → Row W gs cap d1 → Good NN d1 → Sorted key d1 a m → Sorted key d1 m b → Chg (fun i => i = gs) w0 W →
      Calls Try.prog 58 #[.slice (some ⟨gs, 0, none⟩) N cap, .int .i64 a, .int .i64 m, .int .i64 b, .func (.func g) #[] lb] W (SortTo W gs cap d1 a b (fun d' => Sorted key d' a b))) := by
    intro a m b d1 W h1 h2 h3 h4 h5 h6 h7 h8 h9
    subst h4
    exact symMerge_any g lb eg key NN gs cap w0 hcmp (b - a) a m b d1 W (Nat.le_refl _) h1 h2 h3 (by omega) h5 h6 h7 h8 h9
  clear hN
  go_enter Try.func53, Try.ntmps53
  go_wp2_with fail
  go_loopw [7, 8] (fun va vb wr => ∃ A : Nat, ∃ d1 : List Int, A ≤ N ∧ va = .int .i64 A ∧ vb = .int .i64 (A + 20 : Nat) ∧ d1.length = N ∧ Row wr gs cap d1 ∧ Hid (Same d d1 0 N) ∧ Hid (∃ c, A = c * 20) ∧ Hid (BlkS key d1 20 0 A) ∧ Chg (fun i => i = gs) w wr) (fun va _ _ => N + 1 - (intOf va).toNat)
  case atStart => exact ⟨0, d, by omega, by go_num, by go_num, HN.out.symm, HR.out, Same.refl _ _ _, ⟨0, rfl⟩, fun p q _ _ h => absurd h (by omega), Chg.refl _ _⟩
  case round =>
    obtain ⟨A, d1, hA, rfl, rfl, hl1, hRw, hSm, hAc, hSo, hcg⟩ := hrel
    have HRw := keepf hRw
    have HCw := keepf hcg
    clear hRw hcg
    obtain ⟨B, hB⟩ : ∃ B, B = A + 20 := ⟨_, rfl⟩
    have HB := keepf hB
    rw [← hB]
    by_cases hlt : B ≤ N
    · have HI := keepf (HINS.out A B d1 wr (by omega) hlt hl1 HRw.out (HG.out.same hSm.out) (HCH.out.trans HCw.out (fun _ _ h => h)))
      have hlt' : (B : Int) ≤ N := by omega
      clear hB
      go_wp2_with (go_at_call 57; refine HI.out.mono ?_; rintro e w3 ⟨rfl, d3, hr3, hs3, hq3, hc3⟩; have HR3 := keepf hr3; have HS3 := keepf hs3; have HQ3 := keepf hq3; have HC3 := keepf hc3; clear hr3 hs3 hq3 hc3)
      go_roundw
      case rel =>
        refine ⟨B, d3, hlt, rfl, by go_num, by rw [HS3.out.len]; exact hl1, HR3.out, hSm.out.trans (HS3.out.wide (Nat.zero_le _) hlt), ?_, ?_, HCw.out.trans HC3.out (fun _ _ h => h)⟩
        · obtain ⟨c, hc⟩ := hAc.out
          have := HB.out
          exact ⟨c + 1, by omega⟩
        · obtain ⟨c, hc⟩ := hAc.out
          exact hSo.out.step hc (by have := HB.out; omega) HS3.out HQ3.out
      case measure => simp [intOf]; have := HB.out; omega
    · have HI := keepf (HINS.out A N d1 wr hA (Nat.le_refl _) hl1 HRw.out (HG.out.same hSm.out) (HCH.out.trans HCw.out (fun _ _ h => h)))
      have hlt' : decide ((B : Int) ≤ N) = false := by simp; omega
      have HLT := keepf hlt
      clear hB hlt
      go_wp2_with (go_at_call 57; refine HI.out.mono ?_; rintro e w3 ⟨rfl, d3, hr3, hs3, hq3, hc3⟩; have HR3 := keepf hr3; have HS3 := keepf (hSm.out.trans (hs3.wide (Nat.zero_le _) (Nat.le_refl _))); have HQ3 := keepf (show BlkS key d3 20 0 N by (obtain ⟨c, hcc⟩ := hAc.out; exact hSo.out.step hcc (by have := HB.out; have := HLT.out; omega) hs3 hq3)); have HC3 := keepf (HCw.out.trans hc3 (fun _ _ h => h)); have hl3 : d3.length = N := (by rw [hs3.len]; exact hl1); clear hr3 hs3 hq3 hc3)
      go_loopw [6] (fun vz wr2 => ∃ z : Nat, ∃ d4 : List Int, 0 < z ∧ z ≤ 200000 ∧ vz = .int .i64 z ∧ d4.length = N ∧ Row wr2 gs cap d4 ∧ Hid (Same d d4 0 N) ∧ Hid (BlkS key d4 z 0 N) ∧ Chg (fun i => i = gs) w wr2) (fun vz _ => N - (intOf vz).toNat)
      case atStart => exact ⟨20, d3, by omega, by omega, by go_num, hl3, HR3.out, HS3.out, HQ3.out, HC3.out⟩
      case round =>
        obtain ⟨z, d4, hz0, hz2, rfl, hl4, hR4, hS4, hQ4, hc4⟩ := hrel
        have HR4 := keepf hR4
        have HC4 := keepf hc4
        clear hR4 hc4
        by_cases hzN : z < N
        · have hzN' : (z : Int) < N := by omega
          obtain ⟨zz, hzz⟩ : ∃ zz, zz = 2 * z := ⟨_, rfl⟩
          have ezz : ((2 : Int) * z) = (zz : Int) := by omega
          have HZZ := keepf hzz
          clear hzz
          go_wp2_with fail
          go_loopw [7, 8] (fun va vb wr3 => ∃ A B : Nat, ∃ d5 : List Int, A ≤ N ∧ B ≤ 400000 ∧ va = .int .i64 A ∧ vb = .int .i64 B ∧ d5.length = N ∧ Row wr3 gs cap d5 ∧ Hid (B = A + zz) ∧ Hid (Same d d5 0 N) ∧ Hid (∃ c, A = c * zz) ∧ Hid (BlkS key d5 zz 0 A) ∧ Hid (BlkS key d5 z A N) ∧ Chg (fun i => i = gs) w wr3) (fun va _ _ => N + 1 - (intOf va).toNat)
          case atStart => exact ⟨0, zz, d4, by omega, by have := HZZ.out; omega, by go_num, by go_num, hl4, HR4.out, (by show zz = _; omega), hS4.out, ⟨0, by omega⟩, fun p q _ _ h => absurd h (by omega), hQ4.out, HC4.out⟩
          case round =>
            obtain ⟨A2, B2, d5, hA2, hB2, rfl, rfl, hl5, hR5, hBB, hS5, hAc2, hP5, hQ5, hc5⟩ := hrel
            have HR5 := keepf hR5
            have HC5 := keepf hc5
            clear hR5 hc5
            obtain ⟨M2, hM2⟩ : ∃ M2, M2 = A2 + z := ⟨_, rfl⟩
            have eM2 : ((A2 : Int) + z) = (M2 : Int) := by omega
            have hs1 : Sorted key d5 A2 (min M2 N) := by
              obtain ⟨c, hc⟩ := hAc2.out
              have hz := HZZ.out
              exact hQ5.out.sorted (c := c * 2) (by rw [hc, hz, Nat.mul_assoc]) (Nat.le_refl _) (by omega) (by omega)
            have hs2 : ∀ b, b ≤ N → b ≤ M2 + z → Sorted key d5 M2 b := by
              intro b h1 h2
              obtain ⟨c, hc⟩ := hAc2.out
              have hz := HZZ.out
              exact hQ5.out.sorted (c := c * 2 + 1) (by rw [hM2, hc, hz, Nat.add_mul, Nat.mul_assoc, Nat.one_mul]) (by omega) h1 h2
            have HS1 := keepf hs1
            have HS2 := keepf hs2
            have HM2 := keepf hM2
            clear hs1 hs2 hM2
            by_cases hlt2 : B2 ≤ N
            · have HI2 := keepf (HSYM.out A2 M2 B2 d5 wr (by have := HM2.out; omega) (by have := HM2.out; have := hBB.out; have := HZZ.out; omega) hlt2 hl5 HR5.out (HG.out.same hS5.out) (by have h1 := HS1.out; rw [Nat.min_eq_left (by have := HM2.out; have := hBB.out; have := HZZ.out; omega)] at h1; exact h1) (HS2.out B2 hlt2 (by have := HM2.out; have := hBB.out; have := HZZ.out; omega)) (HCH.out.trans HC5.out (fun _ _ h => h)))
              have hlt2' : (B2 : Int) ≤ N := by omega
              go_wp2_with (go_at_call 58; refine HI2.out.mono ?_; rintro e w6 ⟨rfl, d6, hr6, hs6, hq6, hc6⟩; have HR6 := keepf hr6; have HS6 := keepf hs6; have HQ6 := keepf hq6; have HC6 := keepf hc6; clear hr6 hs6 hq6 hc6)
              go_roundw
              case rel =>
                have hz := HZZ.out
                have hbb := hBB.out
                refine ⟨B2, B2 + zz, d6, hlt2, by omega, rfl, by go_num, by rw [HS6.out.len]; exact hl5, HR6.out, rfl, hS5.out.trans (HS6.out.wide (Nat.zero_le _) hlt2), ?_, ?_, hQ5.out.rest (by omega) HS6.out, HC5.out.trans HC6.out (fun _ _ h => h)⟩
                · obtain ⟨c, hc⟩ := hAc2.out
                  exact ⟨c + 1, by rw [Nat.succ_mul, ← hc]; exact hbb⟩
                · obtain ⟨c, hc⟩ := hAc2.out
                  exact hP5.out.step hc (by omega) HS6.out HQ6.out
              case measure => simp [intOf]; have := hBB.out; have := HZZ.out; omega
            · have hlt2' : decide ((B2 : Int) ≤ N) = false := by simp; omega
              by_cases hm : M2 < N
              · have hm' : (M2 : Int) < N := by omega
                have HI2 := keepf (HSYM.out A2 M2 N d5 wr (by have := HM2.out; omega) hm (Nat.le_refl _) hl5 HR5.out (HG.out.same hS5.out) (by have h1 := HS1.out; rw [Nat.min_eq_left (by omega)] at h1; exact h1) (HS2.out N (Nat.le_refl _) (by have := HM2.out; have := hBB.out; have := HZZ.out; omega)) (HCH.out.trans HC5.out (fun _ _ h => h)))
                go_wp2_with (go_at_call 58; refine HI2.out.mono ?_; rintro e w6 ⟨rfl, d6, hr6, hs6, hq6, hc6⟩; have HR6 := keepf hr6; have HS6 := keepf hs6; have HQ6 := keepf hq6; have HC6 := keepf hc6; clear hr6 hs6 hq6 hc6)
                go_roundw
                case rel =>
                  have hz := HZZ.out
                  have hbb := hBB.out
                  refine ⟨zz, d6, by omega, by omega, by go_num, by rw [HS6.out.len]; exact hl5, HR6.out, hS5.out.trans (HS6.out.wide (Nat.zero_le _) (Nat.le_refl _)), ?_, HC5.out.trans HC6.out (fun _ _ h => h)⟩
                  obtain ⟨c, hc⟩ := hAc2.out
                  exact hP5.out.step hc (by omega) HS6.out HQ6.out
                case measure => simp [intOf]; have := HZZ.out; omega
              · have hm' : decide ((M2 : Int) < N) = false := by simp; omega
                go_wp2_with fail
                go_roundw
                case rel =>
                  have hz := HZZ.out
                  have hbb := hBB.out
                  refine ⟨zz, d5, by omega, by omega, by go_num, hl5, HR5.out, hS5.out, ?_, HC5.out⟩
                  obtain ⟨c, hc⟩ := hAc2.out
                  have h1 := HS1.out
                  rw [Nat.min_eq_right (by omega)] at h1
                  exact hP5.out.step hc (by omega) (Same.refl d5 A2 N) h1
                case measure => simp [intOf]; have := HZZ.out; omega
        · go_wp2_with fail
          go_end0
          exact ⟨rfl, d4, HR4.out, hS4.out, hQ4.out.whole (by omega), HC4.out⟩

theorem sortStable_any (g : Nat) (lb : Array Value) (eg : ∀ args w, (callFunc g args).run Try.prog w = .ok (.enter g args) w) (key : Int → Int) (NN : Int) (gs cap : Nat) (w0 : World) (hcmp : CmpOf g lb key NN gs w0)
    (d : List Int) (w : World) (hL : d.length ≤ 100000) (hR : Row w gs cap d) (hG : Good NN d) (hch : Chg (fun i => i = gs) w0 w) :
    Calls Try.prog 46 #[.slice (some ⟨gs, 0, none⟩) d.length cap, .func (.func g) #[] lb] w (SortTo w gs cap d 0 d.length (fun d' => Sorted key d' 0 d.length)) := by
  have HP := keepf (stable_any g lb eg key NN gs cap w0 hcmp d w hL hR hG hch)
  clear hR hG hch
  go_enter Try.func46, Try.ntmps46
  go_wp2_with (go_at_call 53; refine HP.out.mono ?_; rintro e w3 ⟨rfl, d3, hr3, hs3, hq3, hc3⟩; have HR3 := keepf hr3; have HS3 := keepf hs3; have HQ3 := keepf hq3; have HC3 := keepf hc3; clear hr3 hs3 hq3 hc3)
  go_end0
  exact ⟨rfl, d3, HR3.out, HS3.out, HQ3.out, HC3.out⟩
end Go.Proofs.Ytkhhiaggmncehaa
