/- Merged by program: VSta VSr2. -/
import Derived.Test.YtaababegolfjeaaG06
import Derived.Test.YtaababegolfjeaaG15
import Derived.Test.YtaababegolfjeaaG16
/- What SortStableFunc does to a row of integers. -/
namespace Go.Proofs.Ytaababegolfjeaa.PS
open Go.RowKit
set_option linter.unusedVariables false
set_option linter.unusedSimpArgs false

/-- From lo to hi what stands in one piece of size z is in order. -/
def BlkS (key : Int → Int) (d : List Int) (z lo hi : Nat) : Prop := ∀ p q, lo ≤ p → p < q → q < hi → p / z = q / z → key (d.getD p 0) ≤ key (d.getD q 0)

theorem blk_of {z c p : Nat} (h1 : c * z ≤ p) (h2 : p < c * z + z) : p / z = c := Nat.div_eq_of_lt_le h1 (by rw [Nat.succ_mul]; exact h2)

theorem blk_lo {z p c : Nat} (h : p / z = c) : c * z ≤ p := by subst h; exact Nat.div_mul_le_self p z

theorem BlkS.sorted {key : Int → Int} {d : List Int} {z lo hi a b c : Nat} (h : BlkS key d z lo hi) (ha : a = c * z) (h1 : lo ≤ a) (h2 : b ≤ hi) (h3 : b ≤ a + z) : Sorted key d a b := by
  intro p q hp hpq hq
  subst ha
  exact h p q (by omega) hpq (by omega) ((blk_of hp (by omega)).trans (blk_of (by omega) (by omega)).symm)

theorem BlkS.step {key : Int → Int} {d d3 : List Int} {zz a b c : Nat} (h : BlkS key d zz 0 a) (ha : a = c * zz) (hb : b ≤ a + zz) (hs : Same d d3 a b) (hq : Sorted key d3 a b) : BlkS key d3 zz 0 b := by
  intro p q _ hpq hqb he
  by_cases h1 : q < a
  · rw [hs.out p (by omega), hs.out q (by omega)]; exact h p q (Nat.zero_le _) hpq h1 he
  · have h2 : q / zz = c := blk_of (by omega) (by omega)
    have h3 := blk_lo (he.trans h2)
    exact hq p q (by omega) hpq hqb

theorem BlkS.rest {key : Int → Int} {d d3 : List Int} {z a b N : Nat} (h : BlkS key d z a N) (hab : a ≤ b) (hs : Same d d3 a b) : BlkS key d3 z b N := by
  intro p q hp hpq hqN he
  rw [hs.out p (by omega), hs.out q (by omega)]
  exact h p q (by omega) hpq hqN he

theorem BlkS.whole {key : Int → Int} {d : List Int} {z N : Nat} (h : BlkS key d z 0 N) (hz : N ≤ z) : Sorted key d 0 N := by
  intro p q _ hpq hq
  exact h p q (Nat.zero_le _) hpq hq (by rw [Nat.div_eq_of_lt (by omega), Nat.div_eq_of_lt (by omega)])

set_option maxHeartbeats 4000000 in
set_option maxRecDepth 100000 in
theorem stable_any [PAd] (g : Nat) (lb : Array Value) (eg : ∀ args w, (callFunc g args).run Try.prog w = .ok (.enter g args) w) (key0 key : Int → Int) (NN : Int) (hkk : key = kk key0 NN) (gs cap : Nat) (w0 : World) (hcmp : CmpOf g lb key0 NN gs w0)
    (d : List Int) (w : World) (hL : d.length ≤ 100000) (hR : Row w gs cap d) (hG : Good NN d) (hst : InTurn key0 d) (hch : Chg (fun i => i = gs) w0 w) :
    Calls Try.prog 60 #[.slice (some ⟨gs, 0, none⟩) d.length cap, .int .i64 d.length, .func (.func g) #[] lb] w (SortTo w gs cap d 0 d.length (fun d' => Sorted key d' 0 d.length)) := by
  have HR := keepf hR
  have HG := keepf hG
  have HCH := keepf hch
  have HST := keepf hst
  clear hR hG hch hst
  obtain ⟨N, hN⟩ : ∃ N, N = d.length := ⟨_, rfl⟩
  have HN := keepf hN
  rw [← hN] at hL ⊢
  have HINS : Hid (∀ (a b : Nat) (d1 : List Int) (W : World), a ≤ b → b ≤ N → d1.length = N → Row W gs cap d1 → Good NN d1 → InTurn key0 d1 → Chg (fun i => i = gs) w0 W →
      Calls Try.prog 72 #[.slice (some ⟨gs, 0, none⟩) N cap, .int .i64 a, .int .i64 b, .func (.func g) #[] lb] W (SortTo W gs cap d1 a b (fun d' => Sorted key d' a b ∧ InTurn key0 d'))) := by
    intro a b d1 W h1 h2 h3 h4 h5 h5s h6
    subst h3
    refine (ins_any g lb eg key0 key NN hkk gs cap w0 hcmp a b d1 W h1 h2 (by omega) h4 h5 h5s h6).mono ?_
    rintro e w3 ⟨rfl, d3, hr3, hs3, hq3, hc3⟩
    exact ⟨rfl, d3, hr3, hs3, ⟨hq3, h5s.same hkk hs3 h2 (h5.same hs3).get hq3⟩, hc3⟩
  have HSYM : Hid (∀ (a m b : Nat) (d1 : List Int) (W : World), a < m → m < b → b ≤ N → d1.length = N → Row W gs cap d1 → Good NN d1 → Sorted key d1 a m → Sorted key d1 m b → InTurn key0 d1 → Chg (fun i => i = gs) w0 W →
      Calls Try.prog 73 #[.slice (some ⟨gs, 0, none⟩) N cap, .int .i64 a, .int .i64 m, .int .i64 b, .func (.func g) #[] lb] W (SortTo W gs cap d1 a b (fun d' => Sorted key d' a b ∧ InTurn key0 d'))) := by
    intro a m b d1 W h1 h2 h3 h4 h5 h6 h7 h8 h8s h9
    subst h4
    refine (symMerge_any g lb eg key0 key NN hkk gs cap w0 hcmp (b - a) a m b d1 W (Nat.le_refl _) h1 h2 h3 (by omega) h5 h6 h7 h8 h8s h9).mono ?_
    rintro e w3 ⟨rfl, d3, hr3, hs3, hq3, hc3⟩
    exact ⟨rfl, d3, hr3, hs3, ⟨hq3, h8s.same hkk hs3 h3 (h6.same hs3).get hq3⟩, hc3⟩
  clear hN
  go_enter Try.func60, Try.ntmps60
  go_wp2_with fail
  go_loopw [7, 8] (fun va vb wr => ∃ A : Nat, ∃ d1 : List Int, A ≤ N ∧ va = .int .i64 A ∧ vb = .int .i64 (A + 20 : Nat) ∧ d1.length = N ∧ Row wr gs cap d1 ∧ Hid (Same d d1 0 N) ∧ Hid (∃ c, A = c * 20) ∧ Hid (BlkS key d1 20 0 A ∧ InTurn key0 d1) ∧ Chg (fun i => i = gs) w wr) (fun va _ _ => N + 1 - (intOf va).toNat)
  case atStart => exact ⟨0, d, by omega, by go_num, by go_num, HN.out.symm, HR.out, Same.refl _ _ _, ⟨0, rfl⟩, ⟨fun p q _ _ h => absurd h (by omega), HST.out⟩, Chg.refl _ _⟩
  case round =>
    obtain ⟨A, d1, hA, rfl, rfl, hl1, hRw, hSm, hAc, hSo, hcg⟩ := hrel
    have HRw := keepf hRw
    have HCw := keepf hcg
    clear hRw hcg
    obtain ⟨B, hB⟩ : ∃ B, B = A + 20 := ⟨_, rfl⟩
    have HB := keepf hB
    rw [← hB]
    by_cases hlt : B ≤ N
    · have HI := keepf (HINS.out A B d1 wr (by omega) hlt hl1 HRw.out (HG.out.same hSm.out) hSo.out.2 (HCH.out.trans HCw.out (fun _ _ h => h)))
      have hlt' : (B : Int) ≤ N := by omega
      clear hB
      go_wp2_with (go_at_call 72; refine HI.out.mono ?_; rintro e w3 ⟨rfl, d3, hr3, hs3, hq3, hc3⟩; have HR3 := keepf hr3; have HS3 := keepf hs3; have HQ3 := keepf hq3; have HC3 := keepf hc3; clear hr3 hs3 hq3 hc3)
      go_roundw
      case rel =>
        refine ⟨B, d3, hlt, rfl, by go_num, by rw [HS3.out.len]; exact hl1, HR3.out, hSm.out.trans (HS3.out.wide (Nat.zero_le _) hlt), ?_, ?_, HCw.out.trans HC3.out (fun _ _ h => h)⟩
        · obtain ⟨c, hc⟩ := hAc.out
          have := HB.out
          exact ⟨c + 1, by omega⟩
        · obtain ⟨c, hc⟩ := hAc.out
          exact ⟨hSo.out.1.step hc (by have := HB.out; omega) HS3.out HQ3.out.1, HQ3.out.2⟩
      case measure => simp [intOf]; have := HB.out; omega
    · have HI := keepf (HINS.out A N d1 wr hA (Nat.le_refl _) hl1 HRw.out (HG.out.same hSm.out) hSo.out.2 (HCH.out.trans HCw.out (fun _ _ h => h)))
      have hlt' : decide ((B : Int) ≤ N) = false := by simp; omega
      have HLT := keepf hlt
      clear hB hlt
      go_wp2_with (go_at_call 72; refine HI.out.mono ?_; rintro e w3 ⟨rfl, d3, hr3, hs3, hq3, hc3⟩; have HR3 := keepf hr3; have HS3 := keepf (hSm.out.trans (hs3.wide (Nat.zero_le _) (Nat.le_refl _))); have HQ3 := keepf (show BlkS key d3 20 0 N ∧ InTurn key0 d3 by (obtain ⟨c, hcc⟩ := hAc.out; exact ⟨hSo.out.1.step hcc (by have := HB.out; have := HLT.out; omega) hs3 hq3.1, hq3.2⟩)); have HC3 := keepf (HCw.out.trans hc3 (fun _ _ h => h)); have hl3 : d3.length = N := (by rw [hs3.len]; exact hl1); clear hr3 hs3 hq3 hc3)
      go_loopw [6] (fun vz wr2 => ∃ z : Nat, ∃ d4 : List Int, 0 < z ∧ z ≤ 200000 ∧ vz = .int .i64 z ∧ d4.length = N ∧ Row wr2 gs cap d4 ∧ Hid (Same d d4 0 N) ∧ Hid (BlkS key d4 z 0 N ∧ InTurn key0 d4) ∧ Chg (fun i => i = gs) w wr2) (fun vz _ => N - (intOf vz).toNat)
      case atStart => exact ⟨20, d3, by omega, by omega, by go_num, hl3, HR3.out, HS3.out, HQ3.out, HC3.out⟩
      case round =>
        obtain ⟨z, d4, hz0, hz2, rfl, hl4, hR4, hS4, hQ4, hc4⟩ := hrel
        have HR4 := keepf hR4
        have HC4 := keepf hc4
        clear hR4 hc4
        by_cases hzN : z < N
        · have hzN' : (z : Int) < N := by omega
          obtain ⟨zz, hzz⟩ : ∃ zz, zz = 2 * z := ⟨_, rfl⟩
          have ezz : ((2 : Int) * z) = (zz : Int) := by omega
          have HZZ := keepf hzz
          clear hzz
          go_wp2_with fail
          go_loopw [7, 8] (fun va vb wr3 => ∃ A B : Nat, ∃ d5 : List Int, A ≤ N ∧ B ≤ 400000 ∧ va = .int .i64 A ∧ vb = .int .i64 B ∧ d5.length = N ∧ Row wr3 gs cap d5 ∧ Hid (B = A + zz) ∧ Hid (Same d d5 0 N) ∧ Hid (∃ c, A = c * zz) ∧ Hid (BlkS key d5 zz 0 A ∧ InTurn key0 d5) ∧ Hid (BlkS key d5 z A N) ∧ Chg (fun i => i = gs) w wr3) (fun va _ _ => N + 1 - (intOf va).toNat)
          case atStart => exact ⟨0, zz, d4, by omega, by have := HZZ.out; omega, by go_num, by go_num, hl4, HR4.out, (by show zz = _; omega), hS4.out, ⟨0, by omega⟩, ⟨fun p q _ _ h => absurd h (by omega), hQ4.out.2⟩, hQ4.out.1, HC4.out⟩
          case round =>
            obtain ⟨A2, B2, d5, hA2, hB2, rfl, rfl, hl5, hR5, hBB, hS5, hAc2, hP5, hQ5, hc5⟩ := hrel
            have HR5 := keepf hR5
            have HC5 := keepf hc5
            clear hR5 hc5
            obtain ⟨M2, hM2⟩ : ∃ M2, M2 = A2 + z := ⟨_, rfl⟩
            have eM2 : ((A2 : Int) + z) = (M2 : Int) := by omega
            have hs1 : Sorted key d5 A2 (min M2 N) := by
              obtain ⟨c, hc⟩ := hAc2.out
              have hz := HZZ.out
              exact hQ5.out.sorted (c := c * 2) (by rw [hc, hz, Nat.mul_assoc]) (Nat.le_refl _) (by omega) (by omega)
            have hs2 : ∀ b, b ≤ N → b ≤ M2 + z → Sorted key d5 M2 b := by
              intro b h1 h2
              obtain ⟨c, hc⟩ := hAc2.out
              have hz := HZZ.out
              exact hQ5.out.sorted (c := c * 2 + 1) (by rw [hM2, hc, hz, Nat.add_mul, Nat.mul_assoc, Nat.one_mul]) (by omega) h1 h2
            have HS1 := keepf hs1
            have HS2 := keepf hs2
            have HM2 := keepf hM2
            clear hs1 hs2 hM2
            by_cases hlt2 : B2 ≤ N
            · have HI2 := keepf (HSYM.out A2 M2 B2 d5 wr (by have := HM2.out; omega) (by have := HM2.out; have := hBB.out; have := HZZ.out; omega) hlt2 hl5 HR5.out (HG.out.same hS5.out) (by have h1 := HS1.out; rw [Nat.min_eq_left (by have := HM2.out; have := hBB.out; have := HZZ.out; omega)] at h1; exact h1) (HS2.out B2 hlt2 (by have := HM2.out; have := hBB.out; have := HZZ.out; omega)) hP5.out.2 (HCH.out.trans HC5.out (fun _ _ h => h)))
              have hlt2' : (B2 : Int) ≤ N := by omega
              go_wp2_with (go_at_call 73; refine HI2.out.mono ?_; rintro e w6 ⟨rfl, d6, hr6, hs6, hq6, hc6⟩; have HR6 := keepf hr6; have HS6 := keepf hs6; have HQ6 := keepf hq6; have HC6 := keepf hc6; clear hr6 hs6 hq6 hc6)
              go_roundw
              case rel =>
                have hz := HZZ.out
                have hbb := hBB.out
                refine ⟨B2, B2 + zz, d6, hlt2, by omega, rfl, by go_num, by rw [HS6.out.len]; exact hl5, HR6.out, rfl, hS5.out.trans (HS6.out.wide (Nat.zero_le _) hlt2), ?_, ?_, hQ5.out.rest (by omega) HS6.out, HC5.out.trans HC6.out (fun _ _ h => h)⟩
                · obtain ⟨c, hc⟩ := hAc2.out
                  exact ⟨c + 1, by rw [Nat.succ_mul, ← hc]; exact hbb⟩
                · obtain ⟨c, hc⟩ := hAc2.out
                  exact ⟨hP5.out.1.step hc (by omega) HS6.out HQ6.out.1, HQ6.out.2⟩
              case measure => simp [intOf]; have := hBB.out; have := HZZ.out; omega
            · have hlt2' : decide ((B2 : Int) ≤ N) = false := by simp; omega
              by_cases hm : M2 < N
              · have hm' : (M2 : Int) < N := by omega
                have HI2 := keepf (HSYM.out A2 M2 N d5 wr (by have := HM2.out; omega) hm (Nat.le_refl _) hl5 HR5.out (HG.out.same hS5.out) (by have h1 := HS1.out; rw [Nat.min_eq_left (by omega)] at h1; exact h1) (HS2.out N (Nat.le_refl _) (by have := HM2.out; have := hBB.out; have := HZZ.out; omega)) hP5.out.2 (HCH.out.trans HC5.out (fun _ _ h => h)))
                go_wp2_with (go_at_call 73; refine HI2.out.mono ?_; rintro e w6 ⟨rfl, d6, hr6, hs6, hq6, hc6⟩; have HR6 := keepf hr6; have HS6 := keepf hs6; have HQ6 := keepf hq6; have HC6 := keepf hc6; clear hr6 hs6 hq6 hc6)
                go_roundw
                case rel =>
                  have hz := HZZ.out
                  have hbb := hBB.out
                  refine ⟨zz, d6, by omega, by omega, by go_num, by rw [HS6.out.len]; exact hl5, HR6.out, hS5.out.trans (HS6.out.wide (Nat.zero_le _) (Nat.le_refl _)), ?_, HC5.out.trans HC6.out (fun _ _ h => h)⟩
                  obtain ⟨c, hc⟩ := hAc2.out
                  exact ⟨hP5.out.1.step hc (by omega) HS6.out HQ6.out.1, HQ6.out.2⟩
                case measure => simp [intOf]; have := HZZ.out; omega
              · have hm' : decide ((M2 : Int) < N) = false := by simp; omega
                go_wp2_with fail
                go_roundw
                case rel =>
                  have hz := HZZ.out
                  have hbb := hBB.out
                  refine ⟨zz, d5, by omega, by omega, by go_num, hl5, HR5.out, hS5.out, ?_, HC5.out⟩
                  obtain ⟨c, hc⟩ := hAc2.out
                  have h1 := HS1.out
                  rw [Nat.min_eq_right (by omega)] at h1
                  exact ⟨hP5.out.1.step hc (by omega) (Same.refl d5 A2 N) h1, hP5.out.2⟩
                case measure => simp [intOf]; have := HZZ.out; omega
        · go_wp2_with fail
          go_end0
          exact ⟨rfl, d4, HR4.out, hS4.out, hQ4.out.1.whole (by omega), HC4.out⟩

theorem sortStable_any [PAd] (g : Nat) (lb : Array Value) (eg : ∀ args w, (callFunc g args).run Try.prog w = .ok (.enter g args) w) (key0 key : Int → Int) (NN : Int) (hkk : key = kk key0 NN) (gs cap : Nat) (w0 : World) (hcmp : CmpOf g lb key0 NN gs w0)
    (d : List Int) (w : World) (hL : d.length ≤ 100000) (hR : Row w gs cap d) (hG : Good NN d) (hst : InTurn key0 d) (hch : Chg (fun i => i = gs) w0 w) :
    Calls Try.prog 42 #[.slice (some ⟨gs, 0, none⟩) d.length cap, .func (.func g) #[] lb] w (SortTo w gs cap d 0 d.length (fun d' => Sorted key d' 0 d.length)) := by
  have HP := keepf (stable_any g lb eg key0 key NN hkk gs cap w0 hcmp d w hL hR hG hst hch)
  clear hR hG hch hst
  go_enter Try.func42, Try.ntmps42
  go_wp2_with (go_at_call 60; refine HP.out.mono ?_; rintro e w3 ⟨rfl, d3, hr3, hs3, hq3, hc3⟩; have HR3 := keepf hr3; have HS3 := keepf hs3; have HQ3 := keepf hq3; have HC3 := keepf hc3; clear hr3 hs3 hq3 hc3)
  go_end0
  exact ⟨rfl, d3, HR3.out, HS3.out, HQ3.out, HC3.out⟩

end Go.Proofs.Ytaababegolfjeaa.PS

/- The library's stable sort over a row of pairs of values, however many: it is sortR. -/
namespace Go.Proofs.Ytaababegolfjeaa
open Go.RowKit
set_option linter.unusedVariables false
set_option linter.unusedSimpArgs false

/-- How many of the first M names are less than a name. -/
def rankS (S : Nat → ByteArray) (M : Nat) (x : Nat) : Nat := ((List.range M).filter fun y => Op.bytesLess (S y).toList (S x).toList).length

def keyS (S : Nat → ByteArray) (M : Nat) (x : Int) : Int := (rankS S M x.toNat : Nat)

theorem rank_lt {S : Nat → ByteArray} {M x y : Nat} (hx : x < M) (h : Op.bytesLess (S x).toList (S y).toList = true) : rankS S M x < rankS S M y := by
  unfold rankS
  have key : ∀ L : List Nat, (L.filter fun z => Op.bytesLess (S z).toList (S x).toList).length ≤ (L.filter fun z => Op.bytesLess (S z).toList (S y).toList).length ∧ (x ∈ L → (L.filter fun z => Op.bytesLess (S z).toList (S x).toList).length < (L.filter fun z => Op.bytesLess (S z).toList (S y).toList).length) := by
    intro L
    induction L with
    | nil => exact ⟨Nat.le_refl _, fun h => by cases h⟩
    | cons z L ih =>
      rw [List.filter_cons, List.filter_cons]
      by_cases h1 : Op.bytesLess (S z).toList (S x).toList = true
      · have h2 := less_tr h1 h
        rw [if_pos h1, if_pos h2, List.length_cons, List.length_cons]
        refine ⟨by omega, fun hm => ?_⟩
        rcases List.mem_cons.1 hm with rfl | hm
        · rw [less_self] at h1; cases h1
        · have := ih.2 hm; omega
      · rw [if_neg h1]
        by_cases h2 : Op.bytesLess (S z).toList (S y).toList = true
        · rw [if_pos h2, List.length_cons]
          exact ⟨by omega, fun _ => by omega⟩
        · rw [if_neg h2]
          refine ⟨ih.1, fun hm => ?_⟩
          rcases List.mem_cons.1 hm with rfl | hm
          · exact absurd h h2
          · exact ih.2 hm
  exact (key (List.range M)).2 (List.mem_range.2 hx)

theorem rank_eq {S : Nat → ByteArray} {M x y : Nat} (h : S x = S y) : rankS S M x = rankS S M y := by unfold rankS; rw [h]

theorem rank_iff {S : Nat → ByteArray} {M x y : Nat} (hx : x < M) (hy : y < M) : rankS S M x < rankS S M y ↔ Op.bytesLess (S x).toList (S y).toList = true := by
  refine ⟨fun h => ?_, rank_lt hx⟩
  by_cases h1 : Op.bytesLess (S x).toList (S y).toList = true
  · exact h1
  · by_cases h2 : S x = S y
    · rw [rank_eq h2] at h; omega
    · have := rank_lt hy (less_tot h1 h2); omega

theorem rank_cmp {S : Nat → ByteArray} {M x y : Nat} (hx : x < M) (hy : y < M) : PS.cmpv (rankS S M x : Nat) (rankS S M y : Nat) = cmpS (S x) (S y) := by
  unfold PS.cmpv
  by_cases h1 : Op.bytesLess (S x).toList (S y).toList = true
  · have := rank_lt (M := M) hx h1
    rw [if_pos (by omega)]
    unfold cmpS
    rw [if_pos h1]
  · have h3 := mt (rank_iff hx hy).1 h1
    rw [if_neg (by omega)]
    by_cases h2 : S x = S y
    · have := rank_eq (M := M) h2
      rw [if_neg (by omega)]
      unfold cmpS
      rw [if_neg h1, if_neg (by simpa using h2)]
    · have := rank_lt (M := M) hy (less_tot h1 h2)
      rw [if_pos (by omega)]
      unfold cmpS
      rw [if_neg h1, if_pos h2]

/-- x stands ahead of y: a lesser name, or the same one and a lesser number. -/
def aheadS (S : Nat → ByteArray) (x y : Nat) : Prop := Op.bytesLess (S x).toList (S y).toList = true ∨ (S x = S y ∧ x < y)

theorem ahead_tr {S : Nat → ByteArray} {x y z : Nat} (h : aheadS S x y) (k : aheadS S y z) : aheadS S x z := by
  rcases h with h | ⟨h, h2⟩
  · rcases k with k | ⟨k, k2⟩
    · exact .inl (less_tr h k)
    · exact .inl (by rw [← k]; exact h)
  · rcases k with k | ⟨k, k2⟩
    · exact .inl (by rw [h]; exact k)
    · exact .inr ⟨h.trans k, by omega⟩

/-- The row as it is told from its end. -/
theorem insR_way {S : Nat → ByteArray} {x : Nat} : ∀ {R : List Nat}, R.Pairwise (fun a b => aheadS S b a) → (∀ y ∈ R, y < x) → (insR S x R).Pairwise (fun a b => aheadS S b a)
  | [], _, _ => by rw [insR]; exact List.pairwise_singleton _ _
  | p :: R, h, hx => by
    have h1 := List.pairwise_cons.1 h
    rw [insR]
    by_cases hl : Op.bytesLess (S x).toList (S p).toList = true
    · rw [if_pos hl]
      refine List.pairwise_cons.2 ⟨fun y hy => ?_, insR_way h1.2 (fun y hy => hx y (List.mem_cons_of_mem _ hy))⟩
      rcases insR_mem hy with rfl | hy
      · exact .inl hl
      · exact h1.1 y hy
    · rw [if_neg hl]
      have hpx : aheadS S p x := by
        by_cases he : S p = S x
        · exact .inr ⟨he, hx p (List.mem_cons_self ..)⟩
        · exact .inl (less_tot hl (fun e => he e.symm))
      refine List.pairwise_cons.2 ⟨fun y hy => ?_, h⟩
      rcases List.mem_cons.1 hy with rfl | hy
      · exact hpx
      · exact ahead_tr (h1.1 y hy) hpx

theorem insR_perm {S : Nat → ByteArray} {x : Nat} : ∀ R : List Nat, (insR S x R).Perm (x :: R)
  | [] => by rw [insR]
  | p :: R => by
    rw [insR]
    split
    · exact ((insR_perm R).cons p).trans (List.Perm.swap x p R)
    · exact List.Perm.refl _

theorem sortR_way {S : Nat → ByteArray} : ∀ m : Nat, (sortR S (List.range m)).Pairwise (fun a b => aheadS S b a) ∧ (sortR S (List.range m)).Perm (List.range m)
  | 0 => ⟨List.Pairwise.nil, List.Perm.refl _⟩
  | m + 1 => by
    obtain ⟨h1, h2⟩ := sortR_way (S := S) m
    rw [List.range_succ, sortR_snoc]
    refine ⟨insR_way h1 (fun y hy => List.mem_range.1 (sortR_mem hy)), (insR_perm _).trans ?_⟩
    exact ((h2.cons m).trans (List.perm_append_singleton m (List.range m)).symm)

theorem ahead_as {S : Nat → ByteArray} {x y : Nat} (h : aheadS S x y) (k : aheadS S y x) : False := by
  rcases ahead_tr h k with h | ⟨_, h⟩
  · rw [less_self] at h; cases h
  · omega

/-- The numbers as they are in the texts of the sort. -/
def ofN (d : List Nat) : List Int := d.map (fun x : Nat => ((x : Nat) : Int))

theorem ofN_get {d : List Nat} {i x : Nat} (h : d[i]? = some x) : (ofN d).getD i 0 = (x : Int) := by simp [ofN, List.getD_eq_getElem?_getD, h]

theorem row_ps {w : World} {g cap b off : Nat} {d : List Nat} (h : PRow w g cap b off d) : @PS.Row ⟨fun x => ⟨b, off + 2 * x.toNat * 4, none⟩⟩ w g cap (ofN d) := by
  unfold PS.Row PS.icells ofN
  rw [List.length_map, List.map_map]
  exact h

theorem row_of_ps {w : World} {g cap b off : Nat} {d : List Nat} (h : @PS.Row ⟨fun x => ⟨b, off + 2 * x.toNat * 4, none⟩⟩ w g cap (ofN d)) : PRow w g cap b off d := by
  unfold PS.Row PS.icells ofN at h
  rw [List.length_map, List.map_map] at h
  exact h

theorem nat_of {M : Int} {d : List Int} (h : PS.Good M d) : ofN (d.map Int.toNat) = d := by
  unfold ofN
  rw [List.map_map]
  exact (List.map_congr_left (g := id) (fun x hx => by have := (h x hx).1; simp; omega)).trans (List.map_id _)

theorem cmp_ps {g b off M blk : Nat} {S : Nat → ByteArray} {w0 : World} (h : CmpP g b off S M blk w0) : @PS.CmpOf ⟨fun x => ⟨b, off + 2 * x.toNat * 4, none⟩⟩ g #[] (keyS S M) (M : Nat) blk w0 := by
  intro x y W hx hxM hy hyM hc
  have h1 := h x.toNat y.toNat W (by omega) (by omega) hc
  unfold pcell at h1
  unfold keyS
  rw [rank_cmp (by omega) (by omega)]
  exact h1

/-- THE STABLE SORT OF PAIRS, however many. -/
theorem sortP_many (g b off m gs cap : Nat) (S : Nat → ByteArray) (w0 : World) (eg : ∀ args w, (callFunc g args).run Try.prog w = .ok (.enter g args) w) (hcmp : CmpP g b off S m gs w0)
    (w : World) (hL : m ≤ 100000) (hR : PRow w gs cap b off (List.range m)) (hch : Chg (fun i => i = gs) w0 w) :
    Calls Try.prog 42 #[.slice (some ⟨gs, 0, none⟩) m cap, .func (.func g) #[] #[]] w fun e w' => e = .returned (.tuple #[]) ∧ PRow w' gs cap b off (sortR S (List.range m)).reverse ∧ Chg (fun i => i = gs) w w' := by
  have hl : (ofN (List.range m)).length = m := by simp [ofN]
  have hG : PS.Good (m : Nat) (ofN (List.range m)) := by
    intro x hx
    obtain ⟨y, hy, rfl⟩ := List.mem_map.1 hx
    have := List.mem_range.1 hy
    omega
  have hget : ∀ i, i < m → (ofN (List.range m)).getD i 0 = (i : Int) := fun i hi => ofN_get (by simp [hi])
  have hst : PS.InTurn (keyS S m) (ofN (List.range m)) := by
    intro p q hpq hq _
    rw [hl] at hq
    rw [hget p (by omega), hget q hq]
    omega
  have h1 := @PS.sortStable_any ⟨fun x => ⟨b, off + 2 * x.toNat * 4, none⟩⟩ g #[] eg (keyS S m) (PS.kk (keyS S m) (m : Nat)) (m : Nat) rfl gs cap w0 (cmp_ps hcmp) (ofN (List.range m)) w (by rw [hl]; exact hL) (row_ps hR) hG hst hch
  rw [hl] at h1
  refine h1.mono ?_
  rintro e w' ⟨rfl, d', hr, hs, hq, hc⟩
  refine ⟨rfl, ?_, hc⟩
  have hG' : PS.Good (m : Nat) d' := hG.same hs
  have hd' := nat_of hG'
  obtain ⟨D, hD⟩ : ∃ D : List Nat, D = d'.map Int.toNat := ⟨_, rfl⟩
  rw [← hD] at hd'
  have hp : D.Perm (List.range m) := by
    have h2 : (d'.map Int.toNat).Perm ((ofN (List.range m)).map Int.toNat) := hs.perm.map _
    rw [← hD] at h2
    have h3 : (ofN (List.range m)).map Int.toNat = List.range m := by
      unfold ofN
      rw [List.map_map]
      exact (List.map_congr_left (g := id) (fun x _ => by simp)).trans (List.map_id _)
    rwa [h3] at h2
  have hlen : D.length = m := by have := hp.length_eq; rwa [List.length_range] at this
  have hw : D.Pairwise (aheadS S) := by
    rw [List.pairwise_iff_getElem]
    intro i j hi hj hij
    have hgi : d'.getD i 0 = (D[i] : Nat) := by rw [← hd']; exact ofN_get (List.getElem?_eq_getElem hi)
    have hgj : d'.getD j 0 = (D[j] : Nat) := by rw [← hd']; exact ofN_get (List.getElem?_eq_getElem hj)
    have hmi : D[i] < m := List.mem_range.1 (hp.mem_iff.1 (List.getElem_mem hi))
    have hmj : D[j] < m := List.mem_range.1 (hp.mem_iff.1 (List.getElem_mem hj))
    have hle := hq i j (Nat.zero_le _) hij (by omega)
    rw [hgi, hgj] at hle
    have h2 := PS.kk_le (key := keyS S m) (N := (m : Nat)) (x := (D[i] : Nat)) (y := (D[j] : Nat)) ⟨by omega, by omega⟩ ⟨by omega, by omega⟩ hle
    unfold keyS at h2
    simp only [Int.toNat_natCast] at h2
    have hne : D[i] ≠ D[j] := fun e => by
      have hnd : D.Nodup := hp.nodup_iff.2 List.nodup_range
      exact absurd ((List.getElem_inj hnd).1 e) (by omega)
    by_cases h5 : Op.bytesLess (S D[i]).toList (S D[j]).toList = true
    · exact .inl h5
    · by_cases h6 : S D[i] = S D[j]
      · have h7 := h2.2 (by rw [rank_eq h6])
        exact .inr ⟨h6, by omega⟩
      · have h7 := (rank_iff hmj hmi).2 (less_tot h5 h6)
        omega
  have hw2 : (sortR S (List.range m)).reverse.Pairwise (aheadS S) := List.pairwise_reverse.2 (sortR_way m).1
  have hp2 : D.Perm (sortR S (List.range m)).reverse := hp.trans (((sortR_way m).2).symm.trans (List.reverse_perm _).symm)
  have hDD : D = (sortR S (List.range m)).reverse := hp2.eq_of_pairwise (fun x y _ _ h k => (ahead_as h k).elim) hw hw2
  rw [← hDD]
  exact row_of_ps (by rw [hd']; exact hr)

end Go.Proofs.Ytaababegolfjeaa

