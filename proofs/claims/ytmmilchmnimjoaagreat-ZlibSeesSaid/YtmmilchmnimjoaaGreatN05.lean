/- Merged by program: Ins Stable Lesser First Nodes Pairs Merge Levels PackH Kraft InOrder Backward Share ShareW LensOf Lengths. -/
import Derived.Test.YtmmilchmnimjoaaGreatN03
import Derived.Test.YtmmilchmnimjoaaGreatN04
import Derived.Laws.EntriesVeiled
import Derived.Lib.AppendZeros
import Derived.Deep.AppendLies
import Derived.Deep.RegionHeld3
import Derived.RangeFuncWrites
import Derived.RangeFuncNested
import Derived.RangeFuncCalls
import Derived.RangeFuncLeaves
import Derived.CallsIn
import Derived.Shelf.Abstract
import Derived.Shelf.RegionOpen
import Derived.Sort.QuietIn
import Derived.OwnWalkIn
import Derived.TacticsInMore
import Derived.LoopNIn
import Derived.LoopIn
/- What insertionSort does to a row of integers. -/
namespace Go.Proofs.YtmmilchmnimjoaaGreat
open Go.RowKit
set_option linter.unusedVariables false
set_option linter.unusedSimpArgs false
def Hole (key : Int → Int) (d : List Int) (a i j : Nat) : Prop :=
  (∀ p q, a ≤ p → p < q → q < i + 1 → p ≠ j → q ≠ j → key (d.getD p 0) ≤ key (d.getD q 0)) ∧ (∀ q, j < q → q < i + 1 → key (d.getD j 0) ≤ key (d.getD q 0))
theorem hole_start {key : Int → Int} {d : List Int} {a i : Nat} (h : Sorted key d a i) : Hole key d a i i :=
  ⟨fun p q hp hpq hq h1 h2 => h p q hp hpq (by omega), fun q h1 h2 => absurd h1 (by omega)⟩
theorem hole_done {key : Int → Int} {d : List Int} {a i j : Nat} (h : Hole key d a i j) (haj : a ≤ j) (hji : j ≤ i) (hl : j = a ∨ key (d.getD (j - 1) 0) ≤ key (d.getD j 0)) : Sorted key d a (i + 1) := by
  intro p q hp hpq hq
  by_cases h1 : p = j
  · subst h1; exact h.2 q hpq hq
  · by_cases h2 : q = j
    · subst h2
      rcases hl with h3 | h3
      · omega
      · by_cases h4 : p = q - 1
        · subst h4; exact h3
        · exact Int.le_trans (h.1 p (q - 1) hp (by omega) (by omega) h1 (by omega)) h3
    · exact h.1 p q hp hpq hq h1 h2
theorem hole_step {key : Int → Int} {d : List Int} {a i j : Nat} (h : Hole key d a i (j + 1)) (haj : a ≤ j) (hji : j + 1 ≤ i) (hi : i < d.length) (hlt : key (d.getD (j + 1) 0) < key (d.getD j 0)) : Hole key (swapD d (j + 1) j) a i j := by
  have g := fun k => swapD_get d (j + 1) j k (by omega) (by omega)
  refine ⟨fun p q hp hpq hq h1 h2 => ?_, fun q h1 h2 => ?_⟩
  · rw [g p, g q, if_neg h1, if_neg h2]
    by_cases h3 : p = j + 1
    · subst h3
      rw [if_pos rfl, if_neg (by omega)]
      exact h.1 j q haj (by omega) hq (by omega) (by omega)
    · rw [if_neg h3]
      by_cases h4 : q = j + 1
      · subst h4
        rw [if_pos rfl]
        exact h.1 p j hp (by omega) (by omega) h3 (by omega)
      · rw [if_neg h4]
        exact h.1 p q hp hpq hq h3 h4
  · rw [g j, g q, if_pos rfl, if_neg (by omega)]
    by_cases h4 : q = j + 1
    · subst h4; rw [if_pos rfl]; omega
    · rw [if_neg h4]
      exact h.2 q (by omega) h2
set_option maxHeartbeats 4000000 in
set_option maxRecDepth 100000 in
theorem ins_any (g : Nat) (lb : Array Value) (eg : ∀ args w, (callFunc g args).run Tryz.prog w = .ok (.enter g args) w) (key0 key : Int → Int) (NN : Int) (hkk : key = kk key0 NN) (gs cap : Nat) (w0 : World) (hcmp : CmpOf g lb key0 NN gs w0)
    (a b : Nat) (d : List Int) (w : World) (hab : a ≤ b) (hb : b ≤ d.length) (hL : d.length ≤ 1000000) (hR : Row w gs cap d) (hG : Good NN d) (hst : InTurn key0 d) (hch : Chg (fun i => i = gs) w0 w) :
    Calls Tryz.prog 171 #[.slice (some ⟨gs, 0, none⟩) d.length cap, .int .i64 a, .int .i64 b, .func (.func g) #[] lb] w (SortTo w gs cap d a b (fun d' => Sorted key d' a b)) := by
  have HR := keepf hR
  have HG := keepf hG
  have HCH := keepf hch
  have HST := keepf hst
  have HKK := keepf hkk
  clear hR hG hch hst
  obtain ⟨N, hN⟩ : ∃ N, N = d.length := ⟨_, rfl⟩
  have HN := keepf hN
  rw [← hN] at hb hL ⊢
  clear hN
  go_enter Tryz.func171, Tryz.ntmps171
  go_wp2_with fail
  go_loopw [8] (fun v wr => ∃ i : Nat, ∃ d1 : List Int, a + 1 ≤ i ∧ i ≤ b + 1 ∧ v = .int .i64 i ∧ d1.length = N ∧ Row wr gs cap d1 ∧ Hid (Same d d1 a b) ∧ Hid ((∀ e, e ≤ i → e ≤ b → Sorted key d1 a e) ∧ InTurn key0 d1) ∧ Chg (fun i => i = gs) w wr) (fun v _ => b + 1 - (intOf v).toNat)
  case atStart => exact ⟨a + 1, d, by omega, by omega, by go_num, HN.out.symm, HR.out, Same.refl _ _ _, ⟨fun e h1 h2 p q h3 h4 h5 => absurd h4 (by omega), HST.out⟩, Chg.refl _ _⟩
  case round =>
    obtain ⟨i, d1, hi1, hi2, rfl, hl1, hRw, hSm, hSo, hc⟩ := hrel
    have HRw := keepf hRw
    have HCw := keepf hc
    clear hRw hc
    by_cases hlt : i < b
    · go_wp2_with fail
      go_loopw [9] (fun v wr2 => ∃ j : Nat, ∃ d2 : List Int, a ≤ j ∧ j ≤ i ∧ v = .int .i64 j ∧ d2.length = N ∧ Row wr2 gs cap d2 ∧ Hid (Same d d2 a b) ∧ Hid (Hole key d2 a i j ∧ Same d1 d2 a (i + 1) ∧ d2.getD j 0 = d1.getD i 0 ∧ ∀ p, p < j → d2.getD p 0 = d1.getD p 0) ∧ Chg (fun i => i = gs) w wr2) (fun v _ => (intOf v).toNat)
      case atStart => exact ⟨i, d1, by omega, by omega, rfl, hl1, HRw.out, hSm.out, ⟨hole_start (hSo.out.1 i (Nat.le_refl _) (by omega)), Same.refl _ _ _, rfl, fun _ _ => rfl⟩, HCw.out⟩
      case round =>
        obtain ⟨j, d2, hj1, hj2, rfl, hl2, hR2, hS2, hH, hc2⟩ := hrel
        have HR2 := keepf hR2
        have HC2 := keepf hc2
        clear hR2 hc2
        by_cases hja : a < j
        · obtain ⟨j', hj'⟩ : ∃ j', j = j' + 1 := ⟨j - 1, by omega⟩
          have e1 : ((j : Int) - 1) = (j' : Int) := by omega
          have k1 := HR2.out.cell j (by omega)
          have k2 := HR2.out.cell j' (by omega)
          have f1 := HR2.out.frozen j
          have f2 := HR2.out.frozen j'
          have g2 := HG.out.same hS2.out
          have hcl := keepf (fun n => quiet_draw (n := n) (hcmp (d2.getD j 0) (d2.getD j' 0) (wr.drewN n) (g2.get j (by omega)).1 (g2.get j (by omega)).2 (g2.get j' (by omega)).1 (g2.get j' (by omega)).2 ((HCH.out.trans HC2.out (fun _ _ h => h)).drewN n)))
          have hja' : (a : Int) < j := by omega
          have b1 : (j : Int) < N := by omega
          have b2 : (j' : Int) < N := by omega
          obtain ⟨x, hx⟩ : ∃ x, x = d2.getD j 0 := ⟨_, rfl⟩
          obtain ⟨y, hy⟩ : ∃ y, y = d2.getD j' 0 := ⟨_, rfl⟩
          rw [← hx] at k1 hcl
          rw [← hy] at k2 hcl
          have hcv := cmp_cross HKK.out hSo.out.2 (HG.out.same hSm.out) (show j' < i by omega) (by omega)
          rw [← hH.out.2.2.1, ← hH.out.2.2.2 j' (by omega), ← hx, ← hy] at hcv
          have HX := keepf hx
          have HY := keepf hy
          have HJ := keepf hj'
          clear hx hy hj' g2
          obtain ⟨cv, hcv0⟩ : ∃ cv, cv = cmpv (key0 x) (key0 y) := ⟨_, rfl⟩
          rw [← hcv0] at hcl hcv
          clear hcv0
          by_cases hxy : key x < key y
          · have hd : decide (cv < 0) = true := by rw [hcv]; simpa using hxy
            have HXY := keepf hxy
            clear hcv hxy
            go_upto_region 4 with fail
            go_quiet ((go_at_fn g; exact hcl.out _))
            go_upto_region 6 with fail
            have hR3 := HR2.out.drewN nq
            have hC3 := HC2.out.drewN nq
            have k1' := hR3.cell j (by omega)
            have k2' := hR3.cell j' (by omega)
            have f1' := hR3.frozen j
            have f2' := hR3.frozen j'
            rw [← HX.out] at k1'
            rw [← HY.out] at k2'
            clear k1 k2 f1 f2
            generalize wr.drewN nq = wq at *
            have HR3 := keepf hR3
            have HC3 := keepf hC3
            clear hR3 hC3
            go_region
            go_wp2_with fail
            go_roundw
            case rel =>
              have hkk := HJ.out
              subst hkk
              have hsw := HR3.out.swap (j' + 1) j'
              rw [← HX.out, ← HY.out] at hsw
              refine ⟨j', swapD d2 (j' + 1) j', by omega, by omega, by go_num, by rw [swapD_len]; exact hl2, hsw.drew, hS2.out.trans (Same.swap d2 a b (j' + 1) j' (by omega) (by omega) (by omega)), ⟨hole_step hH.out.1 (by omega) hj2 (by omega) (by have := HXY.out; rw [HX.out, HY.out] at this; exact this), hH.out.2.1.trans (Same.swap d2 a (i + 1) (j' + 1) j' (by omega) (by omega) (by omega)), by rw [swapD_get d2 _ _ _ (by omega) (by omega), if_pos rfl]; exact hH.out.2.2.1, fun p hp => by rw [swapD_get d2 _ _ p (by omega) (by omega), if_neg (by omega), if_neg (by omega)]; exact hH.out.2.2.2 p (by omega)⟩, ((HC3.out.setCell (p := ⟨gs, j' + 1, none⟩) (fun _ => rfl) _).setCell (p := ⟨gs, j', none⟩) (fun _ => rfl) _).drew⟩
            case measure => simp [intOf]; have := HJ.out; omega
          · have hd : decide (cv < 0) = false := by rw [hcv]; simpa using hxy
            have HXY := keepf hxy
            clear hcv hxy
            go_upto_region 4 with fail
            go_quiet ((go_at_fn g; exact hcl.out _))
            go_wp2_with fail
            go_roundw
            case rel =>
              have hso := hole_done hH.out.1 hj1 hj2 (.inr (by have h4 := HXY.out; rw [HX.out, HY.out] at h4; rw [show j - 1 = j' from by have := HJ.out; omega]; omega))
              exact ⟨i + 1, d2, by omega, by omega, by go_num, hl2, HR2.out.drewN nq, hS2.out, ⟨fun e h1 h2 => hso.part (Nat.le_refl _) h1, hSo.out.2.same HKK.out hH.out.2.1 (by omega) (HG.out.same hS2.out).get hso⟩, HC2.out.drewN nq⟩
            case measure => simp [intOf]; omega
        · have hja' : decide ((a : Int) < j) = false := by simp; omega
          have HAJ := keepf (show j = a by omega)
          go_upto_region 4 with fail
          go_quiet (fail)
          go_wp2_with fail
          go_roundw
          case rel =>
            have hso := hole_done hH.out.1 hj1 hj2 (.inl HAJ.out)
            exact ⟨i + 1, d2, by omega, by omega, by go_num, hl2, HR2.out.drewN nq, hS2.out, ⟨fun e h1 h2 => hso.part (Nat.le_refl _) h1, hSo.out.2.same HKK.out hH.out.2.1 (by omega) (HG.out.same hS2.out).get hso⟩, HC2.out.drewN nq⟩
          case measure => simp [intOf]; omega
    · go_wp2_with fail
      go_end0
      exact ⟨rfl, d1, HRw.out, hSm.out, hSo.out.1 b (by omega) (Nat.le_refl _), HCw.out⟩
end Go.Proofs.YtmmilchmnimjoaaGreat
/- What SortStableFunc does to a row of integers. -/
namespace Go.Proofs.YtmmilchmnimjoaaGreat
open Go.RowKit
set_option linter.unusedVariables false
set_option linter.unusedSimpArgs false
def BlkS (key : Int → Int) (d : List Int) (z lo hi : Nat) : Prop := ∀ p q, lo ≤ p → p < q → q < hi → p / z = q / z → key (d.getD p 0) ≤ key (d.getD q 0)
theorem blk_of {z c p : Nat} (h1 : c * z ≤ p) (h2 : p < c * z + z) : p / z = c := Nat.div_eq_of_lt_le h1 (by rw [Nat.succ_mul]; exact h2)
theorem blk_lo {z p c : Nat} (h : p / z = c) : c * z ≤ p := by subst h; exact Nat.div_mul_le_self p z
theorem BlkS.sorted {key : Int → Int} {d : List Int} {z lo hi a b c : Nat} (h : BlkS key d z lo hi) (ha : a = c * z) (h1 : lo ≤ a) (h2 : b ≤ hi) (h3 : b ≤ a + z) : Sorted key d a b := by
  intro p q hp hpq hq
  subst ha
  exact h p q (by omega) hpq (by omega) ((blk_of hp (by omega)).trans (blk_of (by omega) (by omega)).symm)
theorem BlkS.step {key : Int → Int} {d d3 : List Int} {zz a b c : Nat} (h : BlkS key d zz 0 a) (ha : a = c * zz) (hb : b ≤ a + zz) (hs : Same d d3 a b) (hq : Sorted key d3 a b) : BlkS key d3 zz 0 b := by
  intro p q _ hpq hqb he
  by_cases h1 : q < a
  · rw [hs.out p (by omega), hs.out q (by omega)]; exact h p q (Nat.zero_le _) hpq h1 he
  · have h2 : q / zz = c := blk_of (by omega) (by omega)
    have h3 := blk_lo (he.trans h2)
    exact hq p q (by omega) hpq hqb
theorem BlkS.rest {key : Int → Int} {d d3 : List Int} {z a b N : Nat} (h : BlkS key d z a N) (hab : a ≤ b) (hs : Same d d3 a b) : BlkS key d3 z b N := by
  intro p q hp hpq hqN he
  rw [hs.out p (by omega), hs.out q (by omega)]
  exact h p q (by omega) hpq hqN he
theorem BlkS.whole {key : Int → Int} {d : List Int} {z N : Nat} (h : BlkS key d z 0 N) (hz : N ≤ z) : Sorted key d 0 N := by
  intro p q _ hpq hq
  exact h p q (Nat.zero_le _) hpq hq (by rw [Nat.div_eq_of_lt (by omega), Nat.div_eq_of_lt (by omega)])
set_option maxHeartbeats 4000000 in
set_option maxRecDepth 100000 in
theorem stable_any (g : Nat) (lb : Array Value) (eg : ∀ args w, (callFunc g args).run Tryz.prog w = .ok (.enter g args) w) (key0 key : Int → Int) (NN : Int) (hkk : key = kk key0 NN) (gs cap : Nat) (w0 : World) (hcmp : CmpOf g lb key0 NN gs w0)
    (d : List Int) (w : World) (hL : d.length ≤ 100000) (hR : Row w gs cap d) (hG : Good NN d) (hst : InTurn key0 d) (hch : Chg (fun i => i = gs) w0 w) :
    Calls Tryz.prog 167 #[.slice (some ⟨gs, 0, none⟩) d.length cap, .int .i64 d.length, .func (.func g) #[] lb] w (SortTo w gs cap d 0 d.length (fun d' => Sorted key d' 0 d.length)) := by
  have HR := keepf hR
  have HG := keepf hG
  have HCH := keepf hch
  have HST := keepf hst
  clear hR hG hch hst
  obtain ⟨N, hN⟩ : ∃ N, N = d.length := ⟨_, rfl⟩
  have HN := keepf hN
  rw [← hN] at hL ⊢
  have HINS : Hid (∀ (a b : Nat) (d1 : List Int) (W : World), a ≤ b → b ≤ N → d1.length = N → Row W gs cap d1 → Good NN d1 → InTurn key0 d1 → Chg (fun i => i = gs) w0 W →
      Calls Tryz.prog 171 #[.slice (some ⟨gs, 0, none⟩) N cap, .int .i64 a, .int .i64 b, .func (.func g) #[] lb] W (SortTo W gs cap d1 a b (fun d' => Sorted key d' a b ∧ InTurn key0 d'))) := by
    intro a b d1 W h1 h2 h3 h4 h5 h5s h6
    subst h3
    refine (ins_any g lb eg key0 key NN hkk gs cap w0 hcmp a b d1 W h1 h2 (by omega) h4 h5 h5s h6).mono ?_
    rintro e w3 ⟨rfl, d3, hr3, hs3, hq3, hc3⟩
    exact ⟨rfl, d3, hr3, hs3, ⟨hq3, h5s.same hkk hs3 h2 (h5.same hs3).get hq3⟩, hc3⟩
  have HSYM : Hid (∀ (a m b : Nat) (d1 : List Int) (W : World), a < m → m < b → b ≤ N → d1.length = N → Row W gs cap d1 → Good NN d1 → Sorted key d1 a m → Sorted key d1 m b → InTurn key0 d1 → Chg (fun i => i = gs) w0 W →
      Calls Tryz.prog 172 #[.slice (some ⟨gs, 0, none⟩) N cap, .int .i64 a, .int .i64 m, .int .i64 b, .func (.func g) #[] lb] W (SortTo W gs cap d1 a b (fun d' => Sorted key d' a b ∧ InTurn key0 d'))) := by
    intro a m b d1 W h1 h2 h3 h4 h5 h6 h7 h8 h8s h9
    subst h4
    refine (symMerge_any g lb eg key0 key NN hkk gs cap w0 hcmp (b - a) a m b d1 W (Nat.le_refl _) h1 h2 h3 (by omega) h5 h6 h7 h8 h8s h9).mono ?_
    rintro e w3 ⟨rfl, d3, hr3, hs3, hq3, hc3⟩
    exact ⟨rfl, d3, hr3, hs3, ⟨hq3, h8s.same hkk hs3 h3 (h6.same hs3).get hq3⟩, hc3⟩
  clear hN
  go_enter Tryz.func167, Tryz.ntmps167
  go_wp2_with fail
  go_loopw [7, 8] (fun va vb wr => ∃ A : Nat, ∃ d1 : List Int, A ≤ N ∧ va = .int .i64 A ∧ vb = .int .i64 (A + 20 : Nat) ∧ d1.length = N ∧ Row wr gs cap d1 ∧ Hid (Same d d1 0 N) ∧ Hid (∃ c, A = c * 20) ∧ Hid (BlkS key d1 20 0 A ∧ InTurn key0 d1) ∧ Chg (fun i => i = gs) w wr) (fun va _ _ => N + 1 - (intOf va).toNat)
  case atStart => exact ⟨0, d, by omega, by go_num, by go_num, HN.out.symm, HR.out, Same.refl _ _ _, ⟨0, rfl⟩, ⟨fun p q _ _ h => absurd h (by omega), HST.out⟩, Chg.refl _ _⟩
  case round =>
    obtain ⟨A, d1, hA, rfl, rfl, hl1, hRw, hSm, hAc, hSo, hcg⟩ := hrel
    have HRw := keepf hRw
    have HCw := keepf hcg
    clear hRw hcg
    obtain ⟨B, hB⟩ : ∃ B, B = A + 20 := ⟨_, rfl⟩
    have HB := keepf hB
    rw [← hB]
    by_cases hlt : B ≤ N
    · have HI := keepf (HINS.out A B d1 wr (by omega) hlt hl1 HRw.out (HG.out.same hSm.out) hSo.out.2 (HCH.out.trans HCw.out (fun _ _ h => h)))
      have hlt' : (B : Int) ≤ N := by omega
      clear hB
      go_wp2_with (go_at_call 171; refine HI.out.mono ?_; rintro e w3 ⟨rfl, d3, hr3, hs3, hq3, hc3⟩; have HR3 := keepf hr3; have HS3 := keepf hs3; have HQ3 := keepf hq3; have HC3 := keepf hc3; clear hr3 hs3 hq3 hc3)
      go_roundw
      case rel =>
        refine ⟨B, d3, hlt, rfl, by go_num, by rw [HS3.out.len]; exact hl1, HR3.out, hSm.out.trans (HS3.out.wide (Nat.zero_le _) hlt), ?_, ?_, HCw.out.trans HC3.out (fun _ _ h => h)⟩
        · obtain ⟨c, hc⟩ := hAc.out
          have := HB.out
          exact ⟨c + 1, by omega⟩
        · obtain ⟨c, hc⟩ := hAc.out
          exact ⟨hSo.out.1.step hc (by have := HB.out; omega) HS3.out HQ3.out.1, HQ3.out.2⟩
      case measure => simp [intOf]; have := HB.out; omega
    · have HI := keepf (HINS.out A N d1 wr hA (Nat.le_refl _) hl1 HRw.out (HG.out.same hSm.out) hSo.out.2 (HCH.out.trans HCw.out (fun _ _ h => h)))
      have hlt' : decide ((B : Int) ≤ N) = false := by simp; omega
      have HLT := keepf hlt
      clear hB hlt
      go_wp2_with (go_at_call 171; refine HI.out.mono ?_; rintro e w3 ⟨rfl, d3, hr3, hs3, hq3, hc3⟩; have HR3 := keepf hr3; have HS3 := keepf (hSm.out.trans (hs3.wide (Nat.zero_le _) (Nat.le_refl _))); have HQ3 := keepf (show BlkS key d3 20 0 N ∧ InTurn key0 d3 by (obtain ⟨c, hcc⟩ := hAc.out; exact ⟨hSo.out.1.step hcc (by have := HB.out; have := HLT.out; omega) hs3 hq3.1, hq3.2⟩)); have HC3 := keepf (HCw.out.trans hc3 (fun _ _ h => h)); have hl3 : d3.length = N := (by rw [hs3.len]; exact hl1); clear hr3 hs3 hq3 hc3)
      go_loopw [6] (fun vz wr2 => ∃ z : Nat, ∃ d4 : List Int, 0 < z ∧ z ≤ 200000 ∧ vz = .int .i64 z ∧ d4.length = N ∧ Row wr2 gs cap d4 ∧ Hid (Same d d4 0 N) ∧ Hid (BlkS key d4 z 0 N ∧ InTurn key0 d4) ∧ Chg (fun i => i = gs) w wr2) (fun vz _ => N - (intOf vz).toNat)
      case atStart => exact ⟨20, d3, by omega, by omega, by go_num, hl3, HR3.out, HS3.out, HQ3.out, HC3.out⟩
      case round =>
        obtain ⟨z, d4, hz0, hz2, rfl, hl4, hR4, hS4, hQ4, hc4⟩ := hrel
        have HR4 := keepf hR4
        have HC4 := keepf hc4
        clear hR4 hc4
        by_cases hzN : z < N
        · have hzN' : (z : Int) < N := by omega
          obtain ⟨zz, hzz⟩ : ∃ zz, zz = 2 * z := ⟨_, rfl⟩
          have ezz : ((2 : Int) * z) = (zz : Int) := by omega
          have HZZ := keepf hzz
          clear hzz
          go_wp2_with fail
          go_loopw [7, 8] (fun va vb wr3 => ∃ A B : Nat, ∃ d5 : List Int, A ≤ N ∧ B ≤ 400000 ∧ va = .int .i64 A ∧ vb = .int .i64 B ∧ d5.length = N ∧ Row wr3 gs cap d5 ∧ Hid (B = A + zz) ∧ Hid (Same d d5 0 N) ∧ Hid (∃ c, A = c * zz) ∧ Hid (BlkS key d5 zz 0 A ∧ InTurn key0 d5) ∧ Hid (BlkS key d5 z A N) ∧ Chg (fun i => i = gs) w wr3) (fun va _ _ => N + 1 - (intOf va).toNat)
          case atStart => exact ⟨0, zz, d4, by omega, by have := HZZ.out; omega, by go_num, by go_num, hl4, HR4.out, (by show zz = _; omega), hS4.out, ⟨0, by omega⟩, ⟨fun p q _ _ h => absurd h (by omega), hQ4.out.2⟩, hQ4.out.1, HC4.out⟩
          case round =>
            obtain ⟨A2, B2, d5, hA2, hB2, rfl, rfl, hl5, hR5, hBB, hS5, hAc2, hP5, hQ5, hc5⟩ := hrel
            have HR5 := keepf hR5
            have HC5 := keepf hc5
            clear hR5 hc5
            obtain ⟨M2, hM2⟩ : ∃ M2, M2 = A2 + z := ⟨_, rfl⟩
            have eM2 : ((A2 : Int) + z) = (M2 : Int) := by omega
            have hs1 : Sorted key d5 A2 (min M2 N) := by
              obtain ⟨c, hc⟩ := hAc2.out
              have hz := HZZ.out
              exact hQ5.out.sorted (c := c * 2) (by rw [hc, hz, Nat.mul_assoc]) (Nat.le_refl _) (by omega) (by omega)
            have hs2 : ∀ b, b ≤ N → b ≤ M2 + z → Sorted key d5 M2 b := by
              intro b h1 h2
              obtain ⟨c, hc⟩ := hAc2.out
              have hz := HZZ.out
              exact hQ5.out.sorted (c := c * 2 + 1) (by rw [hM2, hc, hz, Nat.add_mul, Nat.mul_assoc, Nat.one_mul]) (by omega) h1 h2
            have HS1 := keepf hs1
            have HS2 := keepf hs2
            have HM2 := keepf hM2
            clear hs1 hs2 hM2
            by_cases hlt2 : B2 ≤ N
            · have HI2 := keepf (HSYM.out A2 M2 B2 d5 wr (by have := HM2.out; omega) (by have := HM2.out; have := hBB.out; have := HZZ.out; omega) hlt2 hl5 HR5.out (HG.out.same hS5.out) (by have h1 := HS1.out; rw [Nat.min_eq_left (by have := HM2.out; have := hBB.out; have := HZZ.out; omega)] at h1; exact h1) (HS2.out B2 hlt2 (by have := HM2.out; have := hBB.out; have := HZZ.out; omega)) hP5.out.2 (HCH.out.trans HC5.out (fun _ _ h => h)))
              have hlt2' : (B2 : Int) ≤ N := by omega
              go_wp2_with (go_at_call 172; refine HI2.out.mono ?_; rintro e w6 ⟨rfl, d6, hr6, hs6, hq6, hc6⟩; have HR6 := keepf hr6; have HS6 := keepf hs6; have HQ6 := keepf hq6; have HC6 := keepf hc6; clear hr6 hs6 hq6 hc6)
              go_roundw
              case rel =>
                have hz := HZZ.out
                have hbb := hBB.out
                refine ⟨B2, B2 + zz, d6, hlt2, by omega, rfl, by go_num, by rw [HS6.out.len]; exact hl5, HR6.out, rfl, hS5.out.trans (HS6.out.wide (Nat.zero_le _) hlt2), ?_, ?_, hQ5.out.rest (by omega) HS6.out, HC5.out.trans HC6.out (fun _ _ h => h)⟩
                · obtain ⟨c, hc⟩ := hAc2.out
                  exact ⟨c + 1, by rw [Nat.succ_mul, ← hc]; exact hbb⟩
                · obtain ⟨c, hc⟩ := hAc2.out
                  exact ⟨hP5.out.1.step hc (by omega) HS6.out HQ6.out.1, HQ6.out.2⟩
              case measure => simp [intOf]; have := hBB.out; have := HZZ.out; omega
            · have hlt2' : decide ((B2 : Int) ≤ N) = false := by simp; omega
              by_cases hm : M2 < N
              · have hm' : (M2 : Int) < N := by omega
                have HI2 := keepf (HSYM.out A2 M2 N d5 wr (by have := HM2.out; omega) hm (Nat.le_refl _) hl5 HR5.out (HG.out.same hS5.out) (by have h1 := HS1.out; rw [Nat.min_eq_left (by omega)] at h1; exact h1) (HS2.out N (Nat.le_refl _) (by have := HM2.out; have := hBB.out; have := HZZ.out; omega)) hP5.out.2 (HCH.out.trans HC5.out (fun _ _ h => h)))
                go_wp2_with (go_at_call 172; refine HI2.out.mono ?_; rintro e w6 ⟨rfl, d6, hr6, hs6, hq6, hc6⟩; have HR6 := keepf hr6; have HS6 := keepf hs6; have HQ6 := keepf hq6; have HC6 := keepf hc6; clear hr6 hs6 hq6 hc6)
                go_roundw
                case rel =>
                  have hz := HZZ.out
                  have hbb := hBB.out
                  refine ⟨zz, d6, by omega, by omega, by go_num, by rw [HS6.out.len]; exact hl5, HR6.out, hS5.out.trans (HS6.out.wide (Nat.zero_le _) (Nat.le_refl _)), ?_, HC5.out.trans HC6.out (fun _ _ h => h)⟩
                  obtain ⟨c, hc⟩ := hAc2.out
                  exact ⟨hP5.out.1.step hc (by omega) HS6.out HQ6.out.1, HQ6.out.2⟩
                case measure => simp [intOf]; have := HZZ.out; omega
              · have hm' : decide ((M2 : Int) < N) = false := by simp; omega
                go_wp2_with fail
                go_roundw
                case rel =>
                  have hz := HZZ.out
                  have hbb := hBB.out
                  refine ⟨zz, d5, by omega, by omega, by go_num, hl5, HR5.out, hS5.out, ?_, HC5.out⟩
                  obtain ⟨c, hc⟩ := hAc2.out
                  have h1 := HS1.out
                  rw [Nat.min_eq_right (by omega)] at h1
                  exact ⟨hP5.out.1.step hc (by omega) (Same.refl d5 A2 N) h1, hP5.out.2⟩
                case measure => simp [intOf]; have := HZZ.out; omega
        · go_wp2_with fail
          go_end0
          exact ⟨rfl, d4, HR4.out, hS4.out, hQ4.out.1.whole (by omega), HC4.out⟩
theorem sortStable_any (g : Nat) (lb : Array Value) (eg : ∀ args w, (callFunc g args).run Tryz.prog w = .ok (.enter g args) w) (key0 key : Int → Int) (NN : Int) (hkk : key = kk key0 NN) (gs cap : Nat) (w0 : World) (hcmp : CmpOf g lb key0 NN gs w0)
    (d : List Int) (w : World) (hL : d.length ≤ 100000) (hR : Row w gs cap d) (hG : Good NN d) (hst : InTurn key0 d) (hch : Chg (fun i => i = gs) w0 w) :
    Calls Tryz.prog 161 #[.slice (some ⟨gs, 0, none⟩) d.length cap, .func (.func g) #[] lb] w (SortTo w gs cap d 0 d.length (fun d' => Sorted key d' 0 d.length)) := by
  have HP := keepf (stable_any g lb eg key0 key NN hkk gs cap w0 hcmp d w hL hR hG hst hch)
  clear hR hG hch hst
  go_enter Tryz.func161, Tryz.ntmps161
  go_wp2_with (go_at_call 167; refine HP.out.mono ?_; rintro e w3 ⟨rfl, d3, hr3, hs3, hq3, hc3⟩; have HR3 := keepf hr3; have HS3 := keepf hs3; have HQ3 := keepf hq3; have HC3 := keepf hc3; clear hr3 hs3 hq3 hc3)
  go_end0
  exact ⟨rfl, d3, HR3.out, HS3.out, HQ3.out, HC3.out⟩
end Go.Proofs.YtmmilchmnimjoaaGreat
/- What mayCount, the comparison of counts and lesserFirst tell. -/
namespace Go.Proofs.YtmmilchmnimjoaaGreat
open Go.RowKit
set_option linter.unusedVariables false
set_option linter.unusedSimpArgs false
theorem isNaN_any (x : Int) (w : World) : Calls Tryz.prog 168 #[.int .i64 x] w fun e w' => e = .returned (.bool false) ∧ w = w' := by
  go_enter Tryz.func168, Tryz.ntmps168
  go_wp2
  go_ret
  exact ⟨by simp, rfl⟩
theorem compare_any (x y : Int) (w : World) : Calls Tryz.prog 163 #[.int .i64 x, .int .i64 y] w fun e w' => e = .returned (.int .i64 (cmpv x y)) ∧ w = w' := by
  by_cases h : x < y
  · have H : Hid (cmpv x y = -1) := by show cmpv x y = -1; rw [cmpv, if_pos h]
    have d1 : decide (x < y) = true := by simpa using h
    go_enter Tryz.func163, Tryz.ntmps163
    go_wp2_with (go_at_call 168; refine (isNaN_any _ _).mono ?_; rintro e w' ⟨rfl, rfl⟩)
    go_ret
    exact ⟨by rw [H.out]; rfl, rfl⟩
  · have d1 : decide (x < y) = false := by simpa using h
    by_cases h2 : y < x
    · have H : Hid (cmpv x y = 1) := by show cmpv x y = 1; rw [cmpv, if_neg h, if_pos h2]
      have d2 : decide (y < x) = true := by simpa using h2
      go_enter Tryz.func163, Tryz.ntmps163
      go_wp2_with (go_at_call 168; refine (isNaN_any _ _).mono ?_; rintro e w' ⟨rfl, rfl⟩)
      go_ret
      exact ⟨by rw [H.out]; rfl, rfl⟩
    · have H : Hid (cmpv x y = 0) := by show cmpv x y = 0; rw [cmpv, if_neg h, if_neg h2]
      have d2 : decide (y < x) = false := by simpa using h2
      go_enter Tryz.func163, Tryz.ntmps163
      go_wp2_with (go_at_call 168; refine (isNaN_any _ _).mono ?_; rintro e w' ⟨rfl, rfl⟩)
      go_ret
      exact ⟨by rw [H.out]; rfl, rfl⟩
def keyOf (cs : List Int) (x : Int) : Int := cs.getD x.toNat 0
set_option maxHeartbeats 1000000 in
theorem less_any (gb : Nat) (A : Option Addr) (c : Nat) (cs : List Int) (x y : Int) (w : World) (hb : w.cell? ⟨gb, 0, none⟩ = some (.slice A cs.length c)) (hS : Src w 1 A cs.length c (icells cs)) (hx0 : 0 ≤ x) (hx : x < cs.length) (hy0 : 0 ≤ y) (hy : y < cs.length) :
    Calls Tryz.prog 162 (#[.int .i64 x, .int .i64 y] ++ #[.pointer (some ⟨gb, 0, none⟩)]) w fun e w' => e = .returned (.int .i64 (cmpv (keyOf cs x) (keyOf cs y))) ∧ ∃ m, w' = w.drewN m := by
  obtain ⟨b, off, rfl, hcell⟩ := hS.plain (by rw [icells_len]; omega)
  obtain ⟨x, rfl⟩ := Int.eq_ofNat_of_zero_le hx0
  obtain ⟨y, rfl⟩ := Int.eq_ofNat_of_zero_le hy0
  have c1 := hcell x (.int .i64 (keyOf cs x)) (by simp [icells, keyOf, List.getD_eq_getElem?_getD, show x < cs.length by omega])
  have c2 := hcell y (.int .i64 (keyOf cs y)) (by simp [icells, keyOf, List.getD_eq_getElem?_getD, show y < cs.length by omega])
  obtain ⟨kx, hkx⟩ : ∃ kx, kx = keyOf cs x := ⟨_, rfl⟩
  obtain ⟨ky, hky⟩ : ∃ ky, ky = keyOf cs y := ⟨_, rfl⟩
  rw [← hkx] at c1 ⊢
  rw [← hky] at c2 ⊢
  clear hkx hky hcell hS
  show Calls Tryz.prog _ #[.int .i64 x, .int .i64 y, .pointer (some ⟨gb, 0, none⟩)] w _
  go_enter Tryz.func162, Tryz.ntmps162
  go_upto_region 1 with fail
  go_quiet ((go_at_call 163; exact quiet_left (compare_any kx ky _)))
  go_wp2_with fail
  go_ret
  exact ⟨rfl, nq, rfl⟩
def cntOk (cs : List Int) : Bool := decide (1 ≤ cs.length ∧ cs.length ≤ 320 ∧ ∀ z ∈ cs, 0 ≤ z ∧ z ≤ 2147483647)
theorem mayCount_any (cs : List Int) (A : Option Addr) (c : Nat) (w : World) (hL : cs.length ≤ 1000) (hS : Src w 1 A cs.length c (icells cs)) :
    Calls Tryz.prog 147 #[.slice A cs.length c] w fun e w' => e = .returned (.bool (cntOk cs)) ∧ w = w' := by
  have HS := keepf hS
  clear hS
  obtain ⟨n, hn⟩ : ∃ n, n = cs.length := ⟨_, rfl⟩
  have HN := keepf hn
  rw [← hn] at hL ⊢
  clear hn
  go_enter Tryz.func147, Tryz.ntmps147
  go_wp2_with fail
  go_loop [7] (fun i => ∃ k : Nat, k ≤ n ∧ i = .int .i64 k ∧ Hid (∀ z ∈ cs.take k, 0 ≤ z ∧ z ≤ 2147483647)) (fun i => n - (intOf i).toNat)
  case atStart => exact ⟨0, Nat.zero_le _, rfl, fun z hz => by simp at hz⟩
  case round =>
    obtain ⟨k, hk, rfl, hI⟩ := hrel
    by_cases hlt : k < n
    · obtain ⟨b, off, rfl, hcell⟩ := HS.out.plain (by rw [icells_len]; have := HN.out; omega)
      obtain ⟨z, hz⟩ : ∃ z, cs[k]? = some z := ⟨_, List.getElem?_eq_getElem (by have := HN.out; omega)⟩
      have hc := hcell k _ (icells_get hz)
      have HZ := keepf hz
      clear hcell hz
      have hno : ¬ (0 ≤ z ∧ z ≤ 2147483647) → cntOk cs = false := fun h => decide_eq_false (fun h2 => h (h2.2.2 z (List.mem_of_getElem? HZ.out)))
      have HNO := keepf hno
      clear hno
      by_cases h1 : z < 0
      · have d1 : decide (z < 0) = true := by simpa using h1
        go_wp2_with fail
        go_ret
        exact ⟨by rw [HNO.out (by omega)]; rfl, rfl⟩
      · have d1 : decide (z < 0) = false := by simpa using h1
        by_cases h2 : 2147483647 < z
        · have d2 : decide (2147483647 < z) = true := by simpa using h2
          go_wp2_with fail
          go_ret
          exact ⟨by rw [HNO.out (by omega)]; rfl, rfl⟩
        · have d2 : decide (2147483647 < z) = false := by simpa using h2
          go_wp2_with fail
          go_round
          case rel =>
            refine ⟨k + 1, by omega, by go_num, fun y hy => ?_⟩
            rw [take_snoc cs k z HZ.out] at hy
            rcases List.mem_append.1 hy with h3 | h3
            · exact hI.out y h3
            · simp at h3; omega
          case measure => simp [intOf]; omega
    · obtain rfl : n = k := by omega
      have hI2 : ∀ z ∈ cs, 0 ≤ z ∧ z ≤ 2147483647 := by have := hI.out; rwa [HN.out, List.take_length] at this
      by_cases h1 : 1 ≤ n
      · by_cases h2 : n ≤ 320
        · have H : Hid (cntOk cs = true) := decide_eq_true ⟨by rw [← HN.out]; exact h1, by rw [← HN.out]; exact h2, hI2⟩
          have d1 : (1 : Int) ≤ n := by omega
          have d2 : (n : Int) ≤ 320 := by omega
          clear hI2
          go_wp2_with fail
          go_ret
          exact ⟨by rw [H.out]; rfl, rfl⟩
        · have H : Hid (cntOk cs = false) := decide_eq_false (fun h => h2 (by rw [HN.out]; exact h.2.1))
          have d1 : (1 : Int) ≤ n := by omega
          have d2 : decide ((n : Int) ≤ 320) = false := by simp; omega
          clear hI2
          go_wp2_with fail
          go_ret
          exact ⟨by rw [H.out]; rfl, rfl⟩
      · have H : Hid (cntOk cs = false) := decide_eq_false (fun h => h1 (by rw [HN.out]; exact h.1))
        have d1 : decide ((1 : Int) ≤ n) = false := by simp; omega
        clear hI2
        go_wp2_with fail
        go_ret
        exact ⟨by rw [H.out]; rfl, rfl⟩
end Go.Proofs.YtmmilchmnimjoaaGreat
/- lesserFirst: the symbols of counts above 0, those of lesser counts first. -/
namespace Go.Proofs.YtmmilchmnimjoaaGreat
open Go.RowKit
set_option linter.unusedVariables false
set_option linter.unusedSimpArgs false
def usedTo (cs : List Int) : Nat → List Int
  | 0 => []
  | k + 1 => if 0 < cs.getD k 0 then usedTo cs k ++ [(k : Int)] else usedTo cs k
theorem usedTo_pos {cs : List Int} {k : Nat} {z : Int} (h : cs[k]? = some z) (hz : 0 < z) : usedTo cs (k + 1) = usedTo cs k ++ [(k : Int)] := by
  simp [usedTo, List.getD_eq_getElem?_getD, h, hz]
theorem usedTo_neg {cs : List Int} {k : Nat} {z : Int} (h : cs[k]? = some z) (hz : ¬ 0 < z) : usedTo cs (k + 1) = usedTo cs k := by
  simp [usedTo, List.getD_eq_getElem?_getD, h, hz]
theorem usedTo_len (cs : List Int) (k : Nat) : (usedTo cs k).length ≤ k := by
  induction k with
  | zero => simp [usedTo]
  | succ k ih => unfold usedTo; split <;> (try simp) <;> omega
theorem usedTo_mem (cs : List Int) (k : Nat) (x : Int) : x ∈ usedTo cs k ↔ 0 ≤ x ∧ x < k ∧ 0 < keyOf cs x := by
  induction k with
  | zero => simp [usedTo]; omega
  | succ k ih =>
    unfold usedTo
    split
    · rename_i h
      rw [List.mem_append, ih, List.mem_singleton]
      constructor
      · rintro (⟨h1, h2, h3⟩ | rfl)
        · exact ⟨h1, by omega, h3⟩
        · exact ⟨by omega, by omega, by simpa [keyOf] using h⟩
      · rintro ⟨h1, h2, h3⟩
        by_cases h4 : x = k
        · exact .inr h4
        · exact .inl ⟨h1, by omega, h3⟩
    · rename_i h
      rw [ih]
      constructor
      · rintro ⟨h1, h2, h3⟩; exact ⟨h1, by omega, h3⟩
      · rintro ⟨h1, h2, h3⟩
        refine ⟨h1, ?_, h3⟩
        by_cases h4 : x = k
        · subst h4; exact absurd (by simpa [keyOf] using h3) h
        · omega
theorem usedTo_nodup (cs : List Int) (k : Nat) : (usedTo cs k).Nodup := by
  induction k with
  | zero => simp [usedTo]
  | succ k ih =>
    unfold usedTo
    split
    · rw [List.nodup_append]
      refine ⟨ih, by simp, fun a ha b hb => ?_⟩
      rw [List.mem_singleton] at hb
      subst hb
      have := ((usedTo_mem cs k a).1 ha).2.1
      omega
    · exact ih
theorem usedTo_up (cs : List Int) : ∀ (k p q : Nat), p < q → q < (usedTo cs k).length → (usedTo cs k).getD p 0 ≤ (usedTo cs k).getD q 0 := by
  intro k
  induction k with
  | zero => intro p q _ h; simp [usedTo] at h
  | succ k ih =>
    intro p q hpq hq
    by_cases h0 : 0 < cs.getD k 0
    · have e : usedTo cs (k + 1) = usedTo cs k ++ [(k : Int)] := by rw [usedTo, if_pos h0]
      rw [e] at hq ⊢
      simp only [List.length_append, List.length_singleton] at hq
      by_cases h1 : q < (usedTo cs k).length
      · have h2 := ih p q hpq h1
        rw [List.getD_eq_getElem?_getD, List.getD_eq_getElem?_getD, List.getElem?_append_left (by omega), List.getElem?_append_left h1]
        rw [List.getD_eq_getElem?_getD, List.getD_eq_getElem?_getD] at h2
        exact h2
      · have h2 : q = (usedTo cs k).length := by omega
        have h3 : p < (usedTo cs k).length := by omega
        have h4 := ((usedTo_mem cs k _).1 (List.getElem_mem h3)).2.1
        rw [List.getD_eq_getElem?_getD, List.getD_eq_getElem?_getD, List.getElem?_append_left h3, List.getElem?_append_right (by omega), h2, Nat.sub_self, List.getElem?_eq_getElem h3]
        simpa using Int.le_of_lt h4
    · have e : usedTo cs (k + 1) = usedTo cs k := by rw [usedTo, if_neg h0]
      rw [e] at hq ⊢
      exact ih p q hpq hq
structure UsedIs (cs d : List Int) : Prop where
  perm : d.Perm (usedTo cs cs.length)
  sorted : Sorted (keyOf cs) d 0 d.length
  fix : Sorted (kk (keyOf cs) cs.length) d 0 d.length
theorem UsedIs.one {cs d d' : List Int} (h : UsedIs cs d) (h' : UsedIs cs d') : d = d' := by
  have hp : ∀ {e : List Int}, UsedIs cs e → e.Pairwise (fun x y => kk (keyOf cs) cs.length x ≤ kk (keyOf cs) cs.length y) := fun {e} he => by
    refine List.pairwise_iff_getElem.2 (fun i j hi hj hij => ?_)
    have h1 := he.fix i j (Nat.zero_le _) hij hj
    simpa [List.getD_eq_getElem?_getD, hi, hj] using h1
  have hin : ∀ {e : List Int}, UsedIs cs e → ∀ x ∈ e, 0 ≤ x ∧ x < (cs.length : Int) := fun {e} he x hx => by
    have h1 := (usedTo_mem cs cs.length x).1 (he.perm.mem_iff.1 hx)
    exact ⟨h1.1, h1.2.1⟩
  refine List.Perm.eq_of_pairwise (le := fun x y => kk (keyOf cs) cs.length x ≤ kk (keyOf cs) cs.length y) (fun a b ha hb h1 h2 => ?_) (hp h) (hp h') (h.perm.trans h'.perm.symm)
  have k1 := kk_le (hin h a ha) (hin h' b hb) h1
  have k2 := kk_le (hin h' b hb) (hin h a ha) h2
  have e : keyOf cs a = keyOf cs b := by omega
  have := k1.2 e
  have := k2.2 e.symm
  omega
def FirstTo (w : World) (cs : List Int) (e : Ending) (w' : World) : Prop :=
  ∃ A c d, e = .returned (.slice A d.length c) ∧ w'.ownsRow 0 3 1 (.slice A d.length c) d.length (icells d) ∧ UsedIs cs d ∧ Chg NoS w w' ∧ ∀ a, A = some a → w.heap.size ≤ a.block
theorem icells_snoc (ls : List Int) (z : Int) : icells (ls ++ [z]) = icells ls ++ [.int .i64 z] := by simp [icells]
theorem srcOneAt {w : World} {u : Value} {t : TypeId} {n : Nat} (h : n = w.heap.size) : Src (w.alloc (.cells #[u] t)) 1 (some ⟨n, 0, none⟩) 1 1 [u] := by
  subst h
  refine ⟨rfl, fun h => (by cases h), fun ad e j x hx => ?_⟩
  injection e with e
  subst e
  rcases j with _ | j
  · simp at hx; subst hx; exact (Blk.new w t #[u]).cell 0
  · simp at hx
theorem ins_nil (f : Value) (w : World) : Calls Tryz.prog 171 #[.slice none 0 0, .int .i64 0, .int .i64 0, f] w fun e w' => e = .returned (.tuple #[]) ∧ w = w' := by
  go_enter Tryz.func171, Tryz.ntmps171
  go_wp2_with fail
  go_loop [8] (fun v => v = .int .i64 1) (fun v => 0)
  case atStart => rfl
  case round =>
    subst hrel
    go_wp2_with fail
    go_end0
    exact ⟨rfl, rfl⟩
theorem stable_nil (f : Value) (w : World) : Calls Tryz.prog 167 #[.slice none 0 0, .int .i64 0, f] w fun e w' => e = .returned (.tuple #[]) ∧ w = w' := by
  go_enter Tryz.func167, Tryz.ntmps167
  go_wp2_with fail
  go_loop [7, 8] (fun va vb => va = .int .i64 0 ∧ vb = .int .i64 20) (fun va vb => 0)
  case atStart => exact ⟨rfl, rfl⟩
  case round =>
    obtain ⟨rfl, rfl⟩ := hrel
    go_wp2_with (go_at_call 171; refine (ins_nil _ _).mono ?_; rintro e w' ⟨rfl, rfl⟩)
    go_loop [6, 7, 8] (fun vc va vb => vc = .int .i64 20) (fun vc va vb => 0)
    case atStart => rfl
    case round =>
      subst hrel
      go_wp2_with fail
      go_end0
      exact ⟨rfl, rfl⟩
theorem sortStable_nil (f : Value) (w : World) : Calls Tryz.prog 161 #[.slice none 0 0, f] w fun e w' => e = .returned (.tuple #[]) ∧ w = w' := by
  go_enter Tryz.func161, Tryz.ntmps161
  go_wp2_with (go_at_call 167; refine (stable_nil _ _).mono ?_; rintro e w' ⟨rfl, rfl⟩)
  go_end0
  exact ⟨rfl, rfl⟩
set_option maxHeartbeats 4000000 in
set_option maxRecDepth 100000 in
theorem first_any (cs : List Int) (A : Option Addr) (c : Nat) (w : World) (h0 : 1 ≤ cs.length) (hL : cs.length ≤ 1000) (hS : Src w 1 A cs.length c (icells cs)) :
    Calls Tryz.prog 148 #[.slice A cs.length c] w (FirstTo w cs) := by
  obtain ⟨b, off, rfl, hcell⟩ := hS.plain (by rw [icells_len]; omega)
  have hlow : b < w.heap.size := by
    have h1 := hcell 0 _ (icells_get (List.getElem?_eq_getElem (by omega)))
    exact cell_lt h1
  have HS := keepf hS
  have HC := keepf hcell
  have HB := keepf (Blk.new w 63 #[.slice (some ⟨b, off, none⟩) cs.length c])
  obtain ⟨n, hn⟩ : ∃ n, n = cs.length := ⟨_, rfl⟩
  have HN := keepf hn
  rw [← hn] at HB hL h0 ⊢
  clear hn hS hcell
  have eg : Hid (∀ args w, (callFunc 162 args).run Tryz.prog w = .ok (.enter 162 args) w) := enters_of Tryz.func162 (by kernel_rfl) rfl
  obtain ⟨i0, hi, hz0, hz1, hz2⟩ := info_parts info_int
  have b0 := HB.out.cell 0
  simp at b0
  go_enter Tryz.func148, Tryz.ntmps148
  go_wp2_with fail
  go_loopw [3, 8] (fun va vb wr => ∃ k : Nat, ∃ A2 : Option Addr, ∃ c2 : Nat, k ≤ n ∧ vb = .int .i64 k ∧ va = .slice A2 (usedTo cs k).length c2 ∧ Hid (wr.ownsRow 0 3 1 (.slice A2 (usedTo cs k).length c2) (usedTo cs k).length (icells (usedTo cs k))) ∧ Hid (Blk wr w.heap.size 63 #[.slice (some ⟨b, off, none⟩) n c]) ∧ Hid (Chg NoS w wr) ∧ Hid (∀ a, A2 = some a → w.heap.size < a.block)) (fun _ vb _ => n - (intOf vb).toNat)
  case atStart => exact ⟨0, none, 0, Nat.zero_le _, rfl, rfl, own_nil _ _ _ _, HB.out, (Chg.refl _ _).alloc _, fun a h => by cases h⟩
  case round =>
    obtain ⟨k, A2, c2, hk, rfl, rfl, HO, HB1, HC1, HF⟩ := hrel
    have c0 := HB1.out.cell 0
    simp at c0
    by_cases hlt : k < n
    · obtain ⟨z, hz⟩ : ∃ z, cs[k]? = some z := ⟨_, List.getElem?_eq_getElem (by have := HN.out; omega)⟩
      have hc := (HC1.out.cell (p := ⟨b, off + k, none⟩) (by exact cell_lt (HC.out k _ (icells_get hz))) (fun h => h)).trans (HC.out k _ (icells_get hz))
      have HZ := keepf hz
      clear hz
      by_cases h1 : 0 < z
      · have d1 : decide (0 < z) = true := by simpa using h1
        have hul := keepf (usedTo_len cs k)
        have hnk := keepf (own_ne_blk HO.out HB1.out (by decide))
        go_wp2_with (first
          | (at_builtin; go_loud (refine wpList_append_src rfl (.tmp 15) (.tmp 17) 63 rfl 3 i0 (.int .i64 0) 1 8 Tryz.underlying63 hi hz0 hz1 hz2 rfl (by decide) (.slice A2 (usedTo cs k).length c2) _ _ rfl (own_chg (S := NoS) HO.out ((Chg.refl _ _).alloc _) (fun _ _ h => h)) _ _ _ [.int .i64 k] rfl (srcOneAt (by simp)) (by simp [Value.oneCell']) (by have := hul.out; unfold maxLen; omega) (by have := hul.out; omega) ?_); intro S2 w2 hown2 hgr hat; obtain ⟨A3, c3, rfl, hA3⟩ := own_slice hown2; have HB2 := keepf (HB1.out.alloc (.cells #[.int .i64 k] 3) |>.grown hgr (fun e => hnk.out e.symm)); have HG2 := keepf hgr; have HO2 := keepf hown2; have HA2 := keepf hat; clear hgr hown2 hat hA3))
        go_roundw
        case rel =>
          refine ⟨k + 1, A3, c3, by omega, by go_num, ?_, ?_, HB2.out, (HC1.out.alloc _).grown HG2.out ?_, ?_⟩
          · rw [usedTo_pos HZ.out h1]; simp
          · have h2 := HO2.out
            rw [usedTo_pos HZ.out h1, icells_snoc]
            exact keepf (by simpa using h2)
          · intro i hi hlt2
            rcases A2 with _ | a2
            · simp [Value.ownBlock] at hi
            · have h3 := HF.out a2 rfl
              simp [Value.ownBlock] at hi
              omega
          · rintro a rfl
            have hs := HC1.out.size
            rcases HA2.out with h3 | h3
            · rcases A2 with _ | a2
              · simp [Value.ownBlock] at h3
              · have h4 := HF.out a2 rfl
                simp [Value.ownBlock] at h3
                omega
            · have h4 := HB1.out.lt
              simp [Value.ownBlock] at h3
              omega
        case measure => simp [intOf]; omega
      · have d1 : decide (0 < z) = false := by simpa using h1
        go_wp2_with fail
        go_roundw
        case rel => exact ⟨k + 1, A2, c2, by omega, by go_num, by rw [usedTo_neg HZ.out h1], by rw [usedTo_neg HZ.out h1]; exact HO.out, HB1.out, HC1.out, HF.out⟩
        case measure => simp [intOf]; omega
    · obtain rfl : n = k := by omega
      obtain ⟨d, hd⟩ : ∃ d, d = usedTo cs n := ⟨_, rfl⟩
      rw [← hd] at HO ⊢
      have hul := usedTo_len cs n
      rw [← hd] at hul
      have hgood : Good n d := fun x hx => by
        rw [hd] at hx
        have h1 := (usedTo_mem cs n x).1 hx
        exact ⟨h1.1, h1.2.1⟩
      have HD := keepf hd
      have HGO := keepf hgood
      have HST := keepf (show InTurn (keyOf cs) d by rw [hd]; exact fun p q h1 h2 _ => usedTo_up cs n p q h1 h2)
      clear hd hgood
      have hnk := keepf (own_ne_blk HO.out HB1.out (by decide))
      rcases A2 with _ | ad
      · have hd0 : d = [] := by
          have h1 := HO.out.2
          rcases h1 with ⟨_, h2⟩ | ⟨g', cap, cur, hv, _⟩
          · exact List.eq_nil_of_length_eq_zero h2
          · cases hv
        subst hd0
        obtain ⟨rfl⟩ : c2 = 0 := by
          have h1 := HO.out.2
          rcases h1 with ⟨h3, h2⟩ | ⟨g', cap, cur, hv, _⟩
          · injection h3
          · cases hv
        go_wp2_with (go_at_call 161; refine (sortStable_nil _ _).mono ?_; rintro e w' ⟨rfl, rfl⟩)
        go_ret
        exact ⟨none, 0, [], rfl, own_nil _ _ _ _, ⟨by rw [← HN.out, ← HD.out], fun i j h1 h2 h3 => absurd h3 (by simp), fun i j h1 h2 h3 => absurd h3 (by simp)⟩, HC1.out, fun a h => by cases h⟩
      · obtain ⟨gs, rfl⟩ : ∃ gs, ad = ⟨gs, 0, none⟩ := by
          have h1 := HO.out.2
          rcases h1 with ⟨h3, h2⟩ | ⟨g', cap, cur, hv, _⟩
          · injection h3 with h3; cases h3
          · injection hv with hv; injection hv with hv; exact ⟨g', hv⟩
        have hgs : w.heap.size < gs := HF.out _ rfl
        have hrow : Row wr gs c2 d := HO.out
        have hcmp : CmpOf 162 #[.pointer (some ⟨w.heap.size, 0, none⟩)] (keyOf cs) n gs wr := by
          intro x y W hx0 hx hy0 hy hW
          have h1 : W.cell? ⟨w.heap.size, 0, none⟩ = some (.slice (some ⟨b, off, none⟩) n c) := (HB1.out.chg hW (by omega)).cell 0
          have h2 : Src W 1 (some ⟨b, off, none⟩) cs.length c (icells cs) := (HS.out.below (w0 := w) HC1.out).chg hW (by rintro a h3 _; injection h3 with h3; subst h3; show ¬ b = gs; omega) (by simp [icells])
          rw [HN.out] at h1 hx hy
          exact less_any _ _ c cs x y W h1 h2 hx0 hx hy0 hy
        have HP := keepf (sortStable_any _ _ eg.out (keyOf cs) (kk (keyOf cs) n) n rfl gs c2 wr hcmp d wr (by omega) hrow HGO.out HST.out (Chg.refl _ _))
        clear hrow hcmp
        go_wp2_with (go_at_call 161; refine HP.out.mono ?_; rintro e w3 ⟨rfl, d3, hr3, hs3, hq3, hc3⟩; have HR3 := keepf hr3; have HS3 := keepf hs3; have HQ3 := keepf hq3; have HC3 := keepf hc3; clear hr3 hs3 hq3 hc3)
        go_ret
        have hl := HS3.out.len
        refine ⟨some ⟨gs, 0, none⟩, c2, d3, ?_, HR3.out, ⟨?_, ?_, ?_⟩, HC1.out.trans HC3.out (fun i h1 h2 => by omega), ?_⟩
        · simp [hl]
        · rw [← HN.out, ← HD.out]; exact HS3.out.perm
        · rw [hl]; exact fun i j h1 h2 h3 => (kk_le (N := (n : Int)) ((HGO.out.same HS3.out).get i (by omega)) ((HGO.out.same HS3.out).get j (by omega)) (HQ3.out i j h1 h2 h3)).1
        · rw [hl, ← HN.out]; exact HQ3.out
        · rintro a h; injection h with h; subst h; exact Nat.le_of_lt hgs
end Go.Proofs.YtmmilchmnimjoaaGreat
/- Rows of nodes: Grow and Concat of the library at them. -/
namespace Go.Proofs.YtmmilchmnimjoaaGreat
open Go.RowKit
set_option linter.unusedVariables false
set_option linter.unusedSimpArgs false
theorem info_node : (Tryz.prog.info? 225).map (fun i => (i.zero, i.size, i.bytes)) = some (some (.agg #[.int .i64 0, .bool false]), 2, 16) := by kernel_rfl
abbrev Nd := Int × Bool
def encN (x : Nd) : List Value := [.int .i64 x.1, .bool x.2]
def ncells (L : List Nd) : List Value := L.flatMap encN
theorem ncells_len (L : List Nd) : (ncells L).length = L.length * 2 := flat_len encN 2 (fun _ => rfl) L
theorem ncells_one (L : List Nd) : ∀ u ∈ ncells L, u.oneCell' = true := by
  intro u hu
  obtain ⟨x, _, hx⟩ := List.mem_flatMap.1 hu
  simp only [encN, List.mem_cons, List.not_mem_nil, or_false] at hx
  rcases hx with rfl | rfl <;> rfl
theorem ncells_app (L M : List Nd) : ncells (L ++ M) = ncells L ++ ncells M := by simp [ncells]
theorem ncells_w {L : List Nd} {k : Nat} {x : Nd} (h : L[k]? = some x) : (ncells L)[k * 2]? = some (.int .i64 x.1) := (flat_get encN 2 (fun _ => rfl) L k 0 x h (by omega)).trans rfl
theorem ncells_p {L : List Nd} {k : Nat} {x : Nd} (h : L[k]? = some x) : (ncells L)[k * 2 + 1]? = some (.bool x.2) := (flat_get encN 2 (fun _ => rfl) L k 1 x h (by omega)).trans rfl
abbrev OwnN (w : World) (A : Option Addr) (c : Nat) (L : List Nd) : Prop := w.ownsRow 0 225 2 (.slice A L.length c) L.length (ncells L)
def NewN (w : World) (L : List Nd) (e : Ending) (w' : World) : Prop :=
  ∃ A c, e = .returned (.slice A L.length c) ∧ OwnN w' A c L ∧ Chg NoS w w' ∧ ∀ a, A = some a → w.heap.size ≤ a.block
theorem grow_any (n : Nat) (w : World) (hn : n ≤ 100000) : Calls Tryz.prog 173 #[.slice none 0 0, .int .i64 n] w (NewN w []) := by
  obtain ⟨i0, hi, hz0, hz1, hz2⟩ := info_parts info_node
  rcases Nat.eq_zero_or_pos n with rfl | h0
  · go_enter Tryz.func173, Tryz.ntmps173
    go_wp2_with fail
    go_ret
    exact ⟨none, 0, rfl, own_nil _ _ _ _, Chg.refl _ _, fun a h => by cases h⟩
  · obtain ⟨cc, hcc⟩ : ∃ cc, cc = grownCap w n 0 225 := ⟨_, rfl⟩
    have hc1 : n ≤ cc := hcc ▸ grownCap_ge _ _ _ _
    have hc2 : cc ≤ maxLen := hcc ▸ grownCap_le_maxLen _ _ _ _ (by unfold maxLen; omega)
    have hrun := fun ty => Go.Lib.run_append_nil_zeros (P := Tryz.prog) w 223 3 ty 225 i0 _ .i64 .i64 Tryz.underlying223 Tryz.underlying3 hi hz0 n h0 (by rw [hz1]; omega) (by omega) (by rw [hz2]; omega)
    rw [← hcc] at hrun
    have HR := keepf hrun
    have HC2 := keepf hc2
    clear hrun hcc hc2
    have d1 : decide ((n : Int) < 0) = false := by simp
    have d2 : decide (0 < (n : Int)) = true := by simp; omega
    go_enter Tryz.func173, Tryz.ntmps173
    go_wp2_with (first
      | (at_builtin; go_loud (refine Go.Lib.wpList_append_run _ rfl (.tmp 20) (.tmp 21) 223 3 rfl _ _ rfl rfl _ _ (HR.out _) ?_)))
    go_ret
    refine ⟨some ⟨w.heap.size, 0, none⟩, cc, rfl, ⟨rfl, .inr ⟨w.heap.size, cc, _, rfl, Nat.zero_le _, heap_alloc_new w.drew _, Nat.zero_le _, HC2.out, ?_, rfl⟩⟩, ((Chg.refl _ w).drew).alloc _, ?_⟩
    · rw [Array.size_append, size_zeroCells, size_zeroCells]
      show n * 2 + (cc - n) * 2 = cc * 2
      omega
    · rintro a h; injection h with h; subst h; exact Nat.le_refl _
theorem take_more {α : Type} (L : List α) (k : Nat) (x : α) (h : L[k]? = some x) : L.take (k + 1) = L.take k ++ [x] := by
  rw [List.take_add_one, h]
  rfl
abbrev Sl := Option Addr × Nat × List Nd
def slv (x : Sl) : Value := .slice x.1 x.2.2.length x.2.1
def allOf (Xs : List Sl) : List Nd := Xs.flatMap (·.2.2)
theorem allOf_take (Xs : List Sl) (k : Nat) : (allOf (Xs.take k)).length ≤ (allOf Xs).length := by
  have h : allOf (Xs.take k) ++ allOf (Xs.drop k) = allOf Xs := by unfold allOf; rw [← List.flatMap_append, List.take_append_drop]
  have h2 := congrArg List.length h
  rw [List.length_append] at h2
  omega
theorem allOf_snoc (Xs : List Sl) (x : Sl) : allOf (Xs ++ [x]) = allOf Xs ++ x.2.2 := by simp [allOf]
set_option maxHeartbeats 1000000 in
theorem concat_any (Xs : List Sl) (A : Option Addr) (c : Nat) (w : World) (hX : Xs.length ≤ 100) (h0 : 0 < Xs.length) (hT : (allOf Xs).length ≤ 100000) (hS : Src w 1 A Xs.length c (Xs.map slv)) (hall : ∀ x ∈ Xs, Src w 2 x.1 x.2.2.length x.2.1 (ncells x.2.2)) :
    Calls Tryz.prog 170 #[.slice A Xs.length c] w (NewN w (allOf Xs)) := by
  obtain ⟨i0, hi, hz0, hz1, hz2⟩ := info_parts info_node
  obtain ⟨b, off, rfl, hcell⟩ := hS.plain (by simpa using h0)
  have HC := keepf hcell
  have HALL := keepf hall
  have HT := keepf hT
  obtain ⟨n, hn⟩ : ∃ n, n = Xs.length := ⟨_, rfl⟩
  have HN := keepf hn
  rw [← hn] at hX ⊢
  have hle : Hid (∀ k, (allOf (Xs.take k)).length ≤ 100000) := fun k => Nat.le_trans (allOf_take Xs k) hT
  have HTK : Hid (Xs.take n = Xs) := by show _ = _; rw [hn, List.take_length]
  clear hn hS hcell hall h0 hT
  go_enter Tryz.func170, Tryz.ntmps170
  go_wp2_with fail
  go_loop [3, 11] (fun v i => ∃ k : Nat, k ≤ n ∧ i = .int .i64 k ∧ v = .int .i64 (allOf (Xs.take k)).length) (fun _ i => n - (intOf i).toNat)
  case atStart => exact ⟨0, Nat.zero_le _, rfl, by simp [allOf]⟩
  case round =>
    obtain ⟨k, hk, rfl, rfl⟩ := hrel
    by_cases hlt : k < n
    · obtain ⟨x, hx⟩ : ∃ x, Xs[k]? = some x := ⟨_, List.getElem?_eq_getElem (by have := HN.out; omega)⟩
      have hc := HC.out k (slv x) (by simp [hx])
      unfold slv at hc
      have e1 := hle.out (k + 1)
      rw [take_more Xs k x hx, allOf_snoc, List.length_append] at e1
      obtain ⟨s, hs⟩ : ∃ s, s = (allOf (Xs.take k)).length := ⟨_, rfl⟩
      obtain ⟨m, hm⟩ : ∃ m, m = x.2.2.length := ⟨_, rfl⟩
      have e2 : (allOf (Xs.take (k + 1))).length = s + m := by rw [take_more Xs k x hx, allOf_snoc, List.length_append, hs, hm]
      rw [← hs] at e1 ⊢
      rw [← hm] at e1 hc
      have E2 := keepf e2
      clear hs hm e2
      have d1 : decide ((s : Int) + m < 0) = false := by simp; omega
      go_wp2_with fail
      go_round
      case rel => exact ⟨k + 1, by omega, by go_num, by rw [E2.out]; go_num⟩
      case measure => simp [intOf]; omega
    · obtain rfl : n = k := by omega
      rw [HTK.out]
      obtain ⟨s, hs⟩ : ∃ s, s = (allOf Xs).length := ⟨_, rfl⟩
      have HSS := keepf hs
      rw [← hs]
      have hsl : s ≤ 100000 := by have := HT.out; omega
      clear hs
      go_wp2_with (go_at_call 173; refine (grow_any s _ hsl).mono ?_; rintro e w3 ⟨A3, c3, rfl, ho3, hc3, hf3⟩; have HO3 := keepf ho3; have HC3 := keepf hc3; have HF3 := keepf hf3; clear ho3 hc3 hf3)
      go_loopw [6, 27] (fun va vb wr => ∃ k : Nat, ∃ A2 : Option Addr, ∃ c2 : Nat, k ≤ n ∧ vb = .int .i64 k ∧ va = .slice A2 (allOf (Xs.take k)).length c2 ∧ Hid (OwnN wr A2 c2 (allOf (Xs.take k))) ∧ Hid (Chg NoS w wr) ∧ Hid (∀ a, A2 = some a → w.heap.size ≤ a.block)) (fun _ vb _ => n - (intOf vb).toNat)
      case atStart => exact ⟨0, A3, c3, Nat.zero_le _, rfl, by simp [allOf], keepf (by simpa [allOf] using HO3.out), HC3.out, HF3.out⟩
      case round =>
        obtain ⟨k, A2, c2, hk, rfl, rfl, HO, HC1, HF⟩ := hrel
        by_cases hlt : k < n
        · obtain ⟨x, hx⟩ : ∃ x, Xs[k]? = some x := ⟨_, List.getElem?_eq_getElem (by have := HN.out; omega)⟩
          have hc := (HC1.out.cell (p := ⟨b, off + k, none⟩) (by exact cell_lt (HC.out k (slv x) (by simp [hx]))) (fun h => h)).trans (HC.out k (slv x) (by simp [hx]))
          unfold slv at hc
          have HX := keepf (take_more Xs k x hx)
          have HSx := keepf ((HALL.out x (List.mem_of_getElem? hx)).below (w0 := w) HC1.out)
          have hlen := hle.out (k + 1)
          rw [HX.out, allOf_snoc, List.length_append] at hlen
          have HLN := keepf hlen
          obtain ⟨xa, xc, xl⟩ := x
          clear hlen hx
          go_wp2_with (first
            | (at_builtin; go_loud (refine wpList_append_src rfl (.tmp 31) (.tmp 32) 223 rfl 225 i0 (.agg #[.int .i64 0, .bool false]) 2 16 Tryz.underlying223 hi hz0 hz1 hz2 rfl (by decide) (.slice A2 (allOf (Xs.take k)).length c2) _ _ rfl HO.out _ _ _ (ncells xl) rfl HSx.out (ncells_one _) (by have := HLN.out; unfold maxLen; simp at this; omega) (by have := HLN.out; simp at this; omega) ?_); intro S2 w2 hown2 hgr hat; obtain ⟨A4, c4, rfl, hA4⟩ := own_slice hown2; have HG2 := keepf hgr; have HO2 := keepf hown2; have HA2 := keepf hat; clear hgr hown2 hat hA4))
          go_roundw
          case rel =>
            refine ⟨k + 1, A4, c4, by omega, by go_num, ?_, ?_, HC1.out.grown HG2.out ?_, ?_⟩
            · rw [HX.out, allOf_snoc]; simp
            · have h2 := HO2.out
              rw [HX.out, allOf_snoc]
              show w2.ownsRow _ _ _ _ _ (ncells _)
              rw [ncells_app, List.length_append]
              exact h2
            · intro i hi hlt2
              rcases A2 with _ | a2
              · simp [Value.ownBlock] at hi
              · have h3 := HF.out a2 rfl
                simp [Value.ownBlock] at hi
                omega
            · rintro a rfl
              have hs := HC1.out.size
              rcases HA2.out with h3 | h3
              · rcases A2 with _ | a2
                · simp [Value.ownBlock] at h3
                · have h4 := HF.out a2 rfl
                  simp [Value.ownBlock] at h3
                  omega
              · simp [Value.ownBlock] at h3
                omega
          case measure => simp [intOf]; omega
        · obtain rfl : n = k := by omega
          rw [HTK.out] at HO ⊢
          go_wp2_with fail
          go_ret
          exact ⟨A2, c2, rfl, HO.out, HC1.out, HF.out⟩
end Go.Proofs.YtmmilchmnimjoaaGreat
/- pairs: the nodes of a level, two by two. -/
namespace Go.Proofs.YtmmilchmnimjoaaGreat
open Go.RowKit
set_option linter.unusedVariables false
set_option linter.unusedSimpArgs false
def pairsTo (L : List Nd) : Nat → List Nd
  | 0 => []
  | j + 1 => pairsTo L j ++ [((L.getD (2 * j) (0, false)).1 + (L.getD (2 * j + 1) (0, false)).1, true)]
def pairsOf (L : List Nd) : List Nd := pairsTo L (L.length / 2)
theorem pairsTo_len (L : List Nd) (j : Nat) : (pairsTo L j).length = j := by
  induction j with
  | zero => rfl
  | succ j ih => simp [pairsTo, ih]
set_option maxHeartbeats 1000000 in
set_option maxRecDepth 100000 in
theorem pairs_any (L : List Nd) (A : Option Addr) (c : Nat) (w : World) (hL : L.length ≤ 100000) (hb : ∀ x ∈ L, 0 ≤ x.1 ∧ x.1 ≤ 1152921504606846976) (hS : Src w 2 A L.length c (ncells L)) :
    Calls Tryz.prog 166 #[.slice A L.length c] w (NewN w (pairsOf L)) := by
  obtain ⟨i0, hi, hz0, hz1, hz2⟩ := info_parts info_node
  have HS := keepf hS
  have HB := keepf hb
  obtain ⟨n, hn⟩ : ∃ n, n = L.length := ⟨_, rfl⟩
  have HN := keepf hn
  rw [← hn] at hL ⊢
  clear hn hS hb
  go_enter Tryz.func166, Tryz.ntmps166
  go_wp2_with fail
  go_loopw [3, 4] (fun va vb wr => ∃ j : Nat, ∃ A2 : Option Addr, ∃ c2 : Nat, 2 * j ≤ n ∧ vb = .int .i64 (2 * j + 1 : Nat) ∧ va = .slice A2 j c2 ∧ Hid (wr.ownsRow 0 225 2 (.slice A2 j c2) j (ncells (pairsTo L j))) ∧ Hid (Chg NoS w wr) ∧ Hid (∀ a, A2 = some a → w.heap.size ≤ a.block)) (fun _ vb _ => n + 2 - (intOf vb).toNat)
  case atStart => exact ⟨0, none, 0, Nat.zero_le _, rfl, rfl, own_nil _ _ _ _, Chg.refl _ _, fun a h => by cases h⟩
  case round =>
    obtain ⟨j, A2, c2, hj, rfl, rfl, HO, HC1, HF⟩ := hrel
    obtain ⟨p, hp⟩ : ∃ p, p = 2 * j := ⟨_, rfl⟩
    have HP := keepf hp
    rw [← hp] at hj ⊢
    by_cases hlt : p + 1 < n
    · obtain ⟨b, off, rfl, hcell⟩ := HS.out.plain (by rw [ncells_len, ← HN.out]; omega)
      obtain ⟨x, hx⟩ : ∃ x, L[p]? = some x := ⟨_, List.getElem?_eq_getElem (by have := HN.out; omega)⟩
      obtain ⟨y, hy⟩ : ∃ y, L[p + 1]? = some y := ⟨_, List.getElem?_eq_getElem (by have := HN.out; omega)⟩
      have hx1 := HB.out x (List.mem_of_getElem? hx)
      have hy1 := HB.out y (List.mem_of_getElem? hy)
      have hc1 := (HC1.out.cell (p := ⟨b, off + p * 2, none⟩) (by exact cell_lt (hcell _ _ (ncells_w hx))) (fun h => h)).trans (hcell _ _ (ncells_w hx))
      have hc2 := (HC1.out.cell (p := ⟨b, off + (p + 1) * 2, none⟩) (by exact cell_lt (hcell _ _ (ncells_w hy))) (fun h => h)).trans (hcell _ _ (ncells_w hy))
      have HX := keepf hx
      have HY := keepf hy
      have hs : IntKind.i64.wrap (x.1 + y.1) = x.1 + y.1 := by rw [IntKind.wrap_i64]; omega
      obtain ⟨x, xb⟩ := x
      obtain ⟨y, yb⟩ := y
      simp only at hc1 hc2 hx1 hy1 hs
      have hw : IntKind.i64.wrap (p : Int) = p := by rw [IntKind.wrap_i64]; omega
      have i1 : (0 : Int) ≤ (p : Int) + 1 := by omega
      have i2 : (p : Int) + 1 < n := by omega
      have i3 : ((p : Int) + 1).toNat = p + 1 := by omega
      have i4 : (p : Int) < n := by omega
      have i5 : p < n := by omega
      have hj2 : j ≤ 100000 := by have := HP.out; omega
      have lb : b < wr.heap.size := cell_lt hc1
      have lw : b < w.heap.size := by exact cell_lt (hcell _ _ (ncells_w hx))
      have ab : (Value.slice A2 j c2).ownBlock ≠ some b := by
        rcases A2 with _ | a2
        · simp [Value.ownBlock]
        · have h3 := HF.out a2 rfl
          simp [Value.ownBlock]
          omega
      clear hcell hx hy hp
      go_upto_region 5 with fail
      first
        | (go_loud (go_region_held3 (fun w' => w'.cell? ⟨b, off + p * 2, none⟩ = some (.int .i64 x) ∧ w'.cell? ⟨b, off + (p + 1) * 2, none⟩ = some (.int .i64 y))
            (first
              | go_keep
              | (go_split_ands
                 refine ⟨?_, ?_⟩
                 · (rw [hgrow.cell_far _ (by simp; omega) (Ne.symm ab)]; assumption)
                 · (rw [hgrow.cell_far _ (by simp; omega) (Ne.symm ab)]; assumption)))
            ((refine step_append_lies _ (by rfl) _ _ _ (by rfl) 0 225 i0 _ 2 16 Tryz.underlying223 hi hz0 hz1 hz2 rfl (by omega) (.slice A2 j c2) j (ncells (pairsTo L j)) (by rfl) ((own_chg (S := NoS) HO.out ((Chg.refl _ _).alloc _) (fun _ _ h => h)).drew)
                  ⟨wr.heap.size, 0, none⟩ 1 1 (encN (x + y, true)) (by rfl) (by rfl) (World.news_of_block (cs := #[.int .i64 (x + y), .bool true]) (t := 225) (fr := (0, 0)) (heap_alloc_new wr _)) (by intro u hu; simp [encN] at hu; rcases hu with rfl | rfl <;> rfl)
                  (by omega) (by unfold maxLen; omega) (by omega) (Nat.zero_le _) (wr.heap.size + 1) (by simp) ?_; intro gg cap w1 hown1 hgrow hat hlt1))))
        | fail "region"
      go_wp2_with fail
      go_roundw
      case rel =>
        have hpp : p / 2 = j := by have := HP.out; omega
        refine ⟨j + 1, some ⟨gg, 0, none⟩, cap, by have := HP.out; omega, ?_, rfl, ?_, (((Chg.refl _ wr).alloc _).drew.grown hgrow (S := fun i => (Value.slice A2 j c2).ownBlock = some i) (fun i hi _ => hi)) |> (HC1.out.trans · (fun i hi h => ?_)), ?_⟩
        · have := HP.out; have e : 2 * (j + 1) + 1 = p + 1 + 2 := by omega
          rw [e]; go_num
        · show w1.ownsRow _ _ _ _ _ (ncells (pairsTo L j ++ [_]))
          rw [ncells_app, ← HP.out]
          simp only [List.getD_eq_getElem?_getD, HX.out, HY.out, Option.getD_some]
          exact hown1
        · rcases A2 with _ | a2
          · simp [Value.ownBlock] at h
          · have h3 := HF.out a2 rfl
            simp [Value.ownBlock] at h
            omega
        · rintro a h
          injection h with h
          subst h
          have hs := HC1.out.size
          show w.heap.size ≤ gg
          rcases hat with h3 | h3
          · rcases A2 with _ | a2
            · simp [Value.ownBlock] at h3
            · have h4 := HF.out a2 rfl
              simp [Value.ownBlock] at h3
              omega
          · omega
      case measure => simp [intOf]; omega
    · have he : j = n / 2 := by omega
      have HE := keepf he
      clear he
      go_wp2_with fail
      go_ret
      refine ⟨A2, c2, ?_, ?_, HC1.out, HF.out⟩
      · unfold pairsOf; rw [pairsTo_len, ← HN.out, ← HE.out]; rfl
      · unfold pairsOf; rw [← HN.out, ← HE.out]; show wr.ownsRow _ _ _ _ _ _; rw [pairsTo_len]; exact HO.out
end Go.Proofs.YtmmilchmnimjoaaGreat
/- merge: both rows as one, lesser weights first. -/
namespace Go.Proofs.YtmmilchmnimjoaaGreat
open Go.RowKit
set_option linter.unusedVariables false
set_option linter.unusedSimpArgs false
def mergeOf : List Nd → List Nd → List Nd
  | [], b => b
  | x :: a, [] => x :: a
  | x :: a, y :: b => if y.1 < x.1 then y :: mergeOf (x :: a) b else x :: mergeOf a (y :: b)
termination_by a b => a.length + b.length
theorem mergeOf_nil_left (b : List Nd) : mergeOf [] b = b := by rw [mergeOf]
theorem mergeOf_nil_right (a : List Nd) : mergeOf a [] = a := by cases a <;> rw [mergeOf]
theorem mergeOf_lt {x y : Nd} {a b : List Nd} (h : y.1 < x.1) : mergeOf (x :: a) (y :: b) = y :: mergeOf (x :: a) b := by rw [mergeOf, if_pos h]
theorem mergeOf_ge {x y : Nd} {a b : List Nd} (h : ¬ y.1 < x.1) : mergeOf (x :: a) (y :: b) = x :: mergeOf a (y :: b) := by rw [mergeOf, if_neg h]
theorem mergeOf_len : ∀ a b : List Nd, (mergeOf a b).length = a.length + b.length
  | [], b => by rw [mergeOf_nil_left]; simp
  | x :: a, [] => by rw [mergeOf_nil_right]; simp
  | x :: a, y :: b => by
    by_cases h : y.1 < x.1
    · rw [mergeOf_lt h, List.length_cons, mergeOf_len (x :: a) b]; simp; omega
    · rw [mergeOf_ge h, List.length_cons, mergeOf_len a (y :: b)]; simp; omega
termination_by a b => a.length + b.length
def slen : Value → Nat
  | .slice _ n _ => n
  | _ => 0
theorem size_node : (Tryz.prog.info? 225).map (·.size) = some 2 := by kernel_rfl
set_option maxRecDepth 100000 in
theorem slice_one (A : Option Addr) (len cap : Nat) (hm : 1 ≤ len) (w : World) : (Instr.sliceAt 223 (.slice A len cap) (some (.int .i64 1)) none none).run Tryz.prog w = .ok (.slice (if cap = 1 then A else A.map (·.add (1 * 2))) (len - 1) (cap - 1)) w := by
  have hz : (sizeOf 225).run Tryz.prog w = .ok 2 w := by
    cases hq : Tryz.prog.info? 225 with
    | none => have := size_node; simp [hq] at this
    | some i =>
      have hs : i.size = 2 := by have := size_node; simpa [hq] using this
      simp [sizeOf, typeInfo, hq, hs]
  rw [run_sliceAt_slice w _ _ _ _ _ Tryz.underlying223, run_slice_l w _ A len cap Tryz.underlying223 .i64 1 (by omega) (by omega)]
  rw [show Tryz.prog.elem 223 = 225 from rfl, hz]
  simp [Result.andThen, sliced]
def tailS (x : Sl) : Sl := (if x.2.1 = 1 then x.1 else x.1.map (·.add (1 * 2)), x.2.1 - 1, x.2.2.tail)
structure At2 (w : World) (x : Sl) : Prop where
  s : Src w 2 x.1 x.2.2.length x.2.1 (ncells x.2.2)
  c : x.2.2.length ≤ x.2.1
theorem At2.tail {w : World} {x : Sl} (h : At2 w x) : At2 w (tailS x) := by
  obtain ⟨A, c, L⟩ := x
  rcases L with _ | ⟨p, L⟩
  · refine ⟨⟨rfl, ?_, fun ad _ j u hu => ?_⟩, Nat.zero_le _⟩
    · intro hA
      refine ⟨rfl, ?_⟩
      show c - 1 = 0
      by_cases e : c = 1
      · omega
      · have hA' : A = none := by simpa [tailS, e] using hA
        have := (h.s.2.1 hA').2
        simp at this
        omega
    · simp [tailS, ncells] at hu
  · have hc : L.length + 1 ≤ c := h.c
    refine ⟨⟨ncells_len L, ?_, fun ad hA j u hu => ?_⟩, by show L.length ≤ c - 1; omega⟩
    · intro hA
      by_cases e : c = 1
      · exact ⟨by show L.length = 0; omega, by show c - 1 = 0; omega⟩
      · have hA' : A = none := by simpa [tailS, e] using hA
        have := (h.s.2.1 hA').1
        simp at this
    · have hu' : (ncells L)[j]? = some u := hu
      have hj : j < (ncells L).length := (List.getElem?_eq_some_iff.1 hu').1
      rw [ncells_len] at hj
      have hA2 : (if c = 1 then A else A.map (·.add (1 * 2))) = some ad := hA
      rw [if_neg (by omega)] at hA2
      cases hA0 : A with
      | none => rw [hA0] at hA2; cases hA2
      | some a0 =>
        rw [hA0] at hA2
        simp only [Option.map_some, Option.some.injEq] at hA2
        subst hA2
        rw [Go.Deep.add_add]
        refine h.s.2.2 a0 hA0 (1 * 2 + j) u ?_
        show (ncells (p :: L))[1 * 2 + j]? = some u
        have e : ncells (p :: L) = encN p ++ ncells L := rfl
        rw [e, List.getElem?_append_right (by simp [encN])]
        simpa [encN] using hu'
theorem At2.no {w w' : World} {x : Sl} (h : At2 w x) (hc : Chg NoS w w') : At2 w' x := ⟨h.s.below (w0 := w) hc, h.c⟩
theorem At2.head {w : World} {A : Option Addr} {c : Nat} {x : Nd} {L : List Nd} (h : At2 w (A, c, x :: L)) : ∃ b off, A = some ⟨b, off, none⟩ ∧ w.cell? ⟨b, off, none⟩ = some (.int .i64 x.1) ∧ w.cell? ⟨b, off + 1, none⟩ = some (.bool x.2) := by
  obtain ⟨b, off, rfl, hcell⟩ := h.s.plain (by simp [ncells, encN])
  exact ⟨b, off, rfl, hcell 0 _ rfl, hcell 1 _ rfl⟩
theorem srcTwoAt {w : World} {u v : Value} {t : TypeId} {n : Nat} (h : n = w.heap.size) : Src (w.alloc (.cells #[u, v] t)) 2 (some ⟨n, 0, none⟩) 1 1 [u, v] := by
  subst h
  refine ⟨rfl, fun h => (by cases h), fun ad e j x hx => ?_⟩
  injection e with e
  subst e
  have hb := Blk.new w t #[u, v]
  rcases j with _ | _ | j
  · simp at hx; subst hx; exact hb.cell 0
  · simp at hx; subst hx; exact hb.cell 1
  · simp at hx
theorem srcThree (w : World) (t : TypeId) (x y z : Sl) : Src (w.alloc (.cells #[slv x, slv y, slv z] t)) 1 (some ⟨w.heap.size, 0, none⟩) [x, y, z].length 3 ([x, y, z].map slv) := by
  refine ⟨rfl, fun h => (by cases h), fun ad e j u hu => ?_⟩
  injection e with e
  subst e
  have hb := Blk.new w t #[slv x, slv y, slv z]
  rcases j with _ | _ | _ | j
  · simp at hu; subst hu; exact hb.cell 0
  · simp at hu; subst hu; exact hb.cell 1
  · simp at hu; subst hu; exact hb.cell 2
  · simp at hu
structure MInv (w : World) (T : List Nd) (wr : World) (A2 : Option Addr) (c2 : Nat) (O : List Nd) (Xa Xb : Sl) : Prop where
  o : OwnN wr A2 c2 O
  a : Blk wr w.heap.size 223 #[slv Xa]
  b : Blk wr (w.heap.size + 1) 223 #[slv Xb]
  sa : At2 w Xa
  sb : At2 w Xb
  all : O ++ mergeOf Xa.2.2 Xb.2.2 = T
  c : Chg NoS w wr
  f : ∀ a, A2 = some a → w.heap.size ≤ a.block
theorem MInv.step_a {w wr w2 : World} {T : List Nd} {A2 A4 : Option Addr} {c2 c4 : Nat} {O : List Nd} {X Y : Sl} {o : Obj} {x : Nd} (h : MInv w T wr A2 c2 O X Y) (hm : mergeOf X.2.2 Y.2.2 = x :: mergeOf X.2.2.tail Y.2.2)
    (hgr : (wr.alloc o).grownBy w2 (Value.slice A2 O.length c2).ownBlock) (hown : w2.ownsRow 0 225 2 (.slice A4 (O.length + 1) c4) (O.length + 1) (ncells O ++ encN x))
    (hat : (Value.slice A4 (O.length + 1) c4).ownBlock = (Value.slice A2 O.length c2).ownBlock ∨ (Value.slice A4 (O.length + 1) c4).ownBlock = some (wr.alloc o).heap.size) :
    MInv w T (w2.setCell ⟨w.heap.size, 0, none⟩ (slv (tailS X))) A4 c4 (O ++ [x]) (tailS X) Y := by
  have hna := own_ne_blk h.o h.a (by decide)
  have hnb := own_ne_blk h.o h.b (by decide)
  have h2a := (h.a.alloc o).grown hgr (fun e => hna e.symm)
  have h2b := (h.b.alloc o).grown hgr (fun e => hnb e.symm)
  have hfr : ∀ i, (Value.slice A2 O.length c2).ownBlock = some i → w.heap.size ≤ i := by
    intro i hi
    rcases A2 with _ | a2
    · simp [Value.ownBlock] at hi
    · have := h.f a2 rfl
      simp [Value.ownBlock] at hi
      omega
  have hc2 : Chg NoS w w2 := (h.c.alloc o).grown hgr (fun i hi hlt => by have := hfr i hi; omega)
  have hs := h.c.size
  have ho : OwnN w2 A4 c4 (O ++ [x]) := by
    show w2.ownsRow _ _ _ (.slice A4 (O ++ [x]).length c4) _ (ncells (O ++ [x]))
    rw [ncells_app, List.length_append]
    exact hown
  refine ⟨own_chg (S := fun i => i = w.heap.size) ho ((Chg.refl (fun i => i = w.heap.size) w2).setCell (p := ⟨w.heap.size, 0, none⟩) (fun _ => rfl) _) (fun g hg e => ?_), by simpa using h2a.set_ 0 (slv (tailS X)), h2b.far (by simp) _, h.sa.tail, h.sb, ?_, hc2.setCell (fun hh => absurd hh (by simp)) _, ?_⟩
  · subst e
    exact own_ne_blk ho h2a (by decide) hg
  · have h1 := h.all
    rw [hm] at h1
    rw [← h1, List.append_assoc]
    rfl
  · rintro a rfl
    rcases hat with h3 | h3
    · exact hfr _ h3.symm
    · have h4 : a.block = wr.heap.size + 1 := by simpa [Value.ownBlock] using h3
      omega
theorem MInv.step_b {w wr w2 : World} {T : List Nd} {A2 A4 : Option Addr} {c2 c4 : Nat} {O : List Nd} {X Y : Sl} {o : Obj} {x : Nd} (h : MInv w T wr A2 c2 O Y X) (hm : mergeOf Y.2.2 X.2.2 = x :: mergeOf Y.2.2 X.2.2.tail)
    (hgr : (wr.alloc o).grownBy w2 (Value.slice A2 O.length c2).ownBlock) (hown : w2.ownsRow 0 225 2 (.slice A4 (O.length + 1) c4) (O.length + 1) (ncells O ++ encN x))
    (hat : (Value.slice A4 (O.length + 1) c4).ownBlock = (Value.slice A2 O.length c2).ownBlock ∨ (Value.slice A4 (O.length + 1) c4).ownBlock = some (wr.alloc o).heap.size) :
    MInv w T (w2.setCell ⟨(w.heap.size + 1), 0, none⟩ (slv (tailS X))) A4 c4 (O ++ [x]) Y (tailS X) := by
  have hna := own_ne_blk h.o h.a (by decide)
  have hnb := own_ne_blk h.o h.b (by decide)
  have h2a := (h.a.alloc o).grown hgr (fun e => hna e.symm)
  have h2b := (h.b.alloc o).grown hgr (fun e => hnb e.symm)
  have hfr : ∀ i, (Value.slice A2 O.length c2).ownBlock = some i → w.heap.size ≤ i := by
    intro i hi
    rcases A2 with _ | a2
    · simp [Value.ownBlock] at hi
    · have := h.f a2 rfl
      simp [Value.ownBlock] at hi
      omega
  have hc2 : Chg NoS w w2 := (h.c.alloc o).grown hgr (fun i hi hlt => by have := hfr i hi; omega)
  have hs := h.c.size
  have ho : OwnN w2 A4 c4 (O ++ [x]) := by
    show w2.ownsRow _ _ _ (.slice A4 (O ++ [x]).length c4) _ (ncells (O ++ [x]))
    rw [ncells_app, List.length_append]
    exact hown
  refine ⟨own_chg (S := fun i => i = (w.heap.size + 1)) ho ((Chg.refl (fun i => i = (w.heap.size + 1)) w2).setCell (p := ⟨(w.heap.size + 1), 0, none⟩) (fun _ => rfl) _) (fun g hg e => ?_), h2a.far (by simp) _, by simpa using h2b.set_ 0 (slv (tailS X)), h.sa, h.sb.tail, ?_, hc2.setCell (fun hh => absurd hh (by simp)) _, ?_⟩
  · subst e
    exact own_ne_blk ho h2b (by decide) hg
  · have h1 := h.all
    rw [hm] at h1
    rw [← h1, List.append_assoc]
    rfl
  · rintro a rfl
    rcases hat with h3 | h3
    · exact hfr _ h3.symm
    · have h4 : a.block = wr.heap.size + 1 := by simpa [Value.ownBlock] using h3
      omega
theorem MInv.drewN {w wr : World} {T : List Nd} {A2 : Option Addr} {c2 : Nat} {O : List Nd} {X Y : Sl} (h : MInv w T wr A2 c2 O X Y) (n : Nat) : MInv w T (wr.drewN n) A2 c2 O X Y := ⟨own_drewN h.o n, h.a.drewN n, h.b.drewN n, h.sa, h.sb, h.all, h.c.drewN n, h.f⟩
set_option maxHeartbeats 4000000 in
set_option maxRecDepth 100000 in
theorem merge_any (Xa Xb : Sl) (w : World) (ha : At2 w Xa) (hb : At2 w Xb) (hL : Xa.2.2.length + Xb.2.2.length ≤ 100000) :
    Calls Tryz.prog 165 #[slv Xa, slv Xb] w (NewN w (mergeOf Xa.2.2 Xb.2.2)) := by
  obtain ⟨i0, hi, hz0, hz1, hz2⟩ := info_parts info_node
  obtain ⟨Aa, ca, La⟩ := Xa
  obtain ⟨Ab, cb, Lb⟩ := Xb
  have HA := keepf ha
  have HB := keepf hb
  obtain ⟨T, hT⟩ : ∃ T, T = mergeOf La Lb := ⟨_, rfl⟩
  have HT := keepf hT
  have hTl : T.length = La.length + Lb.length := by rw [hT, mergeOf_len]
  show Calls _ _ #[.slice Aa La.length ca, .slice Ab Lb.length cb] w (NewN w (mergeOf La Lb))
  rw [← hT]
  obtain ⟨na, hna⟩ : ∃ na, na = La.length := ⟨_, rfl⟩
  obtain ⟨nb, hnb⟩ : ∃ nb, nb = Lb.length := ⟨_, rfl⟩
  have HNA := keepf hna
  have HNB := keepf hnb
  have hL' : na + nb ≤ 100000 := by rw [hna, hnb]; exact hL
  rw [← hna, ← hnb] at hTl
  rw [← hna, ← hnb]
  have HTL := keepf hTl
  clear hna hnb ha hb hT hL hTl
  go_enter Tryz.func165, Tryz.ntmps165
  go_wp2_with (first
    | (at_make; go_loud (refine wpList_make_own _ rfl (.const (.int .i64 0)) (.tmp 11) 223 rfl 0 225 i0 (.agg #[.int .i64 0, .bool false]) 2 Tryz.underlying223 hi hz0 hz1 .i64 .i64 _ (na + nb) rfl rfl (by simp) (by rw [hz2]; omega) (by unfold maxLen; omega) (Nat.zero_le _) ?_); intro w2 hown2 hgr; simp only [World.size_alloc] at hown2 ⊢; have HO2 := keepf hown2; have HG2 := keepf hgr; clear hown2 hgr))
  go_loopw [5] (fun v wr => ∃ A2 : Option Addr, ∃ c2 : Nat, ∃ O : List Nd, ∃ Xa Xb : Sl, v = .slice A2 O.length c2 ∧ Hid (MInv w T wr A2 c2 O Xa Xb)) (fun v _ => na + nb - slen v)
  case atStart =>
    refine ⟨_, _, [], (Aa, ca, La), (Ab, cb, Lb), rfl, ?_⟩
    have hc : Chg NoS w w2 := (((Chg.refl NoS w).alloc _).alloc _).grown HG2.out (fun _ e _ => by cases e)
    refine keepf ⟨HO2.out, ?_, ?_, HA.out, HB.out, HT.out.symm, hc, ?_⟩
    · have h1 := ((Blk.new w 223 #[.slice Aa na ca]).alloc (.cells #[.slice Ab nb cb] 223)).grown HG2.out (by simp)
      rw [HNA.out] at h1
      exact h1
    · have h1 := (Blk.new (w.alloc (.cells #[.slice Aa na ca] 223)) 223 #[.slice Ab nb cb]).grown HG2.out (by simp)
      rw [HNB.out] at h1
      simpa [slv] using h1
    · rintro a h; injection h with h; subst h; simp; omega
  case round =>
    obtain ⟨A2, c2, O, ⟨A3, c3, L3⟩, ⟨A4, c4, L4⟩, rfl, HI⟩ := hrel
    have p2 := HI.out.a.cell 0
    have p3 := HI.out.b.cell 0
    simp [slv] at p2 p3
    have hlen : O.length + (L3.length + L4.length) = na + nb := by
      have h1 := congrArg List.length HI.out.all
      rw [List.length_append, mergeOf_len, HTL.out] at h1
      exact h1
    by_cases h3 : 0 < L3.length
    · by_cases h4 : 0 < L4.length
      · obtain ⟨x, L3', hx⟩ : ∃ x L', L3 = x :: L' := List.exists_cons_of_length_pos h3
        obtain ⟨y, L4', hy⟩ : ∃ y L', L4 = y :: L' := List.exists_cons_of_length_pos h4
        have hsa := HI.out.sa.no HI.out.c
        have hsb := HI.out.sb.no HI.out.c
        rw [hx] at hsa
        rw [hy] at hsb
        obtain ⟨b3, o3, rfl, cx0, cx1⟩ := hsa.head
        obtain ⟨b4, o4, rfl, cy0, cy1⟩ := hsb.head
        have HX := keepf hx
        have HY := keepf hy
        clear hx hy hsa hsb
        have d1 : (0 : Int) < L3.length := by omega
        have d2 : (0 : Int) < L4.length := by omega
        by_cases hlt : y.1 < x.1
        · have HMG := keepf (show mergeOf (x :: L3') (y :: L4') = _ from (mergeOf_lt hlt))
          have d : decide (y.1 < x.1) = true := by simpa using hlt
          have hsl := fun W => slice_one (some ⟨b4, o4, none⟩) L4.length c4 (by omega) W
          obtain ⟨A9, hA9⟩ : ∃ A9, A9 = (if c4 = 1 then some ⟨b4, o4, none⟩ else (some (⟨b4, o4, none⟩ : Addr)).map (·.add (1 * 2))) := ⟨_, rfl⟩
          rw [← hA9] at hsl
          have HA9 := keepf hA9
          have hlt' := keepf hlt
          clear hA9 hlt
          go_upto_region 4 with fail
          go_quiet (fail)
          obtain ⟨wq, hwq⟩ : ∃ wq, wq = wr.drewN nq := ⟨_, rfl⟩
          rw [← hwq]
          have HIq : Hid (MInv w T wq A2 c2 O (some ⟨b3, o3, none⟩, c3, L3) (some ⟨b4, o4, none⟩, c4, L4)) := by rw [hwq]; exact HI.out.drewN nq
          have p2q : wq.cell? ⟨w.heap.size, 0, none⟩ = some (.slice (some ⟨b3, o3, none⟩) L3.length c3) := by rw [hwq]; exact p2
          have p3q : wq.cell? ⟨w.heap.size + 1, 0, none⟩ = some (.slice (some ⟨b4, o4, none⟩) L4.length c4) := by rw [hwq]; exact p3
          have cx0q : wq.cell? ⟨b3, o3, none⟩ = some (.int .i64 x.1) := by rw [hwq]; exact cx0
          have cx1q : wq.cell? ⟨b3, o3 + 1, none⟩ = some (.bool x.2) := by rw [hwq]; exact cx1
          have cy0q : wq.cell? ⟨b4, o4, none⟩ = some (.int .i64 y.1) := by rw [hwq]; exact cy0
          have cy1q : wq.cell? ⟨b4, o4 + 1, none⟩ = some (.bool y.2) := by rw [hwq]; exact cy1
          have hna := keepf (own_ne_blk HIq.out.o HIq.out.b (by decide))
          clear hwq p2 p3 cx0 cx1 cy0 cy1
          go_wp2_with (first
            | (at_builtin; go_loud (refine wpList_append_src rfl (.tmp 30) (.tmp 36) 223 rfl 225 i0 (.agg #[.int .i64 0, .bool false]) 2 16 Tryz.underlying223 hi hz0 hz1 hz2 rfl (by decide) (.slice A2 O.length c2) _ _ rfl (own_chg (S := NoS) HIq.out.o ((Chg.refl _ _).alloc _) (fun _ _ h => h)) _ _ _ (encN y) rfl (srcTwoAt (by simp)) (by intro u hu; simp [encN] at hu; rcases hu with rfl | rfl <;> rfl) (by unfold maxLen; omega) (by omega) ?_); go_loud (intro S2 w2 hown2 hgr hat; obtain ⟨A5, c5, rfl, hA5⟩ := own_slice hown2; have hbk : Blk w2 (w.heap.size + 1) 223 #[.slice (some ⟨b4, o4, none⟩) L4.length c4] := (HIq.out.b.alloc (.cells #[.int .i64 y.1, .bool y.2] 225)).grown hgr (fun e => hna.out e.symm); have q2 := hbk.cell 0; have f2 := hbk.frozen 0; simp at q2); have HG2 := keepf hgr; have HO2 := keepf hown2; have HAT2 := keepf hat; clear hgr hown2 hat hA5 hbk))
          go_roundw
          case rel =>
            have h9 : slv (tailS (some ⟨b4, o4, none⟩, c4, L4)) = .slice A9 (L4.length - 1) (c4 - 1) := by
              show Value.slice _ _ _ = _
              rw [HA9.out]
              simp [tailS]
            have h8 := HIq.out.step_b (by show mergeOf L3 L4 = y :: mergeOf L3 L4.tail; rw [HX.out, HY.out]; exact HMG.out) HG2.out HO2.out HAT2.out
            rw [h9] at h8
            exact ⟨A5, c5, O ++ [y], (some ⟨b3, o3, none⟩, c3, L3), tailS (some ⟨b4, o4, none⟩, c4, L4), by simp, keepf h8⟩
          case measure => simp [slen]; omega
        · have HMG := keepf (show mergeOf (x :: L3') (y :: L4') = _ from (mergeOf_ge hlt))
          have d : decide (y.1 < x.1) = false := by simpa using hlt
          have hsl := fun W => slice_one (some ⟨b3, o3, none⟩) L3.length c3 (by omega) W
          obtain ⟨A9, hA9⟩ : ∃ A9, A9 = (if c3 = 1 then some ⟨b3, o3, none⟩ else (some (⟨b3, o3, none⟩ : Addr)).map (·.add (1 * 2))) := ⟨_, rfl⟩
          rw [← hA9] at hsl
          have HA9 := keepf hA9
          have hlt' := keepf hlt
          clear hA9 hlt
          go_upto_region 4 with fail
          go_quiet (fail)
          obtain ⟨wq, hwq⟩ : ∃ wq, wq = wr.drewN nq := ⟨_, rfl⟩
          rw [← hwq]
          have HIq : Hid (MInv w T wq A2 c2 O (some ⟨b3, o3, none⟩, c3, L3) (some ⟨b4, o4, none⟩, c4, L4)) := by rw [hwq]; exact HI.out.drewN nq
          have p2q : wq.cell? ⟨w.heap.size, 0, none⟩ = some (.slice (some ⟨b3, o3, none⟩) L3.length c3) := by rw [hwq]; exact p2
          have p3q : wq.cell? ⟨w.heap.size + 1, 0, none⟩ = some (.slice (some ⟨b4, o4, none⟩) L4.length c4) := by rw [hwq]; exact p3
          have cx0q : wq.cell? ⟨b3, o3, none⟩ = some (.int .i64 x.1) := by rw [hwq]; exact cx0
          have cx1q : wq.cell? ⟨b3, o3 + 1, none⟩ = some (.bool x.2) := by rw [hwq]; exact cx1
          have cy0q : wq.cell? ⟨b4, o4, none⟩ = some (.int .i64 y.1) := by rw [hwq]; exact cy0
          have cy1q : wq.cell? ⟨b4, o4 + 1, none⟩ = some (.bool y.2) := by rw [hwq]; exact cy1
          have hna := keepf (own_ne_blk HIq.out.o HIq.out.a (by decide))
          clear hwq p2 p3 cx0 cx1 cy0 cy1
          go_wp2_with (first
            | (at_builtin; go_loud (refine wpList_append_src rfl (.tmp 30) (.tmp 36) 223 rfl 225 i0 (.agg #[.int .i64 0, .bool false]) 2 16 Tryz.underlying223 hi hz0 hz1 hz2 rfl (by decide) (.slice A2 O.length c2) _ _ rfl (own_chg (S := NoS) HIq.out.o ((Chg.refl _ _).alloc _) (fun _ _ h => h)) _ _ _ (encN x) rfl (srcTwoAt (by simp)) (by intro u hu; simp [encN] at hu; rcases hu with rfl | rfl <;> rfl) (by unfold maxLen; omega) (by omega) ?_); go_loud (intro S2 w2 hown2 hgr hat; obtain ⟨A5, c5, rfl, hA5⟩ := own_slice hown2; have hbk : Blk w2 (w.heap.size) 223 #[.slice (some ⟨b3, o3, none⟩) L3.length c3] := (HIq.out.a.alloc (.cells #[.int .i64 x.1, .bool x.2] 225)).grown hgr (fun e => hna.out e.symm); have q2 := hbk.cell 0; have f2 := hbk.frozen 0; simp at q2); have HG2 := keepf hgr; have HO2 := keepf hown2; have HAT2 := keepf hat; clear hgr hown2 hat hA5 hbk))
          go_roundw
          case rel =>
            have h9 : slv (tailS (some ⟨b3, o3, none⟩, c3, L3)) = .slice A9 (L3.length - 1) (c3 - 1) := by
              show Value.slice _ _ _ = _
              rw [HA9.out]
              simp [tailS]
            have h8 := HIq.out.step_a (by show mergeOf L3 L4 = x :: mergeOf L3.tail L4; rw [HX.out, HY.out]; exact HMG.out) HG2.out HO2.out HAT2.out
            rw [h9] at h8
            exact ⟨A5, c5, O ++ [x], tailS (some ⟨b3, o3, none⟩, c3, L3), (some ⟨b4, o4, none⟩, c4, L4), by simp, keepf h8⟩
          case measure => simp [slen]; omega
      · have d1 : (0 : Int) < L3.length := by omega
        have d2 : decide ((0 : Int) < L4.length) = false := decide_eq_false (by omega)
        have e4 : L4 = [] := List.eq_nil_of_length_eq_zero (by omega)
        subst e4
        have hall : allOf [(A2, c2, O), (A3, c3, L3), (A4, c4, [])] = T := by
          have h1 := HI.out.all
          simp only at h1
          rw [← h1]
          simp only [allOf, List.flatMap_cons, List.flatMap_nil, List.append_nil]
          rw [mergeOf_nil_right]
        have hcat : ∀ o, Calls Tryz.prog 170 #[.slice (some ⟨wr.heap.size, 0, none⟩) 3 3] (wr.alloc (.cells #[.slice A2 O.length c2, .slice A3 L3.length c3, .slice A4 0 c4] o)) (NewN (wr.alloc (.cells #[.slice A2 O.length c2, .slice A3 L3.length c3, .slice A4 0 c4] o)) T) := fun o => by
          have h9 := concat_any [(A2, c2, O), (A3, c3, L3), (A4, c4, [])] (some ⟨wr.heap.size, 0, none⟩) 3 (wr.alloc (.cells #[.slice A2 O.length c2, .slice A3 L3.length c3, .slice A4 0 c4] o)) (by simp) (by simp) (by rw [hall, HTL.out]; exact hL') (srcThree _ _ _ _ _) (by
            intro z hz
            simp only [List.mem_cons, List.not_mem_nil, or_false] at hz
            rcases hz with rfl | rfl | rfl
            · exact (src_own HI.out.o).below (w0 := wr) ((Chg.refl _ wr).alloc _)
            · exact HI.out.sa.s.below (w0 := w) (HI.out.c.alloc _)
            · exact HI.out.sb.s.below (w0 := w) (HI.out.c.alloc _))
          rw [hall] at h9
          exact h9
        have HCAT := keepf hcat
        have HHALL := keepf hall
        clear hcat hall
        go_wp2_with (go_at_call 170; go_loud (refine (HCAT.out _).mono ?_); rintro e w3 ⟨A7, c7, rfl, ho7, hc7, hf7⟩; have HO7 := keepf ho7; have HC7 := keepf hc7; have HF7 := keepf hf7; clear ho7 hc7 hf7)
        go_ret
        exact ⟨A7, c7, rfl, HO7.out, (HI.out.c.alloc _).trans HC7.out (fun _ _ h => h), fun a h => by have := HF7.out a h; have h2 := HI.out.c.size; simp at this; omega⟩
    · have d1 : decide ((0 : Int) < L3.length) = false := decide_eq_false (by omega)
      have e3 : L3 = [] := List.eq_nil_of_length_eq_zero (by omega)
      subst e3
      have hall : allOf [(A2, c2, O), (A3, c3, []), (A4, c4, L4)] = T := by
        have h1 := HI.out.all
        simp only at h1
        rw [← h1]
        simp only [allOf, List.flatMap_cons, List.flatMap_nil, List.append_nil]
        rw [mergeOf_nil_left]; simp
      have hcat : ∀ o, Calls Tryz.prog 170 #[.slice (some ⟨wr.heap.size, 0, none⟩) 3 3] (wr.alloc (.cells #[.slice A2 O.length c2, .slice A3 0 c3, .slice A4 L4.length c4] o)) (NewN (wr.alloc (.cells #[.slice A2 O.length c2, .slice A3 0 c3, .slice A4 L4.length c4] o)) T) := fun o => by
        have h9 := concat_any [(A2, c2, O), (A3, c3, []), (A4, c4, L4)] (some ⟨wr.heap.size, 0, none⟩) 3 (wr.alloc (.cells #[.slice A2 O.length c2, .slice A3 0 c3, .slice A4 L4.length c4] o)) (by simp) (by simp) (by rw [hall, HTL.out]; exact hL') (srcThree _ _ _ _ _) (by
          intro z hz
          simp only [List.mem_cons, List.not_mem_nil, or_false] at hz
          rcases hz with rfl | rfl | rfl
          · exact (src_own HI.out.o).below (w0 := wr) ((Chg.refl _ wr).alloc _)
          · exact HI.out.sa.s.below (w0 := w) (HI.out.c.alloc _)
          · exact HI.out.sb.s.below (w0 := w) (HI.out.c.alloc _))
        rw [hall] at h9
        exact h9
      have HCAT := keepf hcat
      have HHALL := keepf hall
      clear hcat hall
      go_wp2_with (go_at_call 170; go_loud (refine (HCAT.out _).mono ?_); rintro e w3 ⟨A7, c7, rfl, ho7, hc7, hf7⟩; have HO7 := keepf ho7; have HC7 := keepf hc7; have HF7 := keepf hf7; clear ho7 hc7 hf7)
      go_ret
      exact ⟨A7, c7, rfl, HO7.out, (HI.out.c.alloc _).trans HC7.out (fun _ _ h => h), fun a h => by have := HF7.out a h; have h2 := HI.out.c.size; simp at this; omega⟩
end Go.Proofs.YtmmilchmnimjoaaGreat
/- levels: the nodes of each depth. -/
namespace Go.Proofs.YtmmilchmnimjoaaGreat
open Go.RowKit
set_option linter.unusedVariables false
set_option linter.unusedSimpArgs false
def levelOf (S : List Nd) : Nat → List Nd
  | 0 => S
  | k + 1 => mergeOf S (pairsOf (levelOf S k))
theorem pairsOf_len (L : List Nd) : (pairsOf L).length = L.length / 2 := pairsTo_len _ _
theorem levelOf_le (S : List Nd) (k : Nat) : (levelOf S k).length ≤ 2 * S.length := by
  induction k with
  | zero => simp [levelOf]; omega
  | succ k ih => rw [levelOf, mergeOf_len, pairsOf_len]; omega
theorem mergeOf_mem (x : Nd) : ∀ a b : List Nd, x ∈ mergeOf a b ↔ x ∈ a ∨ x ∈ b
  | [], b => by rw [mergeOf_nil_left]; simp
  | z :: a, [] => by rw [mergeOf_nil_right]; simp
  | z :: a, y :: b => by
    by_cases h : y.1 < z.1
    · rw [mergeOf_lt h, List.mem_cons, mergeOf_mem x (z :: a) b]; simp only [List.mem_cons]
      constructor
      · rintro (h | h | h)
        · exact .inr (.inl h)
        · exact .inl h
        · exact .inr (.inr h)
      · rintro (h | h | h)
        · exact .inr (.inl h)
        · exact .inl h
        · exact .inr (.inr h)
    · rw [mergeOf_ge h, List.mem_cons, mergeOf_mem x a (y :: b)]; simp only [List.mem_cons]
      constructor
      · rintro (h | h | h)
        · exact .inl (.inl h)
        · exact .inl (.inr h)
        · exact .inr h
      · rintro ((h | h) | h)
        · exact .inl h
        · exact .inr (.inl h)
        · exact .inr (.inr h)
termination_by a b => a.length + b.length
theorem pairsTo_mem (L : List Nd) (x : Nd) : ∀ j, x ∈ pairsTo L j → ∃ i, i < j ∧ x = ((L.getD (2 * i) (0, false)).1 + (L.getD (2 * i + 1) (0, false)).1, true)
  | 0, h => by cases h
  | j + 1, h => by
    rw [pairsTo, List.mem_append, List.mem_singleton] at h
    rcases h with h | h
    · obtain ⟨i, hi, e⟩ := pairsTo_mem L x j h
      exact ⟨i, by omega, e⟩
    · exact ⟨j, by omega, h⟩
theorem pairsOf_bound {L : List Nd} {M : Int} (h : ∀ x ∈ L, 0 ≤ x.1 ∧ x.1 ≤ M) : ∀ x ∈ pairsOf L, 0 ≤ x.1 ∧ x.1 ≤ 2 * M := by
  intro x hx
  obtain ⟨i, hi, rfl⟩ := pairsTo_mem L x _ hx
  have e : ∀ j, j < L.length → 0 ≤ (L.getD j (0, false)).1 ∧ (L.getD j (0, false)).1 ≤ M := fun j hj => by
    rw [List.getD_eq_getElem?_getD, List.getElem?_eq_getElem hj]
    exact h _ (List.getElem_mem hj)
  have e1 := e (2 * i) (by omega)
  have e2 := e (2 * i + 1) (by omega)
  exact ⟨by show 0 ≤ _ + _; omega, by show _ + _ ≤ _; omega⟩
theorem levelOf_bound {S : List Nd} {M : Int} (hM : 0 ≤ M) (h : ∀ x ∈ S, 0 ≤ x.1 ∧ x.1 ≤ M) (k : Nat) : ∀ x ∈ levelOf S k, 0 ≤ x.1 ∧ x.1 ≤ 2 ^ k * M := by
  induction k with
  | zero => simpa [levelOf] using h
  | succ k ih =>
    intro x hx
    rw [levelOf, mergeOf_mem] at hx
    have h2 : (1 : Int) ≤ 2 ^ k := by
      have h4 := Nat.one_le_two_pow (n := k)
      have h5 : ((2 ^ k : Nat) : Int) = 2 ^ k := by simp
      omega
    have e : (2 : Int) ^ (k + 1) * M = 2 * (2 ^ k * M) := by rw [Int.pow_succ, Int.mul_comm (2 ^ k) 2, Int.mul_assoc]
    rw [e]
    have h3 : M ≤ 2 ^ k * M := by have := Int.mul_le_mul_of_nonneg_right h2 hM; rwa [Int.one_mul] at this
    rcases hx with hx | hx
    · have := h x hx; omega
    · exact pairsOf_bound ih x hx
theorem made_nodes (n : Nat) : (madeCells (Value.agg #[.int .i64 0, .bool false]).cells (n * 2)).toList = ncells (List.replicate n (0, false)) := by
  have e : (Value.agg #[Value.int .i64 0, Value.bool false]).cells = #[Value.int .i64 0, Value.bool false] := rfl
  rw [e]
  induction n with
  | zero => simp [madeCells, ncells]
  | succ n ih =>
    have h1 : (madeCells #[Value.int .i64 0, Value.bool false] ((n + 1) * 2)).toList = (madeCells #[Value.int .i64 0, Value.bool false] (n * 2)).toList ++ [.int .i64 0, .bool false] := by
      have e2 : (n + 1) * 2 = n * 2 + 1 + 1 := by omega
      have m1 : n * 2 % 2 = 0 := by omega
      have m2 : (n * 2 + 1) % 2 = 1 := by omega
      simp [madeCells, e2, List.range_succ, m1, m2]
    rw [h1, ih, List.replicate_succ', ncells_app]
    rfl
theorem ncells_set (D : List Nd) (i : Nat) (z : Int) (hi : i < D.length) : (ncells D).set (i * 2) (.int .i64 z) = ncells (D.set i (z, (D.getD i (0, false)).2)) := by
  induction D generalizing i with
  | nil => simp at hi
  | cons p D ih =>
    rcases i with _ | i
    · rfl
    · have e : (i + 1) * 2 = i * 2 + 1 + 1 := by omega
      rw [e]
      have h1 := ih i (by simpa using hi)
      show Value.int .i64 p.1 :: Value.bool p.2 :: (ncells D).set (i * 2) _ = _
      rw [h1]
      rfl
def upTo (S : List Nd) (k : Nat) : List Nd := S.take k ++ List.replicate (S.length - k) (0, false)
theorem upTo_len (S : List Nd) (k : Nat) (hk : k ≤ S.length) : (upTo S k).length = S.length := by simp [upTo]; omega
theorem upTo_set (S : List Nd) (k : Nat) (x : Nd) (h : S[k]? = some x) : (upTo S k).set k x = upTo S (k + 1) := by
  have hk : k < S.length := (List.getElem?_eq_some_iff.1 h).1
  apply List.ext_getElem?
  intro i
  have hl : (S.take k).length = k := by simp; omega
  have hl2 : (S.take (k + 1)).length = k + 1 := by simp; omega
  unfold upTo
  rw [List.getElem?_set]
  by_cases h1 : k = i
  · subst h1
    rw [if_pos rfl, if_pos (by simp; omega), List.getElem?_append_left (by omega), List.getElem?_take, if_pos (by omega), h]
  · rw [if_neg h1]
    by_cases h2 : i < k
    · rw [List.getElem?_append_left (by omega), List.getElem?_append_left (by omega), List.getElem?_take, List.getElem?_take, if_pos h2, if_pos (by omega)]
    · rw [List.getElem?_append_right (by omega), List.getElem?_append_right (by omega), hl, hl2, List.getElem?_replicate, List.getElem?_replicate]
      by_cases h3 : i < S.length
      · rw [if_pos (by omega), if_pos (by omega)]
      · rw [if_neg (by omega), if_neg (by omega)]
theorem upTo_at (S : List Nd) (k : Nat) (hk : k < S.length) : (upTo S k).getD k (0, false) = (0, false) := by
  have hl : (S.take k).length = k := by simp; omega
  rw [List.getD_eq_getElem?_getD]
  unfold upTo
  rw [List.getElem?_append_right (by omega), hl, List.getElem?_replicate, if_pos (by omega)]
  rfl
structure LevsAt (w0 w : World) (S : List Nd) (A : Option Addr) (c : Nat) (Ls : List Sl) : Prop where
  o : w.ownsRow 0 223 1 (.slice A Ls.length c) Ls.length (Ls.map slv)
  l : ∀ j x, Ls[j]? = some x → OwnN w x.1 x.2.1 x.2.2 ∧ x.2.2 = levelOf S j
  c : Chg NoS w0 w
  f : ∀ a, A = some a → w0.heap.size ≤ a.block
def LevTo (w : World) (S : List Nd) (most : Nat) (e : Ending) (w' : World) : Prop :=
  ∃ A c Ls, e = .returned (.slice A Ls.length c) ∧ Ls.length = most ∧ LevsAt w w' S A c Ls
theorem own_ne_own {w : World} {b1 b2 : Nat} {e1 e2 : TypeId} {s1 s2 n1 n2 : Nat} {v1 v2 : Value} {xs1 xs2 : List Value} (h1 : w.ownsRow b1 e1 s1 v1 n1 xs1) (h2 : w.ownsRow b2 e2 s2 v2 n2 xs2) (hne : e1 ≠ e2) (g : Nat) (hg : v1.ownBlock = some g) : v2.ownBlock ≠ some g := by
  rcases h1.2 with ⟨rfl, _⟩ | ⟨g1, cap1, cur1, rfl, _, hh1, _⟩
  · simp [Value.ownBlock] at hg
  · have e : g1 = g := by simpa [Value.ownBlock] using hg
    subst e
    exact own_ne_blk h2 (show Blk w g1 e1 cur1 from hh1) (Ne.symm hne)
theorem LevsAt.snoc {w0 wr w4 w5 : World} {S : List Nd} {A A5 : Option Addr} {c c5 : Nat} {Ls : List Sl} {o : Obj} {x : Sl} (h : LevsAt w0 wr S A c Ls) (hc4 : Chg NoS wr w4) (hx : OwnN w4 x.1 x.2.1 x.2.2) (hxl : x.2.2 = levelOf S Ls.length)
    (hgr : (w4.alloc o).grownBy w5 (Value.slice A Ls.length c).ownBlock) (hown : w5.ownsRow 0 223 1 (.slice A5 (Ls.length + 1) c5) (Ls.length + 1) (Ls.map slv ++ [slv x]))
    (hat : (Value.slice A5 (Ls.length + 1) c5).ownBlock = (Value.slice A Ls.length c).ownBlock ∨ (Value.slice A5 (Ls.length + 1) c5).ownBlock = some (w4.alloc o).heap.size) : LevsAt w0 w5 S A5 c5 (Ls ++ [x]) := by
  have ho4 := own_chg (S := NoS) h.o hc4 (fun _ _ h => h)
  have hfr : ∀ i, (Value.slice A Ls.length c).ownBlock = some i → w0.heap.size ≤ i := by
    intro i hi
    rcases A with _ | a2
    · simp [Value.ownBlock] at hi
    · have := h.f a2 rfl
      simp [Value.ownBlock] at hi
      omega
  have hk : ∀ {A' : Option Addr} {c' : Nat} {L' : List Nd}, OwnN w4 A' c' L' → OwnN w5 A' c' L' := fun {A' c' L'} h1 => by
    refine own_chg (S := fun i => (Value.slice A Ls.length c).ownBlock = some i) h1 (((Chg.refl _ w4).alloc o).grown hgr (fun i hi _ => hi)) (fun g hg e => ?_)
    exact own_ne_own h1 ho4 (by decide) g hg e
  have hc := h.c.trans hc4 (fun _ _ h => h)
  refine ⟨by rw [List.length_append, List.map_append]; exact hown, fun j y hy => ?_, (hc.alloc o).grown hgr (fun i hi hlt => by have := hfr i hi; omega), ?_⟩
  · rcases Nat.lt_or_ge j Ls.length with hj | hj
    · rw [List.getElem?_append_left hj] at hy
      have h1 := h.l j y hy
      exact ⟨hk (own_chg (S := NoS) h1.1 hc4 (fun _ _ h => h)), h1.2⟩
    · rw [List.getElem?_append_right hj] at hy
      have hj2 : j = Ls.length := by
        have := (List.getElem?_eq_some_iff.1 hy).1
        simp at this
        omega
      subst hj2
      simp at hy
      subst hy
      exact ⟨hk hx, hxl⟩
  · rintro a rfl
    have hs := hc.size
    rcases hat with h3 | h3
    · exact hfr _ h3.symm
    · have h4 : a.block = w4.heap.size + 1 := by simpa [Value.ownBlock] using h3
      omega
theorem info_nodes : (Tryz.prog.info? 223).map (fun i => (i.zero, i.size, i.bytes)) = some (some (.slice none 0 0), 1, 24) := by kernel_rfl
theorem own_cap {w : World} {A : Option Addr} {c : Nat} {L : List Nd} (h : OwnN w A c L) : L.length ≤ c := by
  rcases h.2 with ⟨h1, h2⟩ | ⟨g1, cap1, cur1, h1, _, _, h2, _⟩
  · omega
  · injection h1 with _ _ h3; omega
def leaves (cs d : List Int) : List Nd := d.map (fun x => (keyOf cs x, false))
set_option maxHeartbeats 4000000 in
set_option maxRecDepth 100000 in
theorem levels_any (cs d : List Int) (Ac Ad : Option Addr) (cc cd most : Nat) (w : World) (hc : Src w 1 Ac cs.length cc (icells cs)) (hd : Src w 1 Ad d.length cd (icells d)) (h1 : 1 ≤ d.length) (hL : d.length ≤ 1000) (hG : Good cs.length d) (hk : ∀ z ∈ cs, 0 ≤ z ∧ z ≤ 2147483647) (hm : 1 ≤ most) (hm2 : most ≤ 15) :
    Calls Tryz.prog 150 #[.slice Ac cs.length cc, .slice Ad d.length cd, .int .i64 most] w (LevTo w (leaves cs d) most) := by
  obtain ⟨i0, hi, hz0, hz1, hz2⟩ := info_parts info_node
  obtain ⟨bd, od, rfl, hcd⟩ := hd.plain (by rw [icells_len]; omega)
  have hcs : 1 ≤ cs.length := by have := (hG.get 0 (by omega)); omega
  obtain ⟨bc, oc, rfl, hcc⟩ := hc.plain (by rw [icells_len]; omega)
  have HCD := keepf hcd
  have HCC := keepf hcc
  have HGD := keepf hG
  have HK := keepf hk
  obtain ⟨n, hn⟩ : ∃ n, n = d.length := ⟨_, rfl⟩
  obtain ⟨nc, hnc⟩ : ∃ nc, nc = cs.length := ⟨_, rfl⟩
  have HN := keepf hn
  have HNC := keepf hnc
  rw [← hn] at h1 hL ⊢
  rw [← hnc] at hcs ⊢
  have HSL : Hid ((leaves cs d).length = n) := by show _ = _; simp [leaves, hn]
  clear hn hnc hG hk hcd hcc hc hd
  go_enter Tryz.func150, Tryz.ntmps150
  go_wp2_with (first
    | (at_make; go_loud (refine wpList_make_full _ rfl (.tmp 12) (.tmp 12) 223 rfl 0 225 i0 (.agg #[.int .i64 0, .bool false]) 2 Tryz.underlying223 hi hz0 hz1 .i64 .i64 _ _ n rfl rfl rfl rfl (by rw [hz2]; omega) (by unfold maxLen; omega) (Nat.zero_le _) ?_); intro w2 hown2 hgr; rw [made_nodes] at hown2; have HO2 := keepf hown2; have HG2 := keepf hgr; clear hown2 hgr))
  go_loopw [16] (fun v wr => ∃ k : Nat, k ≤ n ∧ v = .int .i64 k ∧ Hid (wr.ownsRow 0 225 2 (.slice (some ⟨w.heap.size, 0, none⟩) n n) n (ncells (upTo (leaves cs d) k))) ∧ Hid (Chg NoS w wr)) (fun v _ => n - (intOf v).toNat)
  case atStart =>
    refine ⟨0, Nat.zero_le _, rfl, keepf ?_, keepf ((Chg.refl NoS w).grown HG2.out (fun _ e _ => by cases e))⟩
    have h2 := HO2.out
    have e : upTo (leaves cs d) 0 = List.replicate n (0, false) := by unfold upTo; rw [HSL.out]; simp
    rw [e]
    exact h2
  case round =>
    obtain ⟨k, hk, rfl, HO, HC1⟩ := hrel
    by_cases hlt : k < n
    · obtain ⟨u, hu⟩ : ∃ u, d[k]? = some u := ⟨_, List.getElem?_eq_getElem (by have := HN.out; omega)⟩
      have hug := HGD.out u (List.mem_of_getElem? hu)
      obtain ⟨u, rfl⟩ := Int.eq_ofNat_of_zero_le hug.1
      have hu2 : u < nc := by have := HNC.out; omega
      obtain ⟨z, hz⟩ : ∃ z, cs[u]? = some z := ⟨_, List.getElem?_eq_getElem (by have := HNC.out; omega)⟩
      have c1 := (HC1.out.cell (p := ⟨bd, od + k, none⟩) (by exact cell_lt (HCD.out k _ (icells_get hu))) (fun h => h)).trans (HCD.out k _ (icells_get hu))
      have c2 := (HC1.out.cell (p := ⟨bc, oc + u, none⟩) (by exact cell_lt (HCC.out u _ (icells_get hz))) (fun h => h)).trans (HCC.out u _ (icells_get hz))
      have c3 := World.ownsRow.cellAt HO.out (k * 2) (by omega)
      have f3 := World.ownsRow.frozenAt HO.out (k * 2)
      have hat : (ncells (upTo (leaves cs d) k))[k * 2]? = some (.int .i64 0) := by
        have h2 := upTo_at (leaves cs d) k (by rw [HSL.out]; exact hlt)
        have h3 : (upTo (leaves cs d) k)[k]? = some (0, false) := by
          rw [List.getD_eq_getElem?_getD] at h2
          rw [List.getElem?_eq_getElem (by rw [upTo_len _ _ (by rw [HSL.out]; exact hk), HSL.out]; exact hlt)] at h2 ⊢
          exact congrArg some h2
        exact ncells_w h3
      rw [hat] at c3
      have HU := keepf hu
      have HZ := keepf hz
      clear hu hz hat hug
      have i1 : (0 : Int) ≤ u := by omega
      have i2 : (u : Int) < nc := by omega
      go_wp2_with fail
      go_roundw
      case rel =>
        have hx : (leaves cs d)[k]? = some (z, false) := by
          have e : keyOf cs (u : Int) = z := by simp [keyOf, List.getD_eq_getElem?_getD, HZ.out]
          simp only [leaves, List.getElem?_map, HU.out, Option.map_some, e]
        refine ⟨k + 1, by omega, by go_num, keepf ?_, keepf (HC1.out.setCell (fun h => absurd h (by simp)) _)⟩
        have h2 := (World.ownsRow.stored HO.out (k * 2) (.int .i64 z)).1
        rw [ncells_set _ _ _ (by rw [upTo_len _ _ (by rw [HSL.out]; exact hk), HSL.out]; exact hlt), upTo_at _ _ (by rw [HSL.out]; exact hlt), upTo_set _ _ _ hx] at h2
        exact h2
      case measure => simp [intOf]; omega
    · obtain rfl : n = k := by omega
      have hbd : ∀ x ∈ leaves cs d, 0 ≤ x.1 ∧ x.1 ≤ 2147483647 := by
        intro x hx
        obtain ⟨v, hv, rfl⟩ := List.mem_map.1 hx
        have h2 := HGD.out v hv
        have h3 : cs[v.toNat]? = some cs[v.toNat] := List.getElem?_eq_getElem (by have := HNC.out; omega)
        have e : keyOf cs v = cs[v.toNat] := by simp [keyOf, List.getD_eq_getElem?_getD, h3]
        show 0 ≤ keyOf cs v ∧ keyOf cs v ≤ _
        rw [e]
        exact HK.out _ (List.getElem_mem _)
      obtain ⟨S, hS⟩ : ∃ S, S = leaves cs d := ⟨_, rfl⟩
      have e : upTo S n = S := by
        have hl : S.length = n := by rw [hS]; exact HSL.out
        unfold upTo
        rw [hl, Nat.sub_self, ← hl, List.take_length]
        simp
      rw [← hS] at HO HSL hbd ⊢
      rw [e] at HO
      have HBD := keepf hbd
      have HSE := keepf hS
      clear e hbd hS
      obtain ⟨j0, hj, hy0, hy1, hy2⟩ := info_parts info_nodes
      go_wp2_with fail
      go_loopw [10] (fun v wx => ∃ A : Option Addr, ∃ c : Nat, ∃ Ls : List Sl, v = .slice A Ls.length c ∧ 1 ≤ Ls.length ∧ Ls.length ≤ most ∧ Hid (LevsAt w wx S A c Ls) ∧ Hid (Ls[0]? = some (some ⟨w.heap.size, 0, none⟩, n, S))) (fun v _ => most - slen v)
      case atStart =>
        have hs := HC1.out.size
        refine ⟨some ⟨wr.heap.size, 0, none⟩, 1, [(some ⟨w.heap.size, 0, none⟩, n, S)], rfl, Nat.le_refl _, hm, keepf ⟨?_, ?_, HC1.out.alloc _, ?_⟩, rfl⟩
        · refine ⟨rfl, .inr ⟨wr.heap.size, 1, _, rfl, Nat.zero_le _, heap_alloc_new wr _, Nat.le_refl _, by unfold maxLen; omega, rfl, ?_⟩⟩
          simp [slv, HSL.out]
        · intro j x hx
          rcases j with _ | j
          · simp at hx
            subst hx
            refine ⟨own_chg (S := NoS) ?_ ((Chg.refl _ wr).alloc _) (fun _ _ h => h), rfl⟩
            show wr.ownsRow _ _ _ (.slice _ S.length n) S.length _
            rw [HSL.out]
            exact HO.out
          · simp at hx
        · rintro a h
          injection h with h
          subst h
          exact hs
      case round =>
        obtain ⟨A, c, Ls, rfl, hl1, hl2, HL, HX0⟩ := hrel
        by_cases hlt : Ls.length < most
        · obtain ⟨g, cg, hA, _, _⟩ := own_form HL.out.o (by omega)
          injection hA with hA1 hA2 hA3
          subst hA1
          subst hA3
          clear hA2
          obtain ⟨m, hm0⟩ : ∃ m, Ls.length = m + 1 := ⟨Ls.length - 1, by omega⟩
          obtain ⟨x, hx⟩ : ∃ x, Ls[m]? = some x := ⟨_, List.getElem?_eq_getElem (by omega)⟩
          obtain ⟨hxo, hxl⟩ := HL.out.l m x hx
          have c1 := World.ownsRow.cellAt HL.out.o m (by omega)
          rw [show (Ls.map slv)[m]? = some (slv x) by simp [hx]] at c1
          obtain ⟨xa, xc, xl⟩ := x
          simp only at hxo hxl
          have hb : ∀ y ∈ xl, 0 ≤ y.1 ∧ y.1 ≤ 1152921504606846976 := by
            intro y hy
            rw [hxl] at hy
            have h2 := levelOf_bound (by omega) HBD.out m y hy
            have h3 : (2 : Int) ^ m ≤ 2 ^ 15 := by
              have h4 := Nat.pow_le_pow_right (n := 2) (by omega) (show m ≤ 15 by omega)
              have h5 : ((2 ^ m : Nat) : Int) = 2 ^ m := by simp
              have h6 : ((2 ^ 15 : Nat) : Int) = 2 ^ 15 := by simp
              omega
            have h7 := Int.mul_le_mul_of_nonneg_right h3 (show (0 : Int) ≤ 2147483647 by omega)
            omega
          have hlen : xl.length ≤ 2 * n := by rw [hxl, ← HSL.out]; exact levelOf_le _ _
          have hX0 := (HL.out.l 0 _ HX0.out).1
          have HPR := keepf (pairs_any xl xa xc wr (by omega) hb (src_own hxo))
          have HMG : Hid (∀ A3 c3 w3, OwnN w3 A3 c3 (pairsOf xl) → Chg NoS wr w3 → Calls Tryz.prog 165 #[.slice (some ⟨w.heap.size, 0, none⟩) n n, .slice A3 (pairsOf xl).length c3] w3 (NewN w3 (mergeOf S (pairsOf xl)))) := by
            intro A3 c3 w3 ho hc
            have h2 := merge_any (some ⟨w.heap.size, 0, none⟩, n, S) (A3, c3, pairsOf xl) w3 ⟨src_own (own_chg (S := NoS) hX0 hc (fun _ _ h => h)), own_cap hX0⟩ ⟨src_own ho, own_cap ho⟩ (by simp only; rw [pairsOf_len, HSL.out]; omega)
            simp only [slv] at h2
            rw [HSL.out] at h2
            exact h2
          have HLo : Hid (wr.ownsRow 0 223 1 (.slice (some ⟨g, 0, none⟩) (m + 1) c) (m + 1) (Ls.map slv)) := by
            have h2 := HL.out.o
            rw [hm0] at h2
            exact h2
          have HM0 := keepf hm0
          have HXL := keepf hxl
          have hm14 : m + 1 < most := by omega
          have hw : IntKind.i64.wrap (m : Int) = m := by rw [IntKind.wrap_i64]; omega
          unfold slv at c1
          rw [hm0]
          clear hm0 hb hx hxo hxl hX0 hlt hl1 hl2 hlen
          go_wp2_with (first
            | (go_at_call 166; refine HPR.out.mono ?_; rintro e w3 ⟨A3, c3, rfl, ho3, hc3, hf3⟩; have HO3 := keepf ho3; have HC3 := keepf hc3; clear ho3 hc3 hf3)
            | (go_at_call 165; refine (HMG.out A3 c3 w3 HO3.out HC3.out).mono ?_; rintro e w4 ⟨A4, c4, rfl, ho4, hc4, hf4⟩; have HO4 := keepf ho4; have HC4 := keepf (HC3.out.trans hc4 (fun _ _ h => h)); clear ho4 hc4 hf4)
            | (at_builtin; go_loud (refine wpList_append_src rfl (.tmp 36) (.tmp 46) 206 rfl 223 j0 (.slice none 0 0) 1 24 Tryz.underlying206 hj hy0 hy1 hy2 rfl (by decide) (.slice (some ⟨g, 0, none⟩) (m + 1) c) _ _ rfl (own_chg (S := NoS) HLo.out (HC4.out.alloc _) (fun _ _ h => h)) _ _ _ [.slice A4 (mergeOf S (pairsOf xl)).length c4] rfl (srcOneAt (by simp)) (by simp [Value.oneCell']) (by unfold maxLen; omega) (by omega) ?_); intro S5 w5 hown5 hgr hat; obtain ⟨A5, c5, rfl, hA5⟩ := own_slice hown5; have HG5 := keepf hgr; have HO5 := keepf hown5; have HAT5 := keepf hat; clear hgr hown5 hat hA5))
          go_roundw
          case rel =>
            have h8 := HL.out.snoc HC4.out (x := (A4, c4, mergeOf S (pairsOf xl))) HO4.out (by rw [HM0.out, levelOf, ← HXL.out]) (by rw [HM0.out]; exact HG5.out) (by rw [HM0.out]; exact HO5.out) (by rw [HM0.out]; exact HAT5.out)
            refine ⟨A5, c5, Ls ++ [(A4, c4, mergeOf S (pairsOf xl))], by simp [HM0.out], by simp, by simp [HM0.out]; omega, keepf h8, ?_⟩
            show _ = _
            rw [List.getElem?_append_left (by have := HM0.out; omega)]
            exact HX0.out
          case measure => simp [slen]; omega
        · have hl3 : Ls.length = most := by omega
          have d1 : ¬ (Ls.length : Int) < most := by omega
          go_wp2_with fail
          go_ret
          exact ⟨A, c, Ls, by rw [hl3]; rfl, hl3, HSE.out ▸ HL.out⟩
end Go.Proofs.YtmmilchmnimjoaaGreat
/- The mathematics of the levels: what the first nodes of a level are. Plain, no program. -/
namespace Go.Proofs.YtmmilchmnimjoaaGreat
set_option linter.unusedVariables false
def prs (L : List Nd) (T : Nat) : Nat := (L.take T).countP (·.2)
theorem prs_le (L : List Nd) (T : Nat) : prs L T ≤ T := by
  have h1 : prs L T ≤ (L.take T).length := List.countP_le_length
  have h2 : (L.take T).length ≤ T := by rw [List.length_take]; omega
  omega
theorem prs_zero (L : List Nd) : prs L 0 = 0 := by simp [prs]
theorem prs_cons (x : Nd) (L : List Nd) (T : Nat) : prs (x :: L) (T + 1) = prs L T + (if x.2 = true then 1 else 0) := by
  unfold prs
  rw [List.take_succ_cons, List.countP_cons]
def Up (L : List Nd) : Prop := L.Pairwise (fun x y => x.1 ≤ y.1)
theorem Up.get {L : List Nd} (h : Up L) (i j : Nat) (hij : i ≤ j) (hj : j < L.length) : (L.getD i (0, false)).1 ≤ (L.getD j (0, false)).1 := by
  rcases Nat.eq_or_lt_of_le hij with e | e
  · subst e; exact Int.le_refl _
  · have h1 := (List.pairwise_iff_getElem.1 h) i j (by omega) hj e
    rw [List.getD_eq_getElem?_getD, List.getD_eq_getElem?_getD, List.getElem?_eq_getElem (by omega), List.getElem?_eq_getElem hj]
    exact h1
theorem up_merge : ∀ a b : List Nd, Up a → Up b → Up (mergeOf a b)
  | [], b, _, hb => by rw [mergeOf_nil_left]; exact hb
  | x :: a, [], ha, _ => by rw [mergeOf_nil_right]; exact ha
  | x :: a, y :: b, ha, hb => by
    have ha2 := List.pairwise_cons.1 ha
    have hb2 := List.pairwise_cons.1 hb
    by_cases h : y.1 < x.1
    · rw [mergeOf_lt h]
      refine List.pairwise_cons.2 ⟨fun z hz => ?_, up_merge (x :: a) b ha hb2.2⟩
      rcases (mergeOf_mem z _ _).1 hz with h1 | h1
      · rcases List.mem_cons.1 h1 with rfl | h1
        · exact Int.le_of_lt h
        · exact Int.le_trans (Int.le_of_lt h) (ha2.1 z h1)
      · exact hb2.1 z h1
    · rw [mergeOf_ge h]
      refine List.pairwise_cons.2 ⟨fun z hz => ?_, up_merge a (y :: b) ha2.2 hb⟩
      have h' : x.1 ≤ y.1 := by omega
      rcases (mergeOf_mem z _ _).1 hz with h1 | h1
      · exact ha2.1 z h1
      · rcases List.mem_cons.1 h1 with rfl | h1
        · exact h'
        · exact Int.le_trans h' (hb2.1 z h1)
termination_by a b => a.length + b.length
structure Parts2 (a b : List Nd) (T : Nat) : Prop where
  q : prs (mergeOf a b) T ≤ b.length
  c : T - prs (mergeOf a b) T ≤ a.length
  lt : ∀ x y, a[T - prs (mergeOf a b) T]? = some x → 1 ≤ prs (mergeOf a b) T → b[prs (mergeOf a b) T - 1]? = some y → y.1 < x.1
  at_ : ∀ i x, i < T - prs (mergeOf a b) T → a[i]? = some x → ∃ p, p < T ∧ (mergeOf a b)[p]? = some x
theorem prs_all (b : List Nd) (hb : ∀ y ∈ b, y.2 = true) (T : Nat) (hT : T ≤ b.length) : prs b T = T := by
  unfold prs
  rw [List.countP_eq_length.2 (fun x hx => hb x (List.mem_of_mem_take hx)), List.length_take]
  omega
theorem prs_none (a : List Nd) (ha : ∀ y ∈ a, y.2 = false) (T : Nat) : prs a T = 0 := by
  unfold prs
  rw [List.countP_eq_zero]
  intro x hx
  rw [ha x (List.mem_of_mem_take hx)]
  simp
theorem parts2 : ∀ (a b : List Nd) (T : Nat), T ≤ a.length + b.length → (∀ x ∈ a, x.2 = false) → (∀ y ∈ b, y.2 = true) → Up a → Parts2 a b T
  | [], b, T, hT, _, hb, _ => by
    have e := prs_all b hb T (by simpa using hT)
    refine ⟨?_, ?_, fun x y hx => ?_, fun i x _ hx => ?_⟩
    · rw [mergeOf_nil_left, e]; simpa using hT
    · rw [mergeOf_nil_left, e]; omega
    · simp at hx
    · simp at hx
  | x :: a, [], T, hT, ha, _, _ => by
    have e := prs_none (x :: a) ha T
    refine ⟨?_, ?_, fun z y _ h1 => ?_, fun i z hi hz => ?_⟩
    · rw [mergeOf_nil_right, e]; exact Nat.zero_le _
    · rw [mergeOf_nil_right, e]; simpa using hT
    · rw [mergeOf_nil_right, e] at h1; omega
    · rw [mergeOf_nil_right, e] at hi
      exact ⟨i, by omega, by rw [mergeOf_nil_right]; exact hz⟩
  | x :: a, y :: b, 0, hT, ha, hb, hu => by
    refine ⟨?_, ?_, fun z y _ h1 => ?_, fun i z hi hz => ?_⟩
    · rw [prs_zero]; exact Nat.zero_le _
    · rw [prs_zero]; exact Nat.zero_le _
    · rw [prs_zero] at h1; omega
    · omega
  | x :: a, y :: b, T + 1, hT, ha, hb, hu => by
    have hxf : x.2 = false := ha x (List.mem_cons_self ..)
    have hyt : y.2 = true := hb y (List.mem_cons_self ..)
    have hu2 := List.pairwise_cons.1 hu
    by_cases h : y.1 < x.1
    · have ih := parts2 (x :: a) b T (by simp at hT ⊢; omega) ha (fun z hz => hb z (List.mem_cons_of_mem _ hz)) hu
      have e : prs (mergeOf (x :: a) (y :: b)) (T + 1) = prs (mergeOf (x :: a) b) T + 1 := by rw [mergeOf_lt h, prs_cons, if_pos hyt]
      obtain ⟨q, hq⟩ : ∃ q, q = prs (mergeOf (x :: a) b) T := ⟨_, rfl⟩
      have hqT := prs_le (mergeOf (x :: a) b) T
      have i1 := ih.q
      have i2 := ih.c
      have i3 := ih.lt
      have i4 := ih.at_
      rw [← hq] at e i1 i2 i3 i4 hqT
      refine ⟨?_, ?_, ?_, ?_⟩
      · rw [e]; simp; exact i1
      · rw [e]; have : T + 1 - (q + 1) = T - q := by omega
        rw [this]; exact i2
      · rw [e]
        have e2 : T + 1 - (q + 1) = T - q := by omega
        rw [e2]
        intro u v hu' _ hv
        by_cases hq0 : q = 0
        · subst hq0
          simp at hv
          subst hv
          rcases hT0 : T - 0 with _ | t
          · rw [hT0] at hu'; simp at hu'; subst hu'; exact h
          · rw [hT0] at hu'
            simp at hu'
            have := hu2.1 u (List.mem_of_getElem? hu')
            omega
        · obtain ⟨q', rfl⟩ : ∃ q', q = q' + 1 := ⟨q - 1, by omega⟩
          simp at hv
          exact i3 u v hu' (by omega) (by simpa using hv)
      · rw [e]
        have e2 : T + 1 - (q + 1) = T - q := by omega
        rw [e2]
        intro i z hi hz
        obtain ⟨p, hp, hp2⟩ := i4 i z hi hz
        exact ⟨p + 1, by omega, by rw [mergeOf_lt h]; simpa using hp2⟩
    · have ih := parts2 a (y :: b) T (by simp at hT ⊢; omega) (fun z hz => ha z (List.mem_cons_of_mem _ hz)) hb hu2.2
      have e : prs (mergeOf (x :: a) (y :: b)) (T + 1) = prs (mergeOf a (y :: b)) T := by rw [mergeOf_ge h, prs_cons, if_neg (by simp [hxf])]; rfl
      obtain ⟨q, hq⟩ : ∃ q, q = prs (mergeOf a (y :: b)) T := ⟨_, rfl⟩
      have hqT := prs_le (mergeOf a (y :: b)) T
      have i1 := ih.q
      have i2 := ih.c
      have i3 := ih.lt
      have i4 := ih.at_
      rw [← hq] at e i1 i2 i3 i4 hqT
      have e2 : T + 1 - q = T - q + 1 := by omega
      refine ⟨?_, ?_, ?_, ?_⟩
      · rw [e]; exact i1
      · rw [e, e2]; simpa using i2
      · rw [e, e2]
        intro u v hu' h1 hv
        exact i3 u v (by simpa using hu') h1 hv
      · rw [e, e2]
        intro i z hi hz
        rcases i with _ | i
        · simp at hz; subst hz
          exact ⟨0, by omega, by rw [mergeOf_ge h]; rfl⟩
        · obtain ⟨p, hp, hp2⟩ := i4 i z (by omega) (by simpa using hz)
          exact ⟨p + 1, by omega, by rw [mergeOf_ge h]; simpa using hp2⟩
termination_by a b T => a.length + b.length + T
end Go.Proofs.YtmmilchmnimjoaaGreat
/- The mathematics of the levels: how many leaves are taken of each level, and what room their codes take. Plain, no program. -/
namespace Go.Proofs.YtmmilchmnimjoaaGreat
set_option linter.unusedVariables false
theorem pairsOf_true (L : List Nd) : ∀ y ∈ pairsOf L, y.2 = true := by
  intro y hy
  obtain ⟨i, _, rfl⟩ := pairsTo_mem L y _ hy
  rfl
theorem pairsTo_get (L : List Nd) : ∀ (j i : Nat), i < j → (pairsTo L j)[i]? = some ((L.getD (2 * i) (0, false)).1 + (L.getD (2 * i + 1) (0, false)).1, true)
  | j + 1, i, h => by
    rw [pairsTo]
    rcases Nat.lt_or_ge i j with h1 | h1
    · rw [List.getElem?_append_left (by rw [pairsTo_len]; exact h1)]
      exact pairsTo_get L j i h1
    · have : i = j := by omega
      subst this
      rw [List.getElem?_append_right (by rw [pairsTo_len]; omega), pairsTo_len]
      simp
theorem pairsOf_get (L : List Nd) (i : Nat) (h : i < L.length / 2) : (pairsOf L)[i]? = some ((L.getD (2 * i) (0, false)).1 + (L.getD (2 * i + 1) (0, false)).1, true) := pairsTo_get L _ i h
theorem up_pairs {L : List Nd} (h : Up L) : Up (pairsOf L) := by
  refine List.pairwise_iff_getElem.2 (fun i j hi hj hij => ?_)
  rw [pairsOf_len] at hi hj
  have e1 := pairsOf_get L i hi
  have e2 := pairsOf_get L j hj
  rw [List.getElem?_eq_getElem (by rw [pairsOf_len]; exact hi)] at e1
  rw [List.getElem?_eq_getElem (by rw [pairsOf_len]; exact hj)] at e2
  injection e1 with e1
  injection e2 with e2
  rw [e1, e2]
  have h1 := h.get (2 * i) (2 * j) (by omega) (by omega)
  have h2 := h.get (2 * i + 1) (2 * j + 1) (by omega) (by omega)
  show _ + _ ≤ _ + _
  omega
theorem up_level {S : List Nd} (h : Up S) (k : Nat) : Up (levelOf S k) := by
  induction k with
  | zero => exact h
  | succ k ih => exact up_merge _ _ h (up_pairs ih)
def leavesOf (S : List Nd) : Nat → Nat → List Nat
  | 0, T => [T - prs (levelOf S 0) T]
  | k + 1, T => (T - prs (levelOf S (k + 1)) T) :: leavesOf S k (2 * prs (levelOf S (k + 1)) T)
theorem leavesOf_len (S : List Nd) : ∀ k T, (leavesOf S k T).length = k + 1
  | 0, T => rfl
  | k + 1, T => by rw [leavesOf, List.length_cons, leavesOf_len S k]
section
variable {S : List Nd} (hf : ∀ x ∈ S, x.2 = false) (hu : Up S) (hw : ∀ x ∈ S, 0 ≤ x.1)
include hf hu
theorem prs_next (k T : Nat) (hT : T ≤ (levelOf S (k + 1)).length) : 2 * prs (levelOf S (k + 1)) T ≤ (levelOf S k).length ∧ T - prs (levelOf S (k + 1)) T ≤ S.length := by
  have h := parts2 S (pairsOf (levelOf S k)) T (by rw [levelOf, mergeOf_len] at hT; exact hT) hf (pairsOf_true _) hu
  have h1 := h.q
  have h2 := h.c
  rw [pairsOf_len] at h1
  rw [show levelOf S (k + 1) = mergeOf S (pairsOf (levelOf S k)) from rfl]
  exact ⟨by omega, h2⟩
theorem leaves_le (k : Nat) : ∀ T, T ≤ (levelOf S k).length → ∀ c ∈ leavesOf S k T, c ≤ S.length := by
  induction k with
  | zero =>
    intro T hT c hc
    rw [leavesOf, List.mem_singleton] at hc
    have h1 : T ≤ S.length := hT
    omega
  | succ k ih =>
    intro T hT c hc
    have h := prs_next hf hu k T hT
    rw [leavesOf, List.mem_cons] at hc
    rcases hc with rfl | hc
    · exact h.2
    · exact ih _ h.1 c hc
include hw
theorem leaves_down (k T : Nat) (hT : T ≤ (levelOf S (k + 1)).length) : 2 * prs (levelOf S (k + 1)) T - prs (levelOf S k) (2 * prs (levelOf S (k + 1)) T) ≤ T - prs (levelOf S (k + 1)) T := by
  have h := parts2 S (pairsOf (levelOf S k)) T (by rw [levelOf, mergeOf_len] at hT; exact hT) hf (pairsOf_true _) hu
  have hn := prs_next hf hu k T hT
  rw [show levelOf S (k + 1) = mergeOf S (pairsOf (levelOf S k)) from rfl] at hn ⊢
  obtain ⟨q, hq⟩ : ∃ q, q = prs (mergeOf S (pairsOf (levelOf S k))) T := ⟨_, rfl⟩
  have i3 := h.lt
  have i1 := h.q
  rw [← hq] at hn i3 i1 ⊢
  rw [pairsOf_len] at i1
  refine Nat.le_of_not_lt (fun hlt => ?_)
  have hq1 : 1 ≤ q := by omega
  obtain ⟨a, ha⟩ : ∃ a, a = T - q := ⟨_, rfl⟩
  rw [← ha] at i3 hlt hn
  -- leaf a lies among the first 2 q nodes of level k
  have hlen : 2 * q - prs (levelOf S k) (2 * q) ≤ S.length := by
    rcases k with _ | k
    · have : 2 * q ≤ S.length := hn.1
      omega
    · exact (prs_next hf hu k (2 * q) hn.1).2
  obtain ⟨x, hx⟩ : ∃ x, S[a]? = some x := ⟨_, List.getElem?_eq_getElem (by omega)⟩
  have hat : ∃ p, p < 2 * q ∧ (levelOf S k)[p]? = some x := by
    rcases k with _ | k
    · exact ⟨a, by omega, hx⟩
    · exact (parts2 S (pairsOf (levelOf S k)) (2 * q) (by have := hn.1; rw [levelOf, mergeOf_len] at this; exact this) hf (pairsOf_true _) hu).at_ a x hlt hx
  obtain ⟨p, hp, hpx⟩ := hat
  have h4 := i3 x _ hx hq1 (pairsOf_get (levelOf S k) (q - 1) (by omega))
  have h5 := (up_level hu k).get p (2 * q - 1) (by omega) (by omega)
  rw [List.getD_eq_getElem?_getD, hpx] at h5
  have e1 : 2 * (q - 1) + 1 = 2 * q - 1 := by omega
  rw [e1] at h4
  have h6 : 0 ≤ ((levelOf S k).getD (2 * (q - 1)) (0, false)).1 := by
    have hlv : ∀ j, ∀ y ∈ levelOf S j, 0 ≤ y.1 := by
      intro j
      induction j with
      | zero => exact hw
      | succ j ih =>
        intro y hy
        rcases (mergeOf_mem y _ _).1 hy with h7 | h7
        · exact hw y h7
        · obtain ⟨i, hi, rfl⟩ := pairsTo_mem _ y _ h7
          have e : ∀ t, t < (levelOf S j).length → 0 ≤ ((levelOf S j).getD t (0, false)).1 := fun t ht => by
            rw [List.getD_eq_getElem?_getD, List.getElem?_eq_getElem ht]
            exact ih _ (List.getElem_mem ht)
          have := e (2 * i) (by omega)
          have := e (2 * i + 1) (by omega)
          show 0 ≤ _ + _
          omega
    rw [List.getD_eq_getElem?_getD, List.getElem?_eq_getElem (by omega)]
    exact hlv k _ (List.getElem_mem _)
  simp only [Option.getD_some] at h5
  simp only at h4
  omega
theorem leaves_sorted (k : Nat) : ∀ T, T ≤ (levelOf S k).length → (leavesOf S k T).Pairwise (fun c d => d ≤ c) := by
  induction k with
  | zero => intro T _; simp [leavesOf]
  | succ k ih =>
    intro T hT
    have h := prs_next hf hu k T hT
    have hd := leaves_down hf hu hw k T hT
    rw [leavesOf]
    refine List.pairwise_cons.2 ⟨fun c hc => ?_, ih _ h.1⟩
    have hs := ih _ h.1
    rcases k with _ | k
    · rw [leavesOf, List.mem_singleton] at hc
      omega
    · rw [leavesOf] at hc hs
      rcases List.mem_cons.1 hc with rfl | hc
      · exact hd
      · exact Nat.le_trans ((List.pairwise_cons.1 hs).1 c hc) hd
end
def wsum : List Nat → Nat
  | [] => 0
  | c :: r => c * 2 ^ r.length + wsum r
theorem wsum_leaves (S : List Nd) (hf : ∀ x ∈ S, x.2 = false) : ∀ k T, wsum (leavesOf S k T) = T * 2 ^ k
  | 0, T => by
    have e : prs (levelOf S 0) T = 0 := prs_none S hf T
    simp [leavesOf, wsum, e]
  | k + 1, T => by
    have h := prs_le (levelOf S (k + 1)) T
    rw [leavesOf, wsum, leavesOf_len, wsum_leaves S hf k, Nat.pow_succ]
    obtain ⟨q, hq⟩ : ∃ q, q = prs (levelOf S (k + 1)) T := ⟨_, rfl⟩
    rw [← hq] at h ⊢
    obtain ⟨c, rfl⟩ : ∃ c, T = c + q := ⟨T - q, by omega⟩
    rw [Nat.add_sub_cancel, Nat.add_mul, Nat.mul_comm 2 q, Nat.mul_assoc q 2, Nat.mul_comm 2 (2 ^ k)]
def depth (cs : List Nat) (i : Nat) : Nat := cs.countP (fun c => decide (i < c))
theorem depth_le (cs : List Nat) (i : Nat) : depth cs i ≤ cs.length := List.countP_le_length
theorem depth_cons (c : Nat) (cs : List Nat) (i : Nat) : depth (c :: cs) i = depth cs i + (if i < c then 1 else 0) := by
  unfold depth
  rw [List.countP_cons]
  simp
theorem depth_mono (cs : List Nat) (i j : Nat) (h : i ≤ j) : depth cs j ≤ depth cs i := by
  unfold depth
  refine List.countP_mono_left (fun c _ hc => ?_)
  simp at hc ⊢
  omega
def kraft (cs : List Nat) : Nat → Nat
  | 0 => 0
  | n + 1 => kraft cs n + 2 ^ (cs.length - depth cs n)
theorem kraft_below (c : Nat) (cs : List Nat) : ∀ n, n ≤ c → kraft (c :: cs) n = kraft cs n
  | 0, _ => rfl
  | n + 1, h => by
    rw [kraft, kraft, kraft_below c cs n (by omega), depth_cons, if_pos (by omega), List.length_cons]
    have : cs.length + 1 - (depth cs n + 1) = cs.length - depth cs n := by omega
    rw [this]
theorem kraft_behind (c : Nat) (cs : List Nat) (h : ∀ d ∈ cs, d ≤ c) : ∀ n, kraft (c :: cs) (c + n) = kraft (c :: cs) c + n * 2 ^ (cs.length + 1)
  | 0 => by simp
  | n + 1 => by
    have e : depth (c :: cs) (c + n) = 0 := by
      unfold depth
      rw [List.countP_eq_zero]
      intro d hd
      simp
      rcases List.mem_cons.1 hd with rfl | hd
      · omega
      · have := h d hd; omega
    rw [← Nat.add_assoc, kraft, kraft_behind c cs h n, e, List.length_cons, Nat.sub_zero, Nat.succ_mul, Nat.add_assoc]
theorem kraft_all : ∀ (cs : List Nat) (n : Nat), cs.Pairwise (fun c d => d ≤ c) → (∀ c ∈ cs, c ≤ n) → kraft cs n + wsum cs = n * 2 ^ cs.length
  | [], n, _, _ => by
    have : ∀ m, kraft [] m = m := by
      intro m
      induction m with
      | zero => rfl
      | succ m ih => rw [kraft, ih]; simp [depth]
    rw [this]
    simp [wsum]
  | c :: cs, n, hs, hle => by
    have h1 := List.pairwise_cons.1 hs
    have hc : c ≤ n := hle c (List.mem_cons_self ..)
    obtain ⟨m, rfl⟩ : ∃ m, n = c + m := ⟨n - c, by omega⟩
    have ih := kraft_all cs c h1.2 h1.1
    rw [kraft_behind c cs h1.1, kraft_below c cs c (Nat.le_refl _), wsum, List.length_cons, Nat.pow_succ, Nat.add_mul]
    have e : c * (2 ^ cs.length * 2) = c * 2 ^ cs.length + c * 2 ^ cs.length := by rw [← Nat.mul_assoc]; omega
    omega
theorem kraft_ge (cs : List Nat) (i : Nat) : ∀ n, i < n → 2 ^ (cs.length - depth cs i) + (n - 1) ≤ kraft cs n
  | n + 1, h => by
    have h0 : ∀ m, m ≤ kraft cs m := by
      intro m
      induction m with
      | zero => exact Nat.zero_le _
      | succ m ih => rw [kraft]; have := Nat.one_le_two_pow (n := cs.length - depth cs m); omega
    rw [kraft]
    rcases Nat.eq_or_lt_of_le (Nat.lt_succ_iff.1 h) with e | e
    · subst e
      have := h0 i
      omega
    · have := kraft_ge cs i n e
      have := Nat.one_le_two_pow (n := cs.length - depth cs n)
      omega
end Go.Proofs.YtmmilchmnimjoaaGreat
/- A loop over an iterator whose rounds come in a known order: what comes is told by the round's number. -/
namespace Go.Proofs.YtmmilchmnimjoaaGreat
open Go.RowKit
set_option linter.unusedVariables false
theorem range_in_order {P : Program} {n : Nat} {g : Operand} {ps : Array Tmp} {assign body : Code} {Q : Exit → Act → World → Prop} {a : Act} {w : World} (h1 : 1 ≤ n) {gf : Nat} {lb : Array Value}
    (hg : a.eval g = .func (.func gf) #[] lb) (eg : ∀ args w, (callFunc gf args).run P w = .ok (.enter gf args) w) (N : Nat) (encs : Nat → Array Value) (hps : ∀ t, (encs t).size = ps.size)
    (I : Nat → World → Prop) (hput : ∀ t W l o, w.heap.size ≤ l → I t W → I t (W.putObj l o)) (hal : ∀ t W o, I t W → I t (W.alloc o)) (h0 : I 0 w)
    (hseq : ∀ (l : Nat) (J : Nat → World → Prop) (W : World), (∀ t W1, J t W1 → I t W1) → (∀ t W1, t < N → J t W1 → YieldAt Fence.wide (n - 1 - 1) P l (encs t) W1 fun e W' => e = .returned (.bool true) ∧ J (t + 1) W') → J 0 W →
      CallsIn Fence.wide (n - 1) P gf (#[.func (.yield l) #[] #[]] ++ lb) W fun e W' => (∃ v, e = .returned v) ∧ J N W')
    (a₁ : Nat → Act)
    (hassign : ∀ (l t : Nat) (W : World) (K : Act → World → Prop), K (a₁ t) W →
      assign.wpIn (Fence.wide.inRound l) (n - 1 - 1) P (Exit.then K (fun _ _ _ => False)) { tmps := (ps.zip (encs t)).foldl (fun t (p, v) => t.setIfInBounds p v) a.tmps, defers := [] } W)
    (hbody : ∀ (l t : Nat) (W : World), t < N → I t W → body.wpIn (Fence.wide.inRound l) (n - 1 - 1) P (fun e _ W' => e = .normal ∧ KeepsFrom w.heap.size W W' ∧ I (t + 1) W') (a₁ t) W)
    (hdone : ∀ (D : Nat) (W : World), w.heap.size ≤ D → I N W → W.heap[D]? = some (.deferred (some [])) → Q .normal { a with defers := { target := .collected D, args := #[] } :: a.defers } W) :
    (Code.rangeFunc g ps assign body).wpIn Fence.wide n P Q a w := by
  refine wpIn_rangeFunc ?_
  intro fn hfn
  obtain ⟨R, hR⟩ : ∃ R : LoopState → Loop, R = fun s => { state := s, pending := none, fn, tmps := a.tmps, params := ps, assign, body, defers := w.heap.size } := ⟨_, rfl⟩
  obtain ⟨V, hV⟩ : ∃ V, V = (w.alloc (.deferred (some []))).alloc (.loop (R .ready)) := ⟨_, rfl⟩
  have hrec : V.heap[w.heap.size + 1]? = some (.loop (R .ready)) := by
    have h2 := World.alloc_heap_new (w.alloc (.deferred (some []))) (.loop (R .ready))
    rw [World.size_alloc] at h2
    rw [hV]; exact h2
  have hdef : V.heap[w.heap.size]? = some (.deferred (some [])) := by
    rw [hV]
    exact (Below.heap_alloc _ _ _ (by simp)).trans (World.alloc_heap_new w _)
  have hIV : I 0 V := by rw [hV]; exact hal _ _ _ (hal _ _ _ h0)
  refine ⟨w.heap.size + 1, [{ target := .collected w.heap.size, args := #[] }], V, { target := .fn (.func gf) lb, args := #[.func (.yield (w.heap.size + 1)) #[] #[]] }, V, gf, #[.func (.yield (w.heap.size + 1)) #[] #[]] ++ lb, V, ?_, ?_, fun _ _ => trivial, ?_, fun _ => h1, ?_⟩
  · rw [hV, hR]
    exact run_enterLoop_outer _ _ _ _ _
  · simp only [resolve, hg]
    simp [go_sem]
  · simp [invoke, go_sem, eg]
  · refine (hseq (w.heap.size + 1) (fun t W => I t W ∧ W.heap[w.heap.size + 1]? = some (.loop (R .ready)) ∧ W.heap[w.heap.size]? = some (.deferred (some []))) V (fun _ _ h => h.1) ?_ ⟨hIV, hrec, hdef⟩).mono ?_
    · rintro t W ht ⟨hi, hl, hk⟩
      have hlt : w.heap.size + 1 < W.heap.size := (Array.getElem?_eq_some_iff.1 hl).1
      have hy := run_yield (P := P) (args := encs t) hl (by rw [hR]; exact hps t)
      rw [hR] at hy
      refine ⟨fn, _, assign, body, hy, roundIn_of_wpIn hfn (hassign _ t W _ ⟨_, run_beginRound hl (by rw [hR]), ?_⟩)⟩
      have hl2 : (W.putObj (w.heap.size + 1) (.loop { R .ready with state := .busy })).heap[w.heap.size + 1]? = some (.loop { R .ready with state := .busy }) := World.putObj_heap_same hlt
      have hk2 : (W.putObj (w.heap.size + 1) (.loop { R .ready with state := .busy })).heap[w.heap.size]? = some (.deferred (some [])) := (World.putObj_heap_other (by omega)).trans hk
      refine wpIn_mono (hbody _ t _ ht (hput _ _ _ _ (by omega) hi)) ?_
      rintro e a3 W3 ⟨rfl, hkeep, hi3⟩
      have hl3 := hkeep.same _ _ (by omega) hl2 rfl
      have hk3 := hkeep.same _ _ (Nat.le_refl _) hk2 rfl
      have hend := run_endRound (P := P) none hl3
      refine ⟨_, _, hend, rfl, hput _ _ _ _ (by omega) hi3, ?_, (World.putObj_heap_other (by omega)).trans hk3⟩
      rw [World.putObj_heap_same (Array.getElem?_eq_some_iff.1 hl3).1, hR]
      rfl
    · rintro e W2 ⟨⟨v, rfl⟩, hi, hl, hk⟩
      have hend := run_endLoop (P := P) hl (by rw [hR]; simp)
      rw [hR] at hend
      exact ⟨none, _, hend, hdone _ _ (Nat.le_refl _) (hput _ _ _ _ (by omega) hi) ((World.putObj_heap_other (by omega)).trans hk)⟩
end Go.Proofs.YtmmilchmnimjoaaGreat
/- The library's iterator over a slice of slices of nodes, the last one first. -/
namespace Go.Proofs.YtmmilchmnimjoaaGreat
open Go.RowKit Go.Shelf
set_option linter.unusedVariables false
attribute [local go_sem] Oper.semAt_some
set_option maxRecDepth 100000 in
set_option maxHeartbeats 2000000 in
theorem back_any (w : World) (A : Option Addr) (n c : Nat) :
    CallsIn Fence.wide 8 Tryz.prog 164 #[.slice A n c] w fun e w' => e = .returned (.func (.func 169) #[] #[.pointer (some ⟨w.heap.size, 0, none⟩)]) ∧ w' = w.alloc (.cells #[.slice A n c] 206) := by
  refine callsIn_of_wp Tryz.func164 rfl trivial ?_ rfl
  simp only [Tryz.ntmps164, List.size_toArray, List.length_cons, List.length_nil, Nat.reduceAdd, Nat.reduceSub, Array.replicate_succ, Array.replicate_zero, List.push_toArray, List.append_toArray, List.nil_append, List.cons_append]
  gi_wp2
  go_ret
  exact ⟨rfl, rfl⟩
set_option maxRecDepth 100000 in
set_option maxHeartbeats 4000000 in
theorem back1_any (l m bx g c : Nat) (As : Nat → Option Addr) (ns cs : Nat → Nat) (hm : m ≤ 1000) (J : Nat → World → Prop)
    (hbox : ∀ t W1, J t W1 → W1.cell? ⟨bx, 0, none⟩ = some (.slice (some ⟨g, 0, none⟩) m c)) (hrow : ∀ t W1, J t W1 → ∀ j, j < m → W1.cell? ⟨g, j, none⟩ = some (.slice (As j) (ns j) (cs j)))
    (hY : ∀ t W1, t < m → J t W1 → YieldAt Fence.wide 7 Tryz.prog l #[.int .i64 (m - 1 - t : Nat), .slice (As (m - 1 - t)) (ns (m - 1 - t)) (cs (m - 1 - t))] W1 fun e W' => e = .returned (.bool true) ∧ J (t + 1) W')
    (W : World) (h0 : J 0 W) :
    CallsIn Fence.wide 8 Tryz.prog 169 #[.func (.yield l) #[] #[], .pointer (some ⟨bx, 0, none⟩)] W fun e W' => (∃ v, e = .returned v) ∧ J m W' := by
  have hb0 := hbox 0 W h0
  refine callsIn_of_wp Tryz.func169 rfl trivial ?_ rfl
  simp only [Tryz.ntmps169, List.size_toArray, List.length_cons, List.length_nil, Nat.reduceAdd, Nat.reduceSub, Array.replicate_succ, Array.replicate_zero, List.push_toArray, List.append_toArray, List.nil_append, List.cons_append]
  gi_wp2
  gi_loopw [3] (fun i wr => (∃ j t : Nat, j + 1 + t = m ∧ i = .int .i64 (j : Nat) ∧ J t wr) ∨ (i = .int .i64 (-1) ∧ J m wr)) (fun i _ => (intOf i + 1).toNat)
  case atStart =>
    rcases m with _ | m
    · exact .inr ⟨rfl, h0⟩
    · exact .inl ⟨m, 0, rfl, by go_num, h0⟩
  case round =>
    rcases hrel with ⟨j, t, hjt, rfl, hJ⟩ | ⟨rfl, hJ⟩
    · have hb := hbox t wr hJ
      have hr := hrow t wr hJ j (by omega)
      have ej : m - 1 - t = j := by omega
      have hy := hY t wr (by omega) hJ
      rw [ej] at hy
      obtain ⟨fn, tmps, assign, body, hy, hR⟩ := hy
      have i1 : (0 : Int) ≤ j := by omega
      have i2 : (j : Int) < m := by omega
      gi_wp2
      refine hR.mono ?_
      rintro e W3 ⟨rfl, hJ3⟩
      have hw : IntKind.i64.wrap ((j : Int) - 1) = (j : Int) - 1 := by rw [IntKind.wrap_i64]; omega
      gi_wp2
      go_roundw
      case rel =>
        rcases j with _ | j
        · have : t + 1 = m := by omega
          rw [this] at hJ3
          exact .inr ⟨rfl, hJ3⟩
        · exact .inl ⟨j, t + 1, by omega, by go_num, hJ3⟩
      case measure => simp [intOf]
    · gi_wp2
      go_end0
      exact ⟨⟨_, rfl⟩, hJ⟩
end Go.Proofs.YtmmilchmnimjoaaGreat
/- share: the symbols get their lengths. -/
namespace Go.Proofs.YtmmilchmnimjoaaGreat
open Go.RowKit Go.Shelf
set_option linter.unusedVariables false
set_option linter.unusedSimpArgs false
attribute [local go_sem] Oper.semAt_some
def takenFrom (S : List Nd) (k T : Nat) : Nat → Nat
  | 0 => T
  | t + 1 => 2 * prs (levelOf S (k - t)) (takenFrom S k T t)
theorem takenFrom_down (S : List Nd) (k T : Nat) : ∀ t, takenFrom S (k + 1) T (t + 1) = takenFrom S k (2 * prs (levelOf S (k + 1)) T) t
  | 0 => rfl
  | t + 1 => by
    rw [takenFrom, takenFrom_down S k T t, takenFrom]
    have : k + 1 - (t + 1) = k - t := by omega
    rw [this]
theorem leaves_get (S : List Nd) : ∀ (k T t : Nat), t ≤ k → (leavesOf S k T)[t]? = some (takenFrom S k T t - prs (levelOf S (k - t)) (takenFrom S k T t))
  | 0, T, t, h => by
    obtain rfl : t = 0 := by omega
    rfl
  | k + 1, T, 0, _ => rfl
  | k + 1, T, t + 1, h => by
    rw [takenFrom_down, show k + 1 - (t + 1) = k - t by omega]
    exact leaves_get S k _ t (by omega)
theorem takenFrom_le {S : List Nd} (hf : ∀ x ∈ S, x.2 = false) (hu : Up S) (k T : Nat) (hT : T ≤ (levelOf S k).length) : ∀ t, t ≤ k → takenFrom S k T t ≤ (levelOf S (k - t)).length
  | 0, _ => hT
  | t + 1, h => by
    have ih := takenFrom_le hf hu k T hT t (by omega)
    obtain ⟨j, hj⟩ : ∃ j, k - t = j + 1 := ⟨k - t - 1, by omega⟩
    rw [takenFrom, hj]
    rw [hj] at ih
    have : k - (t + 1) = j := by omega
    rw [this]
    exact (prs_next hf hu j _ ih).1
structure LenIs (D : List Int) (nc : Nat) (d : List Int) (dep : Nat → Nat) : Prop where
  len : D.length = nc
  at_ : ∀ i x, d[i]? = some x → D.getD x.toNat 0 = (dep i : Nat)
  no : ∀ y : Nat, (y : Int) ∉ d → D.getD y 0 = 0
theorem LenIs.step {D : List Int} {nc : Nat} {d : List Int} {dep : Nat → Nat} (h : LenIs D nc d dep) (hn : d.Nodup) (hg : Good nc d) (i : Nat) (u : Nat) (hu : d[i]? = some (u : Int)) : LenIs (D.set u ((dep i : Nat) + 1)) nc d (fun j => if j = i then dep j + 1 else dep j) := by
  have hu1 := (hg _ (List.mem_of_getElem? hu)).2
  refine ⟨by rw [List.length_set]; exact h.len, fun j x hx => ?_, fun y hy => ?_⟩
  · have hx0 := (hg _ (List.mem_of_getElem? hx)).1
    rw [List.getD_eq_getElem?_getD, List.getElem?_set]
    by_cases e : j = i
    · subst e
      rw [hu] at hx
      injection hx with hx
      subst hx
      rw [if_pos (by simp), if_pos (by have := h.len; omega), if_pos rfl]
      simp
    · rw [if_neg e, if_neg]
      · have := h.at_ j x hx
        rwa [List.getD_eq_getElem?_getD] at this
      · intro e2
        apply e
        have e3 : x = (u : Int) := by omega
        subst e3
        have hi := (List.getElem?_eq_some_iff.1 hu)
        have hj := (List.getElem?_eq_some_iff.1 hx)
        exact (List.getElem_inj hn).1 (hj.2.trans hi.2.symm)
  · rw [List.getD_eq_getElem?_getD, List.getElem?_set, if_neg]
    · have := h.no y hy
      rwa [List.getD_eq_getElem?_getD] at this
    · rintro rfl
      exact hy (List.mem_of_getElem? hu)
end Go.Proofs.YtmmilchmnimjoaaGreat
/- share: the walk. -/
namespace Go.Proofs.YtmmilchmnimjoaaGreat
open Go.RowKit Go.Shelf
set_option linter.unusedVariables false
set_option linter.unusedSimpArgs false
attribute [local go_sem] Oper.semAt_some
theorem chg_put (W : World) (l : Nat) (o : Obj) : Chg (fun i => i = l) W (W.putObj l o) := ⟨rfl, rfl, rfl, by rw [World.putObj_size]; exact Nat.le_refl _, fun k _ hk => World.putObj_heap_other hk⟩
structure ShI (w : World) (gl cl nc g c m n : Nat) (d : List Int) (Ad : Option Addr) (cd : Nat) (S : List Nd) (t : Nat) (W : World) : Prop where
  ch : Chg (fun i => i = gl) w W
  lt : gl < w.heap.size
  b0 : Blk W w.heap.size 63 #[.slice (some ⟨gl, 0, none⟩) nc cl]
  b1 : Blk W (w.heap.size + 1) 63 #[.slice Ad n cd]
  b2 : Blk W (w.heap.size + 1 + 1) 3 #[.int .i64 (takenFrom S (m - 1) (2 * n - 2) t : Nat)]
  b3 : Blk W (w.heap.size + 1 + 1 + 1) 206 #[.slice (some ⟨g, 0, none⟩) m c]
  r : ∃ D, Row W gl cl D ∧ LenIs D nc d (depth ((leavesOf S (m - 1) (2 * n - 2)).take t))
theorem ShI.chg {w W W' : World} {gl cl nc g c m n : Nat} {d : List Int} {Ad : Option Addr} {cd : Nat} {S : List Nd} {t : Nat} {K : Nat → Prop} (h : ShI w gl cl nc g c m n d Ad cd S t W) (hc : Chg K W W') (hK : ∀ i, i < w.heap.size + 4 → ¬ K i) : ShI w gl cl nc g c m n d Ad cd S t W' := by
  have hlt := h.lt
  refine ⟨h.ch.trans hc (fun i hi hk => absurd hk (hK i (by omega))), h.lt, h.b0.chg hc (hK _ (by omega)), h.b1.chg hc (hK _ (by omega)), h.b2.chg hc (hK _ (by omega)), h.b3.chg hc (hK _ (by omega)), ?_⟩
  obtain ⟨D, h1, h2⟩ := h.r
  exact ⟨D, h1.chg hc (hK _ (by omega)), h2⟩
theorem keeps_of_chg {K : Nat → Prop} {B : Nat} {W W' : World} (hc : Chg K W W') (hK : ∀ i, K i → i < B) : KeepsFrom B W W' :=
  ⟨hc.size, fun k o hB hk _ => (hc.block k (Array.getElem?_eq_some_iff.1 hk).1 (fun h => by have := hK k h; omega)).trans hk⟩
theorem prs_succ (L : List Nd) (k : Nat) (y : Nd) (h : L[k]? = some y) : prs L (k + 1) = prs L k + (if y.2 = true then 1 else 0) := by
  unfold prs
  rw [take_more L k y h, List.countP_append]
  simp [List.countP_cons]
theorem depth_snoc (cs : List Nat) (c i : Nat) : depth (cs ++ [c]) i = depth cs i + (if i < c then 1 else 0) := by
  unfold depth
  rw [List.countP_append]
  simp [List.countP_cons]
def lvAt (Ls : List Sl) (j : Nat) : Sl := Ls.getD j (none, 0, [])
set_option maxRecDepth 100000 in
set_option maxHeartbeats 4000000 in
theorem share_in (gl cl nc g c m : Nat) (d : List Int) (Ad : Option Addr) (cd : Nat) (S : List Nd) (Ls : List Sl) (D0 : List Int) (w : World)
    (hR : Row w gl cl D0) (hD0 : D0.length = nc) (hd : Src w 1 Ad d.length cd (icells d)) (hne : ∀ a, Ad = some a → a.block ≠ gl) (hN : 2 ≤ d.length) (hL : d.length ≤ 1000) (hG : Good nc d) (hnd : d.Nodup)
    (hcd : d.length ≤ cd) (hS : S.length = d.length) (hf : ∀ x ∈ S, x.2 = false) (hu : Up S) (hm : Ls.length = m) (hm1 : 1 ≤ m) (hm2 : m ≤ 15) (hT : 2 * d.length - 2 ≤ (levelOf S (m - 1)).length)
    (hall : w.ownsRow 0 223 1 (.slice (some ⟨g, 0, none⟩) m c) m (Ls.map slv)) (hl : ∀ j x, Ls[j]? = some x → OwnN w x.1 x.2.1 x.2.2 ∧ x.2.2 = levelOf S j) (h0 : LenIs D0 nc d (fun _ => 0)) :
    CallsIn Fence.wide 9 Tryz.prog 149 #[.slice (some ⟨gl, 0, none⟩) nc cl, .slice (some ⟨g, 0, none⟩) m c, .slice Ad d.length cd] w fun e w' =>
      e = .returned (.tuple #[]) ∧ ∃ D, Row w' gl cl D ∧ LenIs D nc d (depth (leavesOf S (m - 1) (2 * d.length - 2))) ∧ Chg (fun i => i = gl) w w' := by
  obtain ⟨n, hn⟩ : ∃ n, n = d.length := ⟨_, rfl⟩
  have HN := keepf hn
  rw [← hn] at hN hL hT hcd ⊢
  clear hn
  obtain ⟨bd, od, rfl, hdc⟩ := hd.plain (by rw [icells_len]; have := HN.out; omega)
  have hw1 : IntKind.i64.wrap (2 * (n : Int)) = 2 * n := by rw [IntKind.wrap_i64]; omega
  have hw2 : IntKind.i64.wrap (2 * (n : Int) - 2) = 2 * n - 2 := by rw [IntKind.wrap_i64]; omega
  refine callsIn_of_wp_marks Tryz.func149 rfl trivial ?_ rfl
  simp only [Tryz.ntmps149, List.size_toArray, List.length_cons, List.length_nil, Nat.reduceAdd, Nat.reduceSub, Array.replicate_succ, Array.replicate_zero, List.push_toArray, List.append_toArray, List.nil_append, List.cons_append]
  gi_wp2_with (refine ⟨trivial, ?_⟩; gi_at_call 164; refine (back_any _ _ _ _).mono ?_; rintro e w' ⟨rfl, rfl⟩)
  have hS0 : ShI w gl cl nc g c m n d (some ⟨bd, od, none⟩) cd S 0 ((((w.alloc (.cells #[.slice (some ⟨gl, 0, none⟩) nc cl] 63)).alloc (.cells #[.slice (some ⟨bd, od, none⟩) n cd] 63)).alloc (.cells #[.int .i64 (2 * (n : Int) - 2)] 3)).alloc (.cells #[.slice (some ⟨g, 0, none⟩) m c] 206)) := by
    have hlt : gl < w.heap.size := own_lt hR rfl
    refine ⟨((((Chg.refl _ w).alloc _).alloc _).alloc _).alloc _, hlt, (((Blk.new w _ _).alloc _).alloc _).alloc _, ?_, ?_, ?_, D0, hR.chg (K := NoS) (((((Chg.refl _ w).alloc _).alloc _).alloc _).alloc _) (fun h => h), ?_⟩
    · have h1 := ((Blk.new (w.alloc (.cells #[.slice (some ⟨gl, 0, none⟩) nc cl] 63)) 63 #[.slice (some ⟨bd, od, none⟩) n cd]).alloc (.cells #[.int .i64 (2 * (n : Int) - 2)] 3)).alloc (.cells #[.slice (some ⟨g, 0, none⟩) m c] 206)
      simpa using h1
    · have h1 := (Blk.new ((w.alloc (.cells #[.slice (some ⟨gl, 0, none⟩) nc cl] 63)).alloc (.cells #[.slice (some ⟨bd, od, none⟩) n cd] 63)) 3 #[.int .i64 (2 * (n : Int) - 2)]).alloc (.cells #[.slice (some ⟨g, 0, none⟩) m c] 206)
      have e : ((2 * n - 2 : Nat) : Int) = 2 * (n : Int) - 2 := by omega
      rw [takenFrom, e]
      simpa using h1
    · have h1 := Blk.new (((w.alloc (.cells #[.slice (some ⟨gl, 0, none⟩) nc cl] 63)).alloc (.cells #[.slice (some ⟨bd, od, none⟩) n cd] 63)).alloc (.cells #[.int .i64 (2 * (n : Int) - 2)] 3)) 206 #[.slice (some ⟨g, 0, none⟩) m c]
      simpa using h1
    · exact h0
  have hsz : ((((w.alloc (.cells #[.slice (some ⟨gl, 0, none⟩) nc cl] 63)).alloc (.cells #[.slice (some ⟨bd, od, none⟩) n cd] 63)).alloc (.cells #[.int .i64 (2 * (n : Int) - 2)] 3)).alloc (.cells #[.slice (some ⟨g, 0, none⟩) m c] 206)).heap.size = w.heap.size + 4 := by simp
  obtain ⟨W0, hW0⟩ : ∃ W0, (((w.alloc (.cells #[.slice (some ⟨gl, 0, none⟩) nc cl] 63)).alloc (.cells #[.slice (some ⟨bd, od, none⟩) n cd] 63)).alloc (.cells #[.int .i64 (2 * (n : Int) - 2)] 3)).alloc (.cells #[.slice (some ⟨g, 0, none⟩) m c] 206) = W0 := ⟨_, rfl⟩
  rw [hW0] at hS0 hsz ⊢
  clear hW0
  have hlv : ∀ j, j < m → Ls[j]? = some (lvAt Ls j) := fun j hj => by
    unfold lvAt
    rw [List.getD_eq_getElem?_getD, List.getElem?_eq_getElem (by omega)]
    rfl
  have hggl : g ≠ gl := fun e => own_ne_own hall hR (by decide) g rfl (by rw [e]; rfl)
  have hglt : g < w.heap.size := own_lt hall rfl
  refine range_in_order (gf := 169) (lb := #[.pointer (some ⟨w.heap.size + 1 + 1 + 1, 0, none⟩)]) (by omega) rfl (enters_of Tryz.func169 (by kernel_rfl) rfl) m
    (fun t => #[.int .i64 (m - 1 - t : Nat), .slice (lvAt Ls (m - 1 - t)).1 (lvAt Ls (m - 1 - t)).2.2.length (lvAt Ls (m - 1 - t)).2.1]) (fun _ => rfl)
    (ShI w gl cl nc g c m n d (some ⟨bd, od, none⟩) cd S) (fun t W l o hl h => h.chg (chg_put W l o) (fun i hi e => by omega)) (fun t W o h => h.chg (K := NoS) ((Chg.refl _ W).alloc o) (fun _ _ h => h)) hS0 ?seq
    (fun t => { tmps := #[.slice (some ⟨gl, 0, none⟩) nc cl, .slice (some ⟨g, 0, none⟩) m c, .slice (some ⟨bd, od, none⟩) n cd, .pointer (some ⟨w.heap.size, 0, none⟩), undef, .pointer (some ⟨w.heap.size + 1, 0, none⟩), .pointer (some ⟨w.heap.size + 1 + 1, 0, none⟩), undef, (.slice (lvAt Ls (m - 1 - t)).1 (lvAt Ls (m - 1 - t)).2.2.length (lvAt Ls (m - 1 - t)).2.1), undef, undef, undef, undef, undef, .slice (some ⟨bd, od, none⟩) n cd, .int .i64 n, .int .i64 (2 * n), .int .i64 (2 * n - 2), .slice (some ⟨g, 0, none⟩) m c, .func (.func 169) #[] #[.pointer (some ⟨w.heap.size + 1 + 1 + 1, 0, none⟩)], (.int .i64 (m - 1 - t : Nat)), (.slice (lvAt Ls (m - 1 - t)).1 (lvAt Ls (m - 1 - t)).2.2.length (lvAt Ls (m - 1 - t)).2.1), undef, undef, undef, undef, undef, undef, undef, undef, undef, undef, undef, undef, undef, undef, undef, undef, undef, undef, undef, undef, undef, undef, undef, undef, undef, undef, undef, undef, undef, undef, undef, undef], defers := [] }) ?assign ?body ?done
  case seq =>
    intro l J W hJ hY h0
    refine back1_any l m (w.heap.size + 1 + 1 + 1) g c (fun j => (lvAt Ls j).1) (fun j => (lvAt Ls j).2.2.length) (fun j => (lvAt Ls j).2.1) (by omega) J (fun t W1 h => (hJ t W1 h).b3.cell 0) (fun t W1 h j hj => ?_) hY W h0
    have h1 := World.ownsRow.cellAt hall j (by omega)
    rw [show (Ls.map slv)[j]? = some (slv (lvAt Ls j)) by rw [List.getElem?_map, hlv j hj]; rfl] at h1
    exact ((hJ t W1 h).ch.cell (p := ⟨g, j, none⟩) hglt hggl).trans h1
  case assign =>
    intro l t W K hK
    gi_wp2
    exact hK
  case done =>
    intro D W hD hI hdf
    gi_wp2
    refine ⟨by simp, .inl ⟨_, _, rfl, run_takeDeferred hdf, ?_⟩⟩
    have h1 := hI.chg (chg_put W D (.deferred none)) (fun i hi e => by omega)
    obtain ⟨D1, h2, h3⟩ := h1.r
    rw [List.take_of_length_le (by rw [leavesOf_len]; omega)] at h3
    exact ⟨_, results_none rfl _ _ _, rfl, D1, h2, h3, h1.ch⟩
  case body =>
    intro l t W ht hI
    have hx := hlv (m - 1 - t) (by omega)
    obtain ⟨hxo, hxl⟩ := hl _ _ hx
    obtain ⟨x, hxe⟩ : ∃ x, x = lvAt Ls (m - 1 - t) := ⟨_, rfl⟩
    rw [← hxe] at hxo hxl ⊢
    obtain ⟨xa, xc, xl⟩ := x
    simp only at hxo hxl ⊢
    have hxW : OwnN W xa xc xl := own_chg hxo hI.ch (fun i hi e => own_ne_own hxo hR (by decide) i hi (by subst e; rfl))
    obtain ⟨T, hTe⟩ : ∃ T, T = takenFrom S (m - 1) (2 * n - 2) t := ⟨_, rfl⟩
    have hTle : T ≤ xl.length := by rw [hTe, hxl]; exact takenFrom_le hf hu (m - 1) _ hT t (by omega)
    have hlen2 : S.length ≤ xl.length := by
      rw [hxl]
      rcases hk : m - 1 - t with _ | k
      · exact Nat.le_refl _
      · rw [levelOf, mergeOf_len]; omega
    have hlen3 : xl.length ≤ 2 * S.length := by rw [hxl]; exact levelOf_le _ _
    have hSn : S.length = n := by rw [hS]; exact HN.out.symm
    obtain ⟨bx, cx, hxa, hcx, hcm⟩ := own_form hxW (by omega)
    injection hxa with hx1 hx2 hx3
    subst hx1
    subst hx3
    clear hx2
    have p0 := hI.b0.cell 0
    have p1 := hI.b1.cell 0
    have p2 := hI.b2.cell 0
    have f2 := hI.b2.frozen 0
    rw [← hTe] at p2
    simp at p0 p1 p2
    have hXcell : ∀ j y, xl[j]? = some y → W.cell? ⟨bx, j * 2, none⟩ = some (.int .i64 y.1) ∧ W.cell? ⟨bx, j * 2 + 1, none⟩ = some (.bool y.2) := fun j y hy => by
      have hj := (List.getElem?_eq_some_iff.1 hy).1
      have h1 := World.ownsRow.cellAt hxW (j * 2) (by omega)
      have h2 := World.ownsRow.cellAt hxW (j * 2 + 1) (by omega)
      rw [ncells_w hy] at h1
      rw [ncells_p hy] at h2
      exact ⟨h1, h2⟩
    have hle : T - prs xl T ≤ n := by
      rcases hk : m - 1 - t with _ | k
      · rw [hk] at hxl
        have : xl.length = n := by rw [hxl]; exact hSn
        omega
      · rw [hk] at hxl
        have h1 := (prs_next hf hu k T (by rw [← hxl]; exact hTle)).2
        rw [← hxl] at h1
        omega
    have hpt : prs xl T = prs (levelOf S (m - 1 - t)) T := by rw [hxl]
    have HPT := keepf hpt
    have HLE := keepf hle
    have HND := keepf hnd
    have HDC := keepf hdc
    have hbne : bd ≠ gl := hne _ rfl
    have hbI := hI.b1
    have hgW := hI.lt
    clear hpt hle
    have HI := keepf hI
    have HX := keepf hXcell
    have HD := keepf hd
    have HR := keepf hR
    have HG := keepf hG
    have HXL := keepf hxl
    have HTE := keepf hTe
    have hTc : (T : Int) ≤ xc := by omega
    have hT0 : (0 : Int) ≤ T := by omega
    clear hI hXcell hd hR hG hxl hTe hlv hl hall hxo hxW hx hxe hS0 h0 hnd hne hf hu hT hdc hbI
    gi_wp2
    gi_loopw [9, 26] (fun va vi wr => ∃ k : Nat, k ≤ T ∧ va = .int .i64 (2 * prs xl k : Nat) ∧ vi = .int .i64 (k : Nat) ∧ Hid (Chg NoS W wr)) (fun _ vi _ => T - (intOf vi).toNat)
    case atStart => exact ⟨0, Nat.zero_le _, by rw [prs_zero]; rfl, rfl, Chg.refl _ _⟩
    case round =>
      obtain ⟨k, hk, rfl, rfl, HC⟩ := hrel
      by_cases hlt : k < T
      · obtain ⟨y, hy⟩ : ∃ y, xl[k]? = some y := ⟨_, List.getElem?_eq_getElem (by omega)⟩
        obtain ⟨c0, c1⟩ := HX.out k y hy
        have e0 := (HC.out.cell (p := ⟨bx, k * 2, none⟩) (by exact cell_lt c0) (fun h => h)).trans c0
        have e1 := (HC.out.cell (p := ⟨bx, k * 2 + 1, none⟩) (by exact cell_lt c1) (fun h => h)).trans c1
        have HY := keepf hy
        have hpk := prs_le xl k
        obtain ⟨q, hq⟩ : ∃ q, q = prs xl k := ⟨_, rfl⟩
        have HQ := keepf hq
        rw [← hq] at hpk ⊢
        obtain ⟨yw, yb⟩ := y
        simp only at e0 e1
        clear hy hq c0 c1
        rcases yb with _ | _
        · gi_wp2
          go_roundw
          case rel =>
            refine ⟨k + 1, by omega, ?_, by go_num, HC.out.alloc _⟩
            rw [prs_succ xl k _ HY.out, HQ.out]
            simp
          case measure => simp [intOf]; omega
        · have hw3 : IntKind.i64.wrap (2 * (q : Int) + 2) = 2 * q + 2 := by rw [IntKind.wrap_i64]; omega
          gi_wp2
          go_roundw
          case rel =>
            refine ⟨k + 1, by omega, ?_, by go_num, HC.out.alloc _⟩
            rw [prs_succ xl k _ HY.out, HQ.out]
            simp
            omega
          case measure => simp [intOf]; omega
      · obtain rfl : T = k := by omega
        have g0 := (HC.out.cell (p := ⟨w.heap.size, 0, none⟩) (by exact cell_lt p0) (fun h => h)).trans p0
        have g1 := (HC.out.cell (p := ⟨w.heap.size + 1, 0, none⟩) (by exact cell_lt p1) (fun h => h)).trans p1
        have g2 := (HC.out.cell (p := ⟨w.heap.size + 1 + 1, 0, none⟩) (by exact cell_lt p2) (fun h => h)).trans p2
        have hpk := prs_le xl T
        obtain ⟨q, hq⟩ : ∃ q, q = prs xl T := ⟨_, rfl⟩
        have HQ := keepf hq
        rw [← hq] at hpk ⊢
        obtain ⟨cc, hcc⟩ : ∃ cc : Nat, cc = T - q := ⟨_, rfl⟩
        have hce : (T : Int) - q = cc := by omega
        have hccn : cc ≤ n := by have := HLE.out; rw [← HQ.out] at this; omega
        have i1 : (0 : Int) ≤ cc := by omega
        have i2 : (cc : Int) ≤ cd := by omega
        have HCC := keepf hcc
        have hsh := HI.out.chg HC.out (fun _ _ h => h)
        obtain ⟨Dr, hDr, hLr⟩ := hsh.r
        have HDr := keepf hDr
        have HLr := keepf hLr
        clear hq hcc hsh hDr hLr
        gi_wp2
        gi_loopw [42] (fun vi wx => ∃ i : Nat, i ≤ cc ∧ vi = .int .i64 (i : Nat) ∧ ∃ Di, Hid (Row wx gl cl Di) ∧ Hid (LenIs Di nc d (fun j => depth ((leavesOf S (m - 1) (2 * n - 2)).take t) j + (if j < i then 1 else 0))) ∧ Hid (Chg (fun b => b = gl) wr wx)) (fun vi _ => cc - (intOf vi).toNat)
        case atStart => exact ⟨0, Nat.zero_le _, rfl, Dr, HDr.out, by simpa using HLr, Chg.refl _ _⟩
        case round =>
          obtain ⟨i, hi, rfl, Di, HDi, HLi, HCi⟩ := hrel
          have hW1 : Chg (fun b => b = gl) W wr := (HC.out.mono (T := fun b => b = gl) (fun _ _ h => h.elim)).trans HCi.out (fun _ _ h => h)
          have hW2 : Chg (fun b => b = gl) w wr := HI.out.ch.trans hW1 (fun _ _ h => h)
          have HW1 := keepf hW1
          have HW2 := keepf hW2
          have r0 := (hW1.cell (p := ⟨w.heap.size, 0, none⟩) (by exact cell_lt p0) (by show ¬ w.heap.size = gl; omega)).trans p0
          clear hW1 hW2
          by_cases hlt2 : i < cc
          · obtain ⟨u, hu⟩ : ∃ u, d[i]? = some u := ⟨_, List.getElem?_eq_getElem (by have := HN.out; omega)⟩
            have hug := HG.out u (List.mem_of_getElem? hu)
            obtain ⟨u, rfl⟩ := Int.eq_ofNat_of_zero_le hug.1
            have hDl := HLi.out.len
            have r1 := (HW2.out.cell (p := ⟨bd, od + i, none⟩) (by exact cell_lt (HDC.out i _ (icells_get hu))) hbne).trans (HDC.out i _ (icells_get hu))
            have r2 := HDi.out.cell u (by omega)
            have r3 := HDi.out.frozen u
            have hv := HLi.out.at_ i _ hu
            rw [Int.toNat_natCast] at hv
            obtain ⟨v, hve⟩ : ∃ v, v = depth ((leavesOf S (m - 1) (2 * n - 2)).take t) i + (if i < i then 1 else 0) := ⟨_, rfl⟩
            have hvb : v ≤ 15 := by
              have h1 := depth_le ((leavesOf S (m - 1) (2 * n - 2)).take t) i
              have h2 : ((leavesOf S (m - 1) (2 * n - 2)).take t).length ≤ m := by rw [List.length_take, leavesOf_len]; omega
              rw [if_neg (Nat.lt_irrefl i)] at hve
              omega
            rw [hv, ← hve] at r2
            have HVE := keepf hve
            have HU := keepf hu
            have j1 : (0 : Int) ≤ u := by omega
            have j2 : (u : Int) < nc := by omega
            have hwv : IntKind.i64.wrap ((v : Int) + 1) = v + 1 := by rw [IntKind.wrap_i64]; omega
            clear hve hu hv hug
            gi_wp2
            go_roundw
            case rel =>
              have h1 := HLi.out.step HND.out HG.out i u HU.out
              rw [← HVE.out] at h1
              refine ⟨i + 1, by omega, by go_num, Di.set u ((v : Nat) + 1), HDi.out.set u _, ?_, HCi.out.setCell (fun _ => rfl) _⟩
              refine keepf ⟨h1.len, fun j x hx => ?_, h1.no⟩
              have h2 := h1.at_ j x hx
              rw [h2]
              by_cases e : j = i
              · subst e
                rw [if_pos rfl, if_neg (Nat.lt_irrefl j), if_pos (by omega)]
              · rw [if_neg e]
                by_cases e2 : j < i
                · rw [if_pos e2, if_pos (by omega)]
                · rw [if_neg e2, if_neg (by omega)]
            case measure => simp [intOf]; omega
          · obtain rfl : cc = i := by omega
            have hb2 := HI.out.b2.chg HW1.out (by show ¬ w.heap.size + 1 + 1 = gl; omega)
            have s2 := hb2.cell 0
            have sf2 := hb2.frozen 0
            simp at s2
            have HB2 := keepf hb2
            clear hb2
            have hgw := HI.out.lt
            gi_wp2
            refine ⟨keeps_of_chg (K := fun b => b = gl ∨ b = w.heap.size + 1 + 1) ((HW1.out.mono (fun _ _ h => .inl h)).setCell (fun _ => .inr rfl) _) (fun i h => by rcases h with h | h <;> omega), ?_⟩
            have htk : takenFrom S (m - 1) (2 * n - 2) (t + 1) = 2 * q := by rw [takenFrom, ← HTE.out, ← HPT.out, ← HQ.out]
            have hg := leaves_get S (m - 1) (2 * n - 2) t (by omega)
            rw [← HTE.out, ← HPT.out, ← HQ.out, ← HCC.out] at hg
            refine ⟨HW2.out.setCell (fun h => absurd h (by simp; omega)) _, hgw, (HI.out.b0.chg HW1.out (by show ¬ _ = gl; omega)).far (by simp; omega) _, (HI.out.b1.chg HW1.out (by show ¬ _ = gl; omega)).far (by simp) _, ?_, (HI.out.b3.chg HW1.out (by show ¬ _ = gl; omega)).far (by simp) _, Di, HDi.out.chg (K := fun b => b = w.heap.size + 1 + 1) ((Chg.refl (fun b => b = w.heap.size + 1 + 1) wr).setCell (p := ⟨w.heap.size + 1 + 1, 0, none⟩) (fun _ => rfl) _) (by show ¬ gl = _; omega), ?_⟩
            · rw [htk]
              have h1 := HB2.out.set_ 0 (.int .i64 (2 * q : Nat))
              simpa using h1
            · rw [take_more _ t _ hg]
              refine ⟨HLi.out.len, fun j x hx => ?_, HLi.out.no⟩
              rw [depth_snoc]
              exact HLi.out.at_ j x hx
end Go.Proofs.YtmmilchmnimjoaaGreat
/- The lengths that share gives may be, and are complete. Plain, no program. -/
namespace Go.Proofs.YtmmilchmnimjoaaGreat
set_option linter.unusedVariables false
theorem level_long (S : List Nd) : ∀ k j, S.length ≤ j * 2 ^ k → 2 * S.length ≤ (levelOf S k).length + j
  | 0, j, h => by
    have : (levelOf S 0).length = S.length := rfl
    simp at h
    omega
  | k + 1, j, h => by
    have ih := level_long S k (2 * j) (by rw [Nat.pow_succ] at h; rw [Nat.mul_comm 2 j, Nat.mul_assoc, Nat.mul_comm 2]; exact h)
    rw [levelOf, mergeOf_len, pairsOf_len]
    omega
def rm1 (z : Int) : Nat := if z = 0 then 0 else 2 ^ (15 - z.toNat)
theorem rmOf_set (z : Int) : ∀ (D : List Int) (i : Nat), i < D.length → rmOf (D.set i z) + rm1 (D.getD i 0) = rmOf D + rm1 z
  | x :: D, 0, _ => by
    show rm1 z + rmOf D + rm1 x = rm1 x + rmOf D + rm1 z
    omega
  | x :: D, i + 1, h => by
    have ih := rmOf_set z D i (by simpa using h)
    show rm1 x + rmOf (D.set i z) + rm1 (D.getD i 0) = rm1 x + rmOf D + rm1 z
    omega
theorem rmOf_zero : ∀ D : List Int, (∀ y, y < D.length → D.getD y 0 = 0) → rmOf D = 0
  | [], _ => rfl
  | x :: D, h => by
    have h0 : x = 0 := h 0 (by simp)
    have h1 := rmOf_zero D (fun y hy => h (y + 1) (by simpa using hy))
    subst h0
    show rm1 0 + rmOf D = 0
    rw [h1]
    rfl
theorem rmOf_sum : ∀ (d : List Int) (D : List Int), d.Nodup → Good D.length d → (∀ y : Nat, (y : Int) ∉ d → D.getD y 0 = 0) → rmOf D = (d.map (fun x => rm1 (D.getD x.toNat 0))).sum
  | [], D, _, _, h => by rw [rmOf_zero D (fun y _ => h y (by simp))]; rfl
  | x :: d, D, hn, hg, h => by
    have hn2 := List.nodup_cons.1 hn
    have hx := hg x (List.mem_cons_self ..)
    have ih := rmOf_sum d (D.set x.toNat 0) hn2.2 (fun y hy => by rw [List.length_set]; exact hg y (List.mem_cons_of_mem _ hy)) (fun y hy => by
      rw [List.getD_eq_getElem?_getD, List.getElem?_set]
      by_cases e : x.toNat = y
      · rw [if_pos e]; split <;> rfl
      · rw [if_neg e, ← List.getD_eq_getElem?_getD]
        refine h y (fun hm => ?_)
        rcases List.mem_cons.1 hm with h1 | h1
        · omega
        · exact hy h1)
    have hs := rmOf_set 0 D x.toNat (by omega)
    have e : (d.map (fun y => rm1 ((D.set x.toNat 0).getD y.toNat 0))) = d.map (fun y => rm1 (D.getD y.toNat 0)) := by
      refine List.map_congr_left (fun y hy => ?_)
      rw [List.getD_eq_getElem?_getD, List.getElem?_set, if_neg, ← List.getD_eq_getElem?_getD]
      intro e
      have hy2 := hg y (List.mem_cons_of_mem _ hy)
      have : x = y := by omega
      subst this
      exact hn2.1 hy
    rw [e] at ih
    rw [List.map_cons, List.sum_cons, ← ih]
    have : rm1 0 = 0 := rfl
    omega
theorem sum_kraft (cs : List Nat) (hm : cs.length ≤ 15) (d : List Int) (D : List Int) (hat : ∀ i x, d[i]? = some x → D.getD x.toNat 0 = (depth cs i : Nat)) (hpos : ∀ i, i < d.length → 1 ≤ depth cs i) :
    (d.map (fun x => rm1 (D.getD x.toNat 0))).sum = 2 ^ (15 - cs.length) * kraft cs d.length := by
  have key : ∀ n, n ≤ d.length → ((d.take n).map (fun x => rm1 (D.getD x.toNat 0))).sum = 2 ^ (15 - cs.length) * kraft cs n := by
    intro n
    induction n with
    | zero => intro _; simp [kraft]
    | succ n ih =>
      intro hn
      have hx : d[n]? = some d[n] := List.getElem?_eq_getElem (by omega)
      have h1 := hat n _ hx
      have h2 := hpos n (by omega)
      have h3 := depth_le cs n
      have e : rm1 (D.getD d[n].toNat 0) = 2 ^ (15 - cs.length) * 2 ^ (cs.length - depth cs n) := by
        rw [h1, rm1, if_neg (by omega), Int.toNat_natCast, ← Nat.pow_add]
        congr 1
        omega
      rw [take_more d n _ hx, List.map_append, List.sum_append, ih (by omega), kraft, Nat.mul_add]
      simp only [List.map_cons, List.map_nil, List.sum_cons, List.sum_nil, Nat.add_zero]
      rw [e]
  have h := key d.length (Nat.le_refl _)
  rwa [List.take_length] at h
structure LensOk (cs : List Int) (most : Nat) (d D : List Int) : Prop where
  len : D.length = cs.length
  no : ∀ y : Nat, (y : Int) ∉ d → D.getD y 0 = 0
  yes : ∀ x ∈ d, 1 ≤ D.getD x.toNat 0 ∧ D.getD x.toNat 0 ≤ most
  one : d.length = 1 → ∀ x ∈ d, D.getD x.toNat 0 = 1
  mono : ∀ x ∈ d, ∀ y ∈ d, keyOf cs y < keyOf cs x → D.getD x.toNat 0 ≤ D.getD y.toNat 0
  room : rmOf D ≤ 32768
  all : 2 ≤ d.length → rmOf D = 32768
  det : 2 ≤ d.length → ∀ i x, d[i]? = some x → D.getD x.toNat 0 = (depth (leavesOf (leaves cs d) (most - 1) (2 * d.length - 2)) i : Nat)
theorem LensOk.one_ {cs d D D' : List Int} {most : Nat} (h : LensOk cs most d D) (h' : LensOk cs most d D') : D = D' := by
  have key : ∀ y : Nat, D.getD y 0 = D'.getD y 0 := fun y => by
    by_cases hy : (y : Int) ∈ d
    · obtain ⟨i, hi, he⟩ := List.getElem_of_mem hy
      by_cases h1 : d.length = 1
      · have a := h.one h1 _ hy
        have b := h'.one h1 _ hy
        rw [Int.toNat_natCast] at a b
        rw [a, b]
      · have a := h.det (by omega) i y (by rw [List.getElem?_eq_getElem hi, he])
        have b := h'.det (by omega) i y (by rw [List.getElem?_eq_getElem hi, he])
        rw [Int.toNat_natCast] at a b
        rw [a, b]
    · rw [h.no y hy, h'.no y hy]
  have hl : D.length = D'.length := h.len.trans h'.len.symm
  refine List.ext_getElem hl (fun i h1 h2 => ?_)
  have := key i
  simpa [List.getD_eq_getElem?_getD, h1, h2] using this
theorem lens_ok {cs d D : List Int} {most : Nat} (hu : UsedIs cs d) (hN : 2 ≤ d.length) (hm1 : 1 ≤ most) (hm : most ≤ 15) (hle : d.length ≤ 2 ^ most) (hk : ∀ z ∈ cs, 0 ≤ z ∧ z ≤ 2147483647)
    (h : LenIs D cs.length d (depth (leavesOf (leaves cs d) (most - 1) (2 * d.length - 2)))) : LensOk cs most d D := by
  have hnd : d.Nodup := hu.perm.nodup_iff.2 (usedTo_nodup cs cs.length)
  have hg : Good cs.length d := fun x hx => by
    have h1 := (usedTo_mem cs cs.length x).1 (hu.perm.mem_iff.1 hx)
    exact ⟨h1.1, h1.2.1⟩
  have hf : ∀ x ∈ leaves cs d, x.2 = false := fun x hx => by
    obtain ⟨v, _, rfl⟩ := List.mem_map.1 hx
    rfl
  have hw : ∀ x ∈ leaves cs d, 0 ≤ x.1 := fun x hx => by
    obtain ⟨v, hv, rfl⟩ := List.mem_map.1 hx
    have h1 := (usedTo_mem cs cs.length v).1 (hu.perm.mem_iff.1 hv)
    exact Int.le_of_lt h1.2.2
  have hup : Up (leaves cs d) := by
    refine List.pairwise_iff_getElem.2 (fun i j hi hj hij => ?_)
    have h1 := hu.sorted i j (Nat.zero_le _) hij (by simpa [leaves] using hj)
    have hi2 : i < d.length := by simpa [leaves] using hi
    have hj2 : j < d.length := by simpa [leaves] using hj
    simp only [List.getD_eq_getElem?_getD, List.getElem?_eq_getElem hi2, List.getElem?_eq_getElem hj2, Option.getD_some] at h1
    simpa [leaves] using h1
  have hS : (leaves cs d).length = d.length := by simp [leaves]
  obtain ⟨M, rfl⟩ : ∃ M, most = M + 1 := ⟨most - 1, by omega⟩
  rw [Nat.add_sub_cancel] at h
  have hlong := level_long (leaves cs d) M 2 (by rw [hS]; rw [Nat.pow_succ] at hle; omega)
  rw [hS] at hlong
  have hT : 2 * d.length - 2 ≤ (levelOf (leaves cs d) M).length := by omega
  obtain ⟨ls, hls⟩ : ∃ ls, ls = leavesOf (leaves cs d) M (2 * d.length - 2) := ⟨_, rfl⟩
  have hll : ls.length = M + 1 := by rw [hls, leavesOf_len]
  have hle2 : ∀ c ∈ ls, c ≤ d.length := by rw [hls, ← hS]; rw [hS]; intro c hc; have := leaves_le hf hup M _ hT c hc; omega
  have hsort : ls.Pairwise (fun c e => e ≤ c) := by rw [hls]; exact leaves_sorted hf hup hw M _ hT
  have hws : wsum ls = (2 * d.length - 2) * 2 ^ M := by rw [hls]; exact wsum_leaves _ hf M _
  rw [← hls] at h
  have hka := kraft_all ls d.length hsort hle2
  have hkr : kraft ls d.length = 2 ^ (M + 1) := by
    rw [hws, hll, Nat.pow_succ] at hka
    rw [Nat.pow_succ]
    obtain ⟨e, he⟩ : ∃ e, d.length = e + 1 := ⟨d.length - 1, by omega⟩
    rw [he] at hka ⊢
    have e1 : 2 * (e + 1) - 2 = 2 * e := by omega
    have e2 : (e + 1) * (2 ^ M * 2) = 2 * e * 2 ^ M + 2 ^ M * 2 := by rw [Nat.add_mul, Nat.one_mul, ← Nat.mul_assoc, Nat.mul_comm (e * 2 ^ M) 2, ← Nat.mul_assoc]
    rw [e1, e2] at hka
    omega
  have hpos : ∀ i, i < d.length → 1 ≤ depth ls i := by
    intro i hi
    refine Nat.le_of_not_lt (fun h0 => ?_)
    have h1 := kraft_ge ls i d.length hi
    have h2 : depth ls i = 0 := by omega
    rw [h2, hll, hkr, Nat.sub_zero] at h1
    omega
  have hroom : rmOf D = 32768 := by
    rw [rmOf_sum d D hnd (by rw [h.len]; exact hg) h.no, sum_kraft ls (by omega) d D h.at_ hpos, hkr, hll, ← Nat.pow_add]
    have : 15 - (M + 1) + (M + 1) = 15 := by omega
    rw [this]
  refine ⟨h.len, h.no, fun x hx => ?_, fun e => by omega, fun x hx y hy hxy => ?_, by omega, fun _ => hroom, fun _ i x hx => by rw [Nat.add_sub_cancel, ← hls]; exact h.at_ i x hx⟩
  · obtain ⟨i, hi, rfl⟩ := List.getElem_of_mem hx
    have h1 := h.at_ i _ (List.getElem?_eq_getElem hi)
    have h2 := hpos i hi
    have h3 := depth_le ls i
    rw [h1]
    omega
  · obtain ⟨i, hi, rfl⟩ := List.getElem_of_mem hx
    obtain ⟨j, hj, rfl⟩ := List.getElem_of_mem hy
    rw [h.at_ i _ (List.getElem?_eq_getElem hi), h.at_ j _ (List.getElem?_eq_getElem hj)]
    have hji : j ≤ i := by
      refine Nat.le_of_not_lt (fun hlt => ?_)
      have h1 := hu.sorted i j (Nat.zero_le _) hlt hj
      simp only [List.getD_eq_getElem?_getD, List.getElem?_eq_getElem hi, List.getElem?_eq_getElem hj, Option.getD_some] at h1
      omega
    have := depth_mono ls j i hji
    omega
end Go.Proofs.YtmmilchmnimjoaaGreat
/- Lengths. -/
namespace Go.Proofs.YtmmilchmnimjoaaGreat
open Go.RowKit
set_option linter.unusedVariables false
set_option linter.unusedSimpArgs false
def Fine (cs : List Int) (most : Int) : Prop := cntOk cs = true ∧ 1 ≤ most ∧ most ≤ 15 ∧ (usedTo cs cs.length).length ≤ 2 ^ most.toNat
theorem w64_pow (k : Nat) (h : k ≤ 15) : wrap64 ((2 : Int) ^ k) = ((2 ^ k : Nat) : Int) := by
  have h2 : 2 ^ k ≤ 2 ^ 15 := Nat.pow_le_pow_right (by omega) h
  have e : ((2 : Int)) ^ k = ((2 ^ k : Nat) : Int) := by simp
  rw [e]
  obtain ⟨p, hp⟩ : ∃ p : Nat, p = 2 ^ k := ⟨_, rfl⟩
  rw [← hp] at h2 ⊢
  have h3 : p ≤ 32768 := h2
  unfold wrap64
  omega
def LenTo (w : World) (cs : List Int) (most : Nat) (e : Ending) (w' : World) : Prop :=
  ∃ A c d D, e = .returned (.tuple #[.slice A D.length c, .int .i64 0]) ∧ w'.ownsRow 0 3 1 (.slice A D.length c) D.length (icells D) ∧ UsedIs cs d ∧ LensOk cs most d D ∧ Chg NoS w w'
set_option maxHeartbeats 4000000 in
set_option maxRecDepth 100000 in
theorem lengths_ok (cs : List Int) (A : Option Addr) (c : Nat) (k : Nat) (w : World) (hL : cs.length ≤ 1000) (hS : Src w 1 A cs.length c (icells cs)) (hF : Fine cs k) :
    Calls Tryz.prog 134 #[.slice A cs.length c, .int .i64 k] w (LenTo w cs k) := by
  obtain ⟨hok, hk1, hk2, hle⟩ := hF
  rw [Int.toNat_natCast] at hle
  have hc3 := of_decide_eq_true hok
  have HS := keepf hS
  have HK := keepf hc3.2.2
  have HMC := keepf (mayCount_any cs A c w hL hS)
  rw [hok] at HMC
  have HFI := keepf (first_any cs A c w hc3.1 hL hS)
  have HLE : Hid (∀ d, UsedIs cs d → d.length ≤ 2 ^ k) := fun d hd => by rw [hd.perm.length_eq]; exact hle
  have hn1 : 1 ≤ cs.length := hc3.1
  have d1 : decide ((k : Int) < 1) = false := by simp; omega
  have d2 : decide ((15 : Int) < k) = false := by simp; omega
  obtain ⟨i0, hi, hz0, hz1, hz2⟩ := info_parts info_int
  clear hS hc3 hok hle
  go_enter Tryz.func134, Tryz.ntmps134
  go_upto_region 7 with (first
    | (go_at_call 147; refine HMC.out.mono ?_; rintro e w' ⟨rfl, rfl⟩)
    | (go_at_call 148; refine HFI.out.mono ?_; rintro e w2 ⟨A2, c2, d, rfl, ho2, hu2, hc2, hf2⟩; have HO2 := keepf ho2; have HU2 := keepf hu2; have HC2 := keepf hc2; have HF2 := keepf hf2; have d3 : decide (wrap64 ((2 : Int) ^ k) < (d.length : Int)) = false := (by have := HLE.out d hu2; rw [w64_pow k (by omega)]; exact decide_eq_false (by omega)); clear ho2 hu2 hc2 hf2)
    | (at_make; go_loud (refine wpList_make_full _ rfl (.tmp 27) (.tmp 27) 63 rfl 0 3 i0 (.int .i64 0) 1 Tryz.underlying63 hi hz0 hz1 .i64 .i64 _ _ cs.length rfl rfl rfl rfl (by rw [hz2]; omega) (by unfold maxLen; omega) (Nat.zero_le _) ?_); intro w3 hown3 hgr; have HO3 := keepf hown3; have HG3 := keepf hgr; clear hown3 hgr))
  have hz : (madeCells (Value.int .i64 0).cells (cs.length * 1)).toList = icells (List.replicate cs.length 0) := by
    rw [Nat.mul_one]
    exact (toList_madeCells_one _ _).trans (by simp [icells])
  have hRow : Row w3 w2.heap.size cs.length (List.replicate cs.length 0) := by
    show w3.ownsRow _ _ _ (.slice _ (List.replicate cs.length (0 : Int)).length _) (List.replicate cs.length (0 : Int)).length _
    rw [List.length_replicate, ← hz]
    exact HO3.out
  have hC3 : Chg NoS w2 w3 := (Chg.refl NoS w2).grown HG3.out (fun _ e _ => by cases e)
  have HR := keepf hRow
  have HC3 := keepf (HC2.out.trans hC3 (fun _ _ h => h))
  have HO23 := keepf (own_chg (S := NoS) HO2.out hC3 (fun _ _ h => h))
  have hs2 := HC2.out.size
  have hrep : ∀ y, (List.replicate cs.length (0 : Int)).getD y 0 = 0 := fun y => by
    rw [List.getD_eq_getElem?_getD, List.getElem?_replicate]
    split <;> rfl
  have HREP := keepf hrep
  have hlow : ∀ a, A2 = some a → a.block ≠ w2.heap.size := by
    rintro a rfl
    have := own_lt HO2.out rfl
    omega
  have HLOW := keepf hlow
  clear hz hRow hC3 hrep hlow
  by_cases hd0 : d.length = 0
  · obtain rfl : d = [] := List.eq_nil_of_length_eq_zero hd0
    simp only [List.length_nil]
    go_wp2_with fail
    go_ret2
    refine ⟨some ⟨w2.heap.size, 0, none⟩, cs.length, [], List.replicate cs.length 0, ?_, HR.out, HU2.out, ⟨List.length_replicate, fun y _ => HREP.out y, fun x hx => (by cases hx), fun e => (by cases e), fun x hx => (by cases hx), ?_, fun e => (by simp at e), fun e => (by simp at e)⟩, HC3.out⟩
    · simp
    · rw [rmOf_zero _ (fun y _ => HREP.out y)]; omega
  · have hgd : Good cs.length d := fun x hx => by
      have h1 := (usedTo_mem cs cs.length x).1 (HU2.out.perm.mem_iff.1 hx)
      exact ⟨h1.1, h1.2.1⟩
    obtain ⟨bd, cd, hA, hcd, _⟩ := own_form HO2.out (by omega)
    injection hA with hA1 hA2 hA3
    subst hA1
    subst hA3
    clear hA2
    by_cases hd1 : d.length = 1
    · obtain ⟨x, rfl⟩ : ∃ x, d = [x] := List.length_eq_one_iff.1 hd1
      have hx := hgd x (List.mem_singleton.2 rfl)
      obtain ⟨x, rfl⟩ := Int.eq_ofNat_of_zero_le hx.1
      have c1 : w3.cell? ⟨bd, 0, none⟩ = some (.int .i64 x) := World.ownsRow.cellAt HO23.out 0 (by simp)
      have c2 := HR.out.cell x (by rw [List.length_replicate]; omega)
      have f2 := HR.out.frozen x
      have j1 : (0 : Int) ≤ x := by omega
      have j2 : (x : Int) < cs.length := by omega
      simp only [List.length_singleton] at d3 ⊢
      clear hgd hx hd0 hd1
      go_wp2_with fail
      go_ret2
      have hrow := HR.out.set x 1
      refine ⟨some ⟨w2.heap.size, 0, none⟩, cs.length, [(x : Int)], (List.replicate cs.length 0).set x 1, ?_, hrow, HU2.out, ?_, HC3.out.setCell (fun h => absurd h (by simp; omega)) _⟩
      · simp
      · have hxl : x < cs.length := by omega
        have hat : ((List.replicate cs.length (0 : Int)).set x 1).getD x 0 = 1 := by
          rw [List.getD_eq_getElem?_getD, List.getElem?_set, if_pos rfl, if_pos (by simp; omega)]
          rfl
        have hrm := rmOf_set 1 (List.replicate cs.length 0) x (by simp; omega)
        rw [HREP.out, rmOf_zero _ (fun y _ => HREP.out y)] at hrm
        have e1 : rm1 0 = 0 := rfl
        have e2 : rm1 1 = 16384 := rfl
        refine ⟨by simp, fun y hy => ?_, fun z hz => ?_, fun _ z hz => ?_, fun z hz y hy hlt => ?_, by omega, fun e => by simp at e, fun e => by simp at e⟩
        · rw [List.getD_eq_getElem?_getD, List.getElem?_set, if_neg (by rintro rfl; exact hy (List.mem_singleton.2 rfl)), ← List.getD_eq_getElem?_getD]
          exact HREP.out y
        · rw [List.mem_singleton] at hz
          subst hz
          rw [Int.toNat_natCast, hat]
          omega
        · rw [List.mem_singleton] at hz
          subst hz
          rw [Int.toNat_natCast, hat]
        · rw [List.mem_singleton] at hz hy
          subst hz
          subst hy
          omega
    · have hN : 2 ≤ d.length := by omega
      have hdl : d.length ≤ 1000 := by
        have h1 := HU2.out.perm.length_eq
        have h2 := usedTo_len cs cs.length
        omega
      have HLV := keepf (levels_any cs d A (some ⟨bd, 0, none⟩) c c2 k w3 (HS.out.below (w0 := w) HC3.out) (src_own HO23.out) (by omega) hdl hgd HK.out (by omega) (by omega))
      have hnd : d.Nodup := HU2.out.perm.nodup_iff.2 (usedTo_nodup cs cs.length)
      have hle := HLE.out d HU2.out
      have hf : ∀ x ∈ leaves cs d, x.2 = false := fun x hx => by
        obtain ⟨v, _, rfl⟩ := List.mem_map.1 hx
        rfl
      have hup : Up (leaves cs d) := by
        refine List.pairwise_iff_getElem.2 (fun i j hi hj hij => ?_)
        have h1 := HU2.out.sorted i j (Nat.zero_le _) hij (by simpa [leaves] using hj)
        have hi2 : i < d.length := by simpa [leaves] using hi
        have hj2 : j < d.length := by simpa [leaves] using hj
        simp only [List.getD_eq_getElem?_getD, List.getElem?_eq_getElem hi2, List.getElem?_eq_getElem hj2, Option.getD_some] at h1
        simpa [leaves] using h1
      have hSl : (leaves cs d).length = d.length := by simp [leaves]
      have hk1n : 1 ≤ k := by omega
      have hk2n : k ≤ 15 := by omega
      have hT : 2 * d.length - 2 ≤ (levelOf (leaves cs d) (k - 1)).length := by
        obtain ⟨M, rfl⟩ : ∃ M, k = M + 1 := ⟨k - 1, by omega⟩
        have hlong := level_long (leaves cs d) M 2 (by rw [hSl]; rw [Nat.pow_succ] at hle; omega)
        rw [hSl] at hlong
        rw [Nat.add_sub_cancel]
        omega
      have HSH : Hid (∀ g5 c5 Ls w5, Ls.length = k → LevsAt w3 w5 (leaves cs d) (some ⟨g5, 0, none⟩) c5 Ls → Calls Tryz.prog 149 #[.slice (some ⟨w2.heap.size, 0, none⟩) cs.length cs.length, .slice (some ⟨g5, 0, none⟩) k c5, .slice (some ⟨bd, 0, none⟩) d.length c2] w5 fun e w' =>
          e = .returned (.tuple #[]) ∧ ∃ D, Row w' w2.heap.size cs.length D ∧ LenIs D cs.length d (depth (leavesOf (leaves cs d) (k - 1) (2 * d.length - 2))) ∧ Chg (fun i => i = w2.heap.size) w5 w') := by
        intro g5 c5 Ls w5 hl5 hv5
        have ho := hv5.o
        rw [hl5] at ho
        refine callsIn_wide.1 (share_in w2.heap.size cs.length cs.length g5 c5 k d (some ⟨bd, 0, none⟩) c2 (leaves cs d) Ls (List.replicate cs.length 0) w5 (HR.out.chg hv5.c (fun h => h)) List.length_replicate ((src_own HO23.out).below (w0 := w3) hv5.c) HLOW.out hN hdl hgd hnd hcd hSl hf hup hl5 hk1n hk2n hT ho hv5.l ⟨List.length_replicate, fun i x _ => HREP.out _, fun y _ => HREP.out y⟩)
      have HOK := keepf (fun D h => lens_ok (D := D) HU2.out hN hk1n hk2n hle HK.out h)
      have e0 : ((d.length : Int) == 0) = false := beq_eq_false_iff_ne.2 (by omega)
      have e1 : ((d.length : Int) == 1) = false := beq_eq_false_iff_ne.2 (by omega)
      clear hgd hnd hle hf hup hSl hT hN hdl hd0 hd1 hcd
      go_wp2_with (first
        | (go_at_call 150; refine HLV.out.mono ?_; rintro e w5 ⟨A5, c5, Ls, rfl, hl5, hv5⟩; obtain ⟨g5, cg5, hA5, _, _⟩ := own_form hv5.o (by omega); injection hA5 with hA51 hA52 hA53; subst hA51; subst hA53; clear hA52; have HL5 := keepf hl5; have HV5 := keepf hv5; rw [hl5]; clear hl5 hv5)
        | (go_at_call 149; go_loud (refine (HSH.out _ _ _ _ HL5.out HV5.out).mono ?_); rintro e w6 ⟨rfl, D, hr6, hl6, hc6⟩; have HR6 := keepf hr6; have HL6 := keepf hl6; have HC6 := keepf hc6; clear hr6 hl6 hc6))
      have hD := HL6.out.len
      have hr := HR6.out
      go_ret2
      refine ⟨some ⟨w2.heap.size, 0, none⟩, cs.length, d, D, ?_, hr, HU2.out, HOK.out D HL6.out, ((HC3.out.trans HV5.out.c (fun _ _ h => h)).trans HC6.out (fun i h1 h2 => by omega))⟩
      simp [hD]
end Go.Proofs.YtmmilchmnimjoaaGreat
