/- The walk of LexStays: what is told of the first bytes stays. -/
import Derived.Test.YtmmehaghcfdjdaaLSt
import Derived.Test.YtmmehaghcfdjdaaLexC
import Derived.Deep.RegionHeld3
import Derived.BigRegion
namespace Go.Proofs.Ytmmehaghcfdjdaa
open Go.RowKit
set_option linter.unusedVariables false
set_option linter.unusedSimpArgs false
set_option maxHeartbeats 8000000 in
set_option maxRecDepth 100000 in
theorem staysW (H : LexOk) (bs : List Nat) (A : Option Addr) (c : Nat) (p : Int) (N : Nat) (last : Bool) (w : World) (hS : Src w 1 A bs.length c (lcells bs)) (hm : bs.length ≤ maxLen) (hb : ∀ x ∈ bs, x < 256) (hc : bs.length ≤ c) (hN : N < 65536) :
    Calls Try.prog 6 #[.agg #[.slice A bs.length c, .int .i64 p, .int .u16 (N : Nat)], .bool last] w fun e w' => e = .returned (.bool true) ∧ Chg NoS w w' := by
  have HW := keepf (fun W => works_any10 H W)
  unfold maxLen at hm
  have HNX := keepf (fun (W : World) (h : Chg NoS w W) => H.next bs A c p last W (Src.below (w0 := w) hS h))
  obtain ⟨n, hn⟩ : ∃ n, n = bs.length := ⟨_, rfl⟩
  have HBC := keepf (Blk.new w 47 #[.slice A n c, .int .i64 p, .int .u16 (N : Nat)])
  have HC0 := keepf ((Chg.refl NoS w).alloc (.cells #[.slice A n c, .int .i64 p, .int .u16 (N : Nat)] 47))
  obtain ⟨W0, hW⟩ : ∃ W0, W0 = w.alloc (.cells #[.slice A n c, .int .i64 p, .int .u16 (N : Nat)] 47) := ⟨_, rfl⟩
  obtain ⟨g0, hg⟩ : ∃ g0, g0 = w.heap.size := ⟨_, rfl⟩
  rw [← hW] at HBC HC0
  rw [← hg] at HBC
  have q0 := HBC.out.cell 0
  have q1 := HBC.out.cell 1
  have q2 := HBC.out.cell 2
  simp at q0 q1 q2
  have HN := keepf hn
  rw [← hn] at hm hc ⊢
  by_cases h4 : n ≤ 400
  · obtain ⟨k, hk⟩ : ∃ k, k = N % (n + 1) := ⟨_, rfl⟩
    have hkn : k ≤ n := by have := Nat.mod_lt N (show 0 < n + 1 by omega); omega
    have e1 : (N : Int) % ((n : Int) + 1) = (k : Nat) := by rw [hk]; rfl
    have d4 : decide ((400 : Int) < n) = false := by simp; omega
    have d4' : decide (400 < n) = false := by simp; omega
    by_cases hcase : p < 0 ∨ (k : Int) < p
    · clear H hS hb hc HNX hn hk
      have hcl : p < 0 ∨ (0 ≤ p ∧ (k : Int) < p) := by omega
      clear hcase
      rcases hcl with h | ⟨h, h2⟩
      all_goals
        go_enter Try.func6, Try.ntmps6
        go_upto_region 1 with fail
        rw [← hg, ← hW]
        clear hg hW
        go_quiet (fail)
        go_wp2_with (go_at_call 8; refine (HW.out _).mono ?_; rintro e wx ⟨rfl, hcx⟩; have HCx := keepf hcx; clear hcx)
        go_ret
        exact ⟨rfl, (HC0.out.drewN nq).trans HCx.out (fun _ _ e => e)⟩
    · obtain ⟨P, rfl⟩ : ∃ P : Nat, p = P := ⟨p.toNat, by omega⟩
      have hP : P ≤ k := by omega
      have hP2 : ¬ (k : Int) < P := by omega
      have hkc : k ≤ c := by omega
      have hST : Src w 1 A k c (lcells (bs.take k)) := by
        have h := src_cutL (lo := 0) (m := k) hS (by rw [← hn]; exact hc) (by omega)
        rw [cutL_zero, List.drop_zero, Nat.sub_zero] at h
        unfold lcells at h ⊢
        rwa [← List.map_take] at h
      have htl : (bs.take k).length = k := by rw [List.length_take]; omega
      have HNT := keepf (fun (W : World) (h : Chg NoS w W) (la : Bool) => by
        have h' := H.next (bs.take k) A c (P : Nat) la W (by rw [htl]; exact Src.below (w0 := w) hST h) (by omega) (by omega) (fun x hx => hb x (List.mem_of_mem_take hx))
        rw [htl] at h'
        exact h')
      have hA1 : ∀ la, nextA (bs.take k) (P : Nat) la = nextO (bs.take k) P la := fun la => by
        unfold nextA
        rw [if_neg (by rw [htl]; omega)]
        rfl
      have hA2 : nextA bs (P : Nat) last = nextO bs P last := by
        unfold nextA
        rw [if_neg (by omega)]
        rfl
      have hto : ∀ W : World, (Instr.sliceAt 22 (.slice A n c) none (some (.int .i64 (k : Nat))) none).run Try.prog W = .ok (.slice A k c) W := fun W => toL A n c k hkc W
      have H1 := fun (W : World) (h : Chg NoS w W) => HNT.out W h false
      rw [hA1 false] at H1
      have HNZ := fun (W : World) (h : Chg NoS w W) => HNX.out W h (by omega) (by omega) hb
      rw [hA2] at HNZ
      have HNU := fun (W : World) (h : Chg NoS w W) => HNT.out W h true
      rw [hA1 true] at HNU
      have hst := nextO_stays bs k P last (by omega) hP
      obtain ⟨R, hR⟩ : ∃ R, R = nextO (bs.take k) P false := ⟨_, rfl⟩
      rw [← hR] at H1 hst
      obtain ⟨er, t⟩ := R
      have HOF0 := fun W => of10_any t W
      have HSM0 := fun W => same10_eq t W
      obtain ⟨k0, k1, k2, k3, k4, vs, s⟩ := t
      unfold tknV at HOF0 HSM0
      unfold NxTo tknV at H1
      simp only [] at H1 HOF0 HSM0 hst
      obtain ⟨S5, h5⟩ : ∃ S5, S5 = sb vs := ⟨_, rfl⟩
      obtain ⟨S7, h7⟩ : ∃ S7, S7 = sb s := ⟨_, rfl⟩
      by_cases her : er = 6
      · rw [← h5, ← h7] at H1
        have HX := keepf H1
        subst her
        clear H H1 hS hb hc HNX HNT HNU HNZ hst hA1 hA2 hR h5 h7 hn hk HOF0 HSM0 hcase hST htl
        go_enter Try.func6, Try.ntmps6
        go_upto_region 1 with fail
        rw [← hg, ← hW]
        clear hg hW
        go_quiet (fail)
        go_wp2_with (first
          | (go_at_call 9; refine (HX.out _ (HC0.out.drewN nq)).mono ?_; rintro e w2 ⟨rfl, hc2⟩; have HC2 := keepf ((HC0.out.drewN nq).trans hc2 (fun _ _ e => e)); clear hc2)
          | (go_at_call 8; refine (HW.out _).mono ?_; rintro e wx ⟨rfl, hcx⟩; have HCx := keepf hcx; clear hcx))
        go_ret
        exact ⟨rfl, (HC2.out.alloc _).trans HCx.out (fun _ _ e => e)⟩
      · obtain ⟨hs1, hs2⟩ := hst her
        rw [hs1] at HNZ
        rw [hs2] at HNU
        unfold NxTo tknV at HNZ HNU
        simp only [] at HNZ HNU
        rw [← h5, ← h7] at H1 HNZ HNU HOF0 HSM0
        have HX := keepf H1
        have HY := keepf HNZ
        have HZ := keepf HNU
        rw [← hn] at HY
        have v2 : (er == 6) = false := by simpa using her
        have v3 : (er != 6) = true := by simpa using her
        clear H H1 hS hb hc HNX HNT HNU HNZ hst hA1 hA2 hR h5 h7 hn hk hcase hST htl hs1 hs2 her
        go_enter Try.func6, Try.ntmps6
        go_upto_region 1 with fail
        rw [← hg, ← hW]
        clear hg hW
        go_quiet (fail)
        go_upto_region 8 with (go_at_call 9; refine (HX.out _ (HC0.out.drewN nq)).mono ?_; rintro e w2 ⟨rfl, hc2⟩; have HC2 := keepf ((HC0.out.drewN nq).trans hc2 (fun _ _ e => e)); clear hc2)
        have HB2 := keepf (Blk.new w2 28 #[.int .i64 (k0 : Nat), .int .i64 (k1 : Nat), .int .i64 (k2 : Nat), .int .i64 (k3 : Nat), .int .i64 k4, .string S5, .slice none 0 0, .string S7])
        have HC23 := keepf (HC2.out.alloc (.cells #[.int .i64 (k0 : Nat), .int .i64 (k1 : Nat), .int .i64 (k2 : Nat), .int .i64 (k3 : Nat), .int .i64 k4, .string S5, .slice none 0 0, .string S7] 28))
        obtain ⟨W2, hW⟩ : ∃ W2, W2 = w2.alloc (.cells #[.int .i64 (k0 : Nat), .int .i64 (k1 : Nat), .int .i64 (k2 : Nat), .int .i64 (k3 : Nat), .int .i64 k4, .string S5, .slice none 0 0, .string S7] 28) := ⟨_, rfl⟩
        obtain ⟨g, hg⟩ : ∃ g, g = w2.heap.size := ⟨_, rfl⟩
        rw [← hW] at HB2 HC23
        rw [← hg] at HB2
        rw [← hW, ← hg]
        clear hW hg
        go_upto_region 11 with (go_at_call 9; refine (HY.out _ HC23.out).mono ?_; rintro e w3 ⟨rfl, hc3⟩; have HB3 := keepf (HB2.out.chg hc3 (fun e => e)); have HC3 := keepf (HC23.out.trans hc3 (fun _ _ e => e)); clear hc3)
        have HD3 := keepf (Blk.new w3 28 #[.int .i64 (k0 : Nat), .int .i64 (k1 : Nat), .int .i64 (k2 : Nat), .int .i64 (k3 : Nat), .int .i64 k4, .string S5, .slice none 0 0, .string S7])
        have HC33 := keepf (HC3.out.alloc (.cells #[.int .i64 (k0 : Nat), .int .i64 (k1 : Nat), .int .i64 (k2 : Nat), .int .i64 (k3 : Nat), .int .i64 k4, .string S5, .slice none 0 0, .string S7] 28))
        obtain ⟨W3, hW⟩ : ∃ W3, W3 = w3.alloc (.cells #[.int .i64 (k0 : Nat), .int .i64 (k1 : Nat), .int .i64 (k2 : Nat), .int .i64 (k3 : Nat), .int .i64 k4, .string S5, .slice none 0 0, .string S7] 28) := ⟨_, rfl⟩
        obtain ⟨g4, hg⟩ : ∃ g4, g4 = w3.heap.size := ⟨_, rfl⟩
        have HB33 := keepf (HB3.out.alloc (.cells #[.int .i64 (k0 : Nat), .int .i64 (k1 : Nat), .int .i64 (k2 : Nat), .int .i64 (k3 : Nat), .int .i64 k4, .string S5, .slice none 0 0, .string S7] 28))
        rw [← hW] at HB33
        rw [← hW] at HD3 HC33
        rw [← hg] at HD3
        rw [← hW, ← hg]
        clear hW hg
        go_upto_region 12 with (go_at_call 9; refine (HZ.out _ HC33.out).mono ?_; rintro e w4 ⟨rfl, hc4⟩; have HB4 := keepf (HB33.out.chg hc4 (fun e => e)); have HD4 := keepf (HD3.out.chg hc4 (fun e => e)); have HC4 := keepf (HC33.out.trans hc4 (fun _ _ e => e)); clear hc4)
        have hst : LSt w g g4 w4.heap.size #[.int .i64 (k0 : Nat), .int .i64 (k1 : Nat), .int .i64 (k2 : Nat), .int .i64 (k3 : Nat), .int .i64 k4, .string S5, .slice none 0 0, .string S7] (w4.alloc (.cells #[.int .i64 (k0 : Nat), .int .i64 (k1 : Nat), .int .i64 (k2 : Nat), .int .i64 (k3 : Nat), .int .i64 k4, .string S5, .slice none 0 0, .string S7] 28)) := ⟨HB4.out.alloc _, HD4.out.alloc _, Blk.new w4 28 #[.int .i64 (k0 : Nat), .int .i64 (k1 : Nat), .int .i64 (k2 : Nat), .int .i64 (k3 : Nat), .int .i64 k4, .string S5, .slice none 0 0, .string S7], HC4.out.alloc _⟩
        obtain ⟨W4, hW⟩ : ∃ W4, W4 = w4.alloc (.cells #[.int .i64 (k0 : Nat), .int .i64 (k1 : Nat), .int .i64 (k2 : Nat), .int .i64 (k3 : Nat), .int .i64 k4, .string S5, .slice none 0 0, .string S7] 28) := ⟨_, rfl⟩
        obtain ⟨g5, hg⟩ : ∃ g5, g5 = w4.heap.size := ⟨_, rfl⟩
        rw [← hW, ← hg] at hst
        rw [← hW, ← hg]
        clear hW hg
        have hsd := hst.drew
        have hq := hst
        obtain ⟨_, _, _, _, _, _, _, _, _, _, _, _, _, _, _, _, _, _, _, _, _, _, _, _⟩ := hq.cells
        have HOF := keepf (LSt.of_ (w := w) (g := g) (g4 := g4) (g5 := g5) (cs := #[.int .i64 (k0 : Nat), .int .i64 (k1 : Nat), .int .i64 (k2 : Nat), .int .i64 (k3 : Nat), .int .i64 k4, .string S5, .slice none 0 0, .string S7]) HOF0)
        have HSM := keepf (LSt.of_ (w := w) (g := g) (g4 := g4) (g5 := g5) (cs := #[.int .i64 (k0 : Nat), .int .i64 (k1 : Nat), .int .i64 (k2 : Nat), .int .i64 (k3 : Nat), .int .i64 k4, .string S5, .slice none 0 0, .string S7]) HSM0)
        have HWK := keepf (LSt.of_ (w := w) (g := g) (g4 := g4) (g5 := g5) (cs := #[.int .i64 (k0 : Nat), .int .i64 (k1 : Nat), .int .i64 (k2 : Nat), .int .i64 (k3 : Nat), .int .i64 k4, .string S5, .slice none 0 0, .string S7]) HW.out)
        clear hq hst HOF0 HSM0
        first
          | (go_loud (go_region_held3 (fun w' => w'.cell? ⟨g, 0, none⟩ = some (.int .i64 (k0 : Nat)) ∧ w'.cell? ⟨g, 1, none⟩ = some (.int .i64 (k1 : Nat)) ∧ w'.cell? ⟨g, 2, none⟩ = some (.int .i64 (k2 : Nat)) ∧ w'.cell? ⟨g, 3, none⟩ = some (.int .i64 (k3 : Nat)) ∧ w'.cell? ⟨g, 4, none⟩ = some (.int .i64 k4) ∧ w'.cell? ⟨g, 5, none⟩ = some (.string S5) ∧ w'.cell? ⟨g, 6, none⟩ = some (.slice none 0 0) ∧ w'.cell? ⟨g, 7, none⟩ = some (.string S7) ∧ w'.cell? ⟨g4, 0, none⟩ = some (.int .i64 (k0 : Nat)) ∧ w'.cell? ⟨g4, 1, none⟩ = some (.int .i64 (k1 : Nat)) ∧ w'.cell? ⟨g4, 2, none⟩ = some (.int .i64 (k2 : Nat)) ∧ w'.cell? ⟨g4, 3, none⟩ = some (.int .i64 (k3 : Nat)) ∧ w'.cell? ⟨g4, 4, none⟩ = some (.int .i64 k4) ∧ w'.cell? ⟨g4, 5, none⟩ = some (.string S5) ∧ w'.cell? ⟨g4, 6, none⟩ = some (.slice none 0 0) ∧ w'.cell? ⟨g4, 7, none⟩ = some (.string S7) ∧ w'.cell? ⟨g5, 0, none⟩ = some (.int .i64 (k0 : Nat)) ∧ w'.cell? ⟨g5, 1, none⟩ = some (.int .i64 (k1 : Nat)) ∧ w'.cell? ⟨g5, 2, none⟩ = some (.int .i64 (k2 : Nat)) ∧ w'.cell? ⟨g5, 3, none⟩ = some (.int .i64 (k3 : Nat)) ∧ w'.cell? ⟨g5, 4, none⟩ = some (.int .i64 k4) ∧ w'.cell? ⟨g5, 5, none⟩ = some (.string S5) ∧ w'.cell? ⟨g5, 6, none⟩ = some (.slice none 0 0) ∧ w'.cell? ⟨g5, 7, none⟩ = some (.string S7))
              (first | (go_keep; done) | (go_split_ands; exact ⟨by assumption, by assumption, by assumption, by assumption, by assumption, by assumption, by assumption, by assumption, by assumption, by assumption, by assumption, by assumption, by assumption, by assumption, by assumption, by assumption, by assumption, by assumption, by assumption, by assumption, by assumption, by assumption, by assumption, by assumption⟩))
              (first
                | (go_at_call 12; refine (HOF.out _ (by assumption)).mono ?_; rintro e wq ⟨rfl, hq⟩; obtain ⟨_, _, _, _, _, _, _, _, _, _, _, _, _, _, _, _, _, _, _, _, _, _, _, _⟩ := hq.cells)
                | (go_at_call 11; refine (HSM.out _ (by assumption)).mono ?_; rintro e wq ⟨rfl, hq⟩; obtain ⟨_, _, _, _, _, _, _, _, _, _, _, _, _, _, _, _, _, _, _, _, _, _, _, _⟩ := hq.cells)
                | (go_at_call 8; refine (HWK.out _ (by assumption)).mono ?_; rintro e wq ⟨rfl, hq⟩; obtain ⟨_, _, _, _, _, _, _, _, _, _, _, _, _, _, _, _, _, _, _, _, _, _, _, _⟩ := hq.cells))))
          | fail "region"
        go_wp2_with fail
        go_ret
        exact ⟨rfl, (by assumption : LSt w g g4 g5 #[.int .i64 (k0 : Nat), .int .i64 (k1 : Nat), .int .i64 (k2 : Nat), .int .i64 (k3 : Nat), .int .i64 k4, .string S5, .slice none 0 0, .string S7] _).chg⟩
  · have d4 : decide ((400 : Int) < n) = true := by simp; omega
    have d4' : decide (400 < n) = true := by simp; omega
    clear H hS hb hc HNX hn h4
    go_enter Try.func6, Try.ntmps6
    go_upto_region 1 with fail
    rw [← hg, ← hW]
    clear hg hW
    go_quiet (fail)
    go_wp2_with (go_at_call 8; refine (HW.out _).mono ?_; rintro e wx ⟨rfl, hcx⟩; have HCx := keepf hcx; clear hcx)
    go_ret
    exact ⟨rfl, (HC0.out.drewN nq).trans HCx.out (fun _ _ e => e)⟩
end Go.Proofs.Ytmmehaghcfdjdaa
