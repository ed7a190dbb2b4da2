/- Merged by program: ZUn. -/
import Derived.Test.YtmmilchmnimjoaaGreatN09
import Derived.Test.YtmmilchmnimjoaaGreatN33
import Derived.Test.YtmmilchmnimjoaaGreatN36
import Derived.StillTailTactics
import Derived.Deep.Cut
/- checkSum and Unpack of zlib: the results lie in cells, which a deferred call sets to nothing beside an error. -/
namespace Go.Proofs.YtmmilchmnimjoaaGreat
open Go.RowKit
set_option linter.unusedVariables false
set_option linter.unusedSimpArgs false
set_option maxRecDepth 100000 in
theorem zsum_any (q out : List Nat) (A A2 : Option Addr) (r c c2 : Nat) (w : World) (hr : 4 ≤ r) (hr9 : r ≤ 1000000) (hrc : r ≤ c) (hq : q.length = 4) (hS : Src w 1 A 4 c (ucells q)) (hqb : ∀ x ∈ q, x < 256) (hO : Src w 1 A2 out.length c2 (ucells out)) (hc2 : out.length ≤ c2) (hob : ∀ x ∈ out, x < 256) (hol : out.length ≤ 1048576) :
    Calls Tryz.prog 18 #[.slice A r c, .slice A2 out.length c2] w fun e w' => ∃ k : Int, e = .returned (.int .i64 k) ∧ Chg NoS w w' ∧ (k = 0 ∧ q = b4 (sumA out) ∨ k = 12 ∧ q ≠ b4 (sumA out)) := by
  have d4 : decide ((r : Int) < 4) = false := by simp; omega
  have d4' : decide (r < 4) = false := by simp; omega
  have hto4 : ∀ W : World, (Instr.sliceAt 22 (.slice A r c) none (some (.int .i64 4)) none).run Tryz.prog W = .ok (.slice A 4 c) W := fun W => toB A r c 4 (by omega) W
  have HAV := keepf (aval_src q hq A c w hS hqb)
  have HAS := keepf (fun (W : World) (h : Chg NoS w W) => asum_src out A2 c2 W (Src.below (w0 := w) hO h) hc2 hob hol)
  have hsx := sum_lt out
  obtain ⟨x, hx⟩ : ∃ x, x = sumA out := ⟨_, rfl⟩
  obtain ⟨m, hm⟩ : ∃ m, m = out.length := ⟨_, rfl⟩
  rw [← hx] at HAS hsx ⊢
  rw [← hm] at HAS hol ⊢
  clear hS hq hqb hO hc2 hob hx hm hr hrc
  go_enter Tryz.func18, Tryz.ntmps18
  go_upto_region 4 with (go_at_call 32; refine HAV.out.mono ?_; rintro e w3 ⟨v, rfl, hc3, hv, hiff⟩; have HC3 := keepf hc3; have HIFF := keepf (hiff x hsx); clear hc3 hiff)
  by_cases hvx : v = x
  · subst hvx
    have v1 : ((v : Int) != (v : Int)) = false := by simp
    go_wp2_with (go_at_call 27; refine (HAS.out _ HC3.out).mono ?_; rintro e w4 ⟨rfl, hc4⟩; have HC4 := keepf (HC3.out.trans hc4 (fun _ _ e => e)); clear hc4)
    go_ret
    exact ⟨0, rfl, HC4.out, .inl ⟨rfl, HIFF.out.1 (by simp)⟩⟩
  · have v1 : ((v : Int) != (x : Int)) = true := by simp; omega
    have v2 : ((v : Int) == (x : Int)) = false := by simp; omega
    have HVX := keepf hvx
    go_wp2_with (go_at_call 27; refine (HAS.out _ HC3.out).mono ?_; rintro e w4 ⟨rfl, hc4⟩; have HC4 := keepf (HC3.out.trans hc4 (fun _ _ e => e)); clear hc4)
    go_ret
    exact ⟨12, rfl, HC4.out, .inr ⟨rfl, fun h => HVX.out (HIFF.out.2 h)⟩⟩
theorem zsum_all (T out : List Nat) (A A2 : Option Addr) (r c c2 : Nat) (w : World) (hT : T.length = r) (hr9 : r ≤ 1000000) (hrc : r ≤ c) (hS : Src w 1 A r c (ucells T)) (hTb : ∀ x ∈ T, x < 256) (hO : Src w 1 A2 out.length c2 (ucells out)) (hc2 : out.length ≤ c2) (hob : ∀ x ∈ out, x < 256) (hol : out.length ≤ 1048576) :
    Calls Tryz.prog 18 #[.slice A r c, .slice A2 out.length c2] w fun e w' => ∃ k : Int, e = .returned (.int .i64 k) ∧ Chg NoS w w' ∧ (k = 10 ∧ r < 4 ∨ k = 0 ∧ 4 ≤ r ∧ T.take 4 = b4 (sumA out) ∨ k = 12 ∧ 4 ≤ r ∧ T.take 4 ≠ b4 (sumA out)) := by
  by_cases h4 : r < 4
  · refine (zsum_short A A2 r c out.length c2 w h4).mono ?_
    rintro e w' ⟨rfl, hc⟩
    exact ⟨10, rfl, hc, .inl ⟨rfl, h4⟩⟩
  · refine (zsum_any (T.take 4) out A A2 r c c2 w (by omega) hr9 hrc (by rw [List.length_take]; omega) (src_toU hS hrc (by omega)) (fun x hx => hTb x (List.mem_of_mem_take hx)) hO hc2 hob hol).mono ?_
    rintro e w' ⟨k, rfl, hc, ⟨rfl, h⟩ | ⟨rfl, h⟩⟩
    · exact ⟨0, rfl, hc, .inr (.inl ⟨rfl, by omega, h⟩)⟩
    · exact ⟨12, rfl, hc, .inr (.inr ⟨rfl, by omega, h⟩)⟩
theorem zcheck_s (l : List Nat) (A : Option Addr) (c : Nat) (w : World) (hl : l.length + 2 ≤ 90000) (hS : Src w 1 A (l.length + 2) c (ucells (120 :: 156 :: l))) :
    Calls Tryz.prog 10 #[.slice A (l.length + 2) c] w fun e w' => e = .returned (.int .i64 0) ∧ Chg NoS w w' := by
  obtain ⟨b, off, rfl, hcell⟩ := hS.plain (by simp [ucells])
  exact zcheck_h _ c b off w (by omega) (by omega) (hcell 0 _ rfl) (hcell 1 _ rfl)
set_option maxHeartbeats 2000000 in
set_option maxRecDepth 100000 in
theorem zun_short (bs : List Nat) (A : Option Addr) (c most : Nat) (w : World) (h2 : bs.length < 2) (hm : most ≤ 100000) :
    Calls Tryz.prog 8 #[.slice A bs.length c, .int .i64 (most : Nat)] w (ZuTo w bs most) := by
  have hmf : ∀ (fn : Fn) (first cap : Array Value) (w : World), (Instr.makeFunc fn first cap).run Tryz.prog w = .ok (.func fn first cap) w := fun _ _ _ _ => rfl
  have d1 : decide ((most : Int) < 0) = false := by simp
  have d2 : decide ((16777216 : Int) < (most : Int)) = false := by simp; omega
  have d2' : decide (16777216 < most) = false := by simp; omega
  have HU := keepf (UF.new w)
  have hz6 := (UF.new w).b6.frozen 0
  have hq6 := (UF.new w).c6
  have HK := keepf (fun (W : World) => zcheck_short A bs.length c W h2)
  have HI : Hid (chkN bs = 10) := by show _ = _; unfold chkN; rw [if_pos h2]
  obtain ⟨n, hn⟩ : ∃ n, n = bs.length := ⟨_, rfl⟩
  rw [← hn] at HK h2 ⊢
  clear hn h2
  go_enter_defers Tryz.func8, Tryz.ntmps8
  go_upto_region 5 with (go_at_call 10; refine (HK.out _).mono ?_; rintro e w1 ⟨rfl, hc1⟩; have HU1 := keepf (HU.out.call hc1); have hz6 := HU1.out.b6.frozen 0; have hq6 := HU1.out.c6; clear hc1)
  obtain ⟨W, hW⟩ : ∃ W, W = w1.setCell ⟨w.heap.size + 1 + 1, 0, none⟩ (.int .i64 10) := ⟨_, rfl⟩
  rw [← hW]
  have hf := HU1.out.set6 (.int .i64 10)
  rw [← hW] at hf
  have HF := keepf hf
  have q6 := hf.c6
  clear hW hf
  go_wp2
  refine zuleave_no (by decide) HF.out (fun W' h => ?_)
  exact ⟨none, 0, 0, 0, 10, [], rfl, rfl, .head HI.out (by decide), ⟨rfl, fun _ => ⟨rfl, rfl⟩, fun ad h => by cases h⟩, h.chg⟩
set_option maxHeartbeats 4000000 in
set_option maxRecDepth 100000 in
theorem zun_head (l : List Nat) (A : Option Addr) (c most : Nat) (w : World) (hS : Src w 1 A (l.length + 2) c (ucells (120 :: 156 :: l))) (hc : l.length + 2 ≤ c) (hb : ∀ x ∈ l, x < 256) (hl : l.length + 2 ≤ 90000) (hm : most ≤ 100000) :
    Calls Tryz.prog 8 #[.slice A (l.length + 2) c, .int .i64 (most : Nat)] w (ZuTo w (120 :: 156 :: l) most) := by
  have hmf : ∀ (fn : Fn) (first cap : Array Value) (w : World), (Instr.makeFunc fn first cap).run Tryz.prog w = .ok (.func fn first cap) w := fun _ _ _ _ => rfl
  have d1 : decide ((most : Int) < 0) = false := by simp
  have d2 : decide ((16777216 : Int) < (most : Int)) = false := by simp; omega
  have d2' : decide (16777216 < most) = false := by simp; omega
  have HU := keepf (UF.new w)
  have hz6 := (UF.new w).b6.frozen 0
  have hq6 := (UF.new w).c6
  have HCK := keepf (chk_pk l)
  have hS2 : Src w 1 (cutA A 2 c) l.length (c - 2) (ucells l) := by
    have h := src_cut (lo := 2) (m := l.length) hS hc (by omega)
    have e : ((ucells (120 :: 156 :: l)).drop 2).take l.length = ucells l := by
      rw [List.take_of_length_le (by simp [ucells])]
      simp [ucells]
    rwa [e] at h
  have HCH := keepf (fun (W : World) (h : Chg NoS w W) => zcheck_s l A c W hl (Src.below (w0 := w) hS h))
  have HIN := keepf (fun (W : World) (h : Chg NoS w W) => inflate_any l (cutA A 2 c) (c - 2) most W (Src.below (w0 := w) hS2 h) (by omega) hb (by omega))
  have hfrom2 : ∀ W : World, (Instr.sliceAt 22 (.slice A (l.length + 2) c) (some (.int .i64 2)) none none).run Tryz.prog W = .ok (.slice (cutA A 2 c) l.length (c - 2)) W := fun W => fromB A (l.length + 2) c 2 (by omega) W
  have HFR := keepf (fun (p : Nat) (hp : p ≤ l.length + 2) (W : World) => fromB A (l.length + 2) c p hp W)
  have HS := keepf hS
  have HL := keepf hb
  obtain ⟨n, hn⟩ : ∃ n, n = l.length := ⟨_, rfl⟩
  have HN := keepf hn
  rw [← hn] at HCH HIN hfrom2 HFR HS hc hl ⊢
  obtain ⟨n2, hn2⟩ : ∃ n2, n2 = n + 2 := ⟨_, rfl⟩
  rw [← hn2] at HCH hfrom2 HFR HS hc hl ⊢
  have HN2 := keepf hn2
  clear hS hS2 hb hn hn2
  go_enter_defers Tryz.func8, Tryz.ntmps8
  go_upto_region 5 with (go_at_call 10; refine (HCH.out _ HU.out.chg).mono ?_; rintro e w1 ⟨rfl, hc1⟩; have HU1 := keepf (HU.out.call hc1); have hz6 := HU1.out.b6.frozen 0; have hq6 := HU1.out.c6; clear hc1)
  obtain ⟨W1, hW1⟩ : ∃ W1, W1 = w1.setCell ⟨w.heap.size + 1 + 1, 0, none⟩ (.int .i64 0) := ⟨_, rfl⟩
  rw [← hW1]
  have hf1 := HU1.out.set6 (.int .i64 0)
  rw [← hW1] at hf1
  have HF1 := keepf hf1
  have q61 := hf1.c6
  have HI1 := keepf (HIN.out W1 hf1.chg)
  clear hW1 hf1 hz6 hq6
  go_upto_region 7 with (go_at_call 17; refine HI1.out.mono ?_; rintro e w2 ⟨A2, c2, n3, k, out, rfl, hc2, ho2, hb2, hle2, hr2⟩; have HU2 := keepf (HF1.out.call hc2); have q4 := HU2.out.c4; have q5 := HU2.out.c5; have q6 := HU2.out.c6; have z4 := HU2.out.b4.frozen 0; have z5 := HU2.out.b5.frozen 0; have z6 := HU2.out.b6.frozen 0; have HO2 := keepf ho2; have HB2 := keepf hb2; have hle3 := hle2; have HR2 := keepf hr2; clear hc2 ho2 hb2 hle2 hr2)
  obtain ⟨m, hm2⟩ : ∃ m, m = out.length := ⟨_, rfl⟩
  rw [← hm2] at HO2 hle3 ⊢
  have HM := keepf hm2
  obtain ⟨W2, hW2⟩ : ∃ W2, W2 = ((w2.setCell ⟨w.heap.size, 0, none⟩ (.slice A2 m c2)).setCell ⟨w.heap.size + 1, 0, none⟩ (.int .i64 (n3 : Nat))).setCell ⟨w.heap.size + 1 + 1, 0, none⟩ (.int .i64 k) := ⟨_, rfl⟩
  rw [← hW2]
  have hf2 := ((HU2.out.set4 (.slice A2 m c2)).set5 (.int .i64 (n3 : Nat))).set6 (.int .i64 k)
  have ho3 := own_set (own_set (own_set HO2.out HU2.out.b4 (by decide) (.slice A2 m c2)) (HU2.out.set4 (.slice A2 m c2)).b5 (by decide) (.int .i64 (n3 : Nat))) ((HU2.out.set4 (.slice A2 m c2)).set5 (.int .i64 (n3 : Nat))).b6 (by decide) (.int .i64 k)
  rw [← hW2] at hf2 ho3
  have HF2 := keepf hf2
  have HO3 := keepf ho3
  have q62 := hf2.c6
  have q52 := hf2.c5
  have z52 := hf2.b5.frozen 0
  clear hW2 hf2 ho3 hm2 q4 q5 q6 z4 z5 z6 q61
  rcases HR2.out with ⟨rfl, bb, hbb, hn3, hr⟩ | ⟨hk, he1, he2, hr⟩
  · have hb8 : n3 ≤ n := by have := HN.out; omega
    have HRU := keepf hr
    have HN3 := keepf hn3
    have hn9 : n3 ≤ 90000 := by have := HN2.out; omega
    clear hr hn3 hbb HR2
    go_upto_region 9 with fail
    obtain ⟨n5, hn5⟩ : ∃ n5, n5 = n3 + 2 := ⟨_, rfl⟩
    have e5 : (n3 : Int) + 2 = (n5 : Nat) := by omega
    rw [e5]
    obtain ⟨W3, hW3⟩ : ∃ W3, W3 = W2.setCell ⟨w.heap.size + 1, 0, none⟩ (.int .i64 (n5 : Nat)) := ⟨_, rfl⟩
    rw [← hW3]
    have hf3 := HF2.out.set5 (.int .i64 (n5 : Nat))
    have ho4 := own_set HO3.out HF2.out.b5 (by decide) (.int .i64 (n5 : Nat))
    rw [← hW3] at hf3 ho4
    have HF3 := keepf hf3
    have HO4 := keepf ho4
    have q43 := hf3.c4
    have q53 := hf3.c5
    have q63 := hf3.c6
    have z53 := hf3.b5.frozen 0
    have z63 := hf3.b6.frozen 0
    have HN5 := keepf hn5
    have hfr := HFR.out n5 (by have := HN2.out; omega)
    obtain ⟨r, hrr⟩ : ∃ r, r = n2 - n5 := ⟨_, rfl⟩
    rw [← hrr] at hfr
    have HRR := keepf hrr
    have hTl : (l.drop n3).length = r := by rw [List.length_drop, ← HN.out]; have := HN2.out; omega
    have hST : Src w 1 (cutA A n5 c) r (c - n5) (ucells (l.drop n3)) := by
      have h := src_cut (lo := n5) (m := r) HS.out hc (by have := HN2.out; omega)
      have e : ((ucells (120 :: 156 :: l)).drop n5).take r = ucells (l.drop n3) := by
        rw [hn5]
        have e2 : (ucells (120 :: 156 :: l)).drop (n3 + 2) = ucells (l.drop n3) := by
          unfold ucells
          rw [← List.map_drop]
          rfl
        rw [e2, List.take_of_length_le (by rw [ucells_len, hTl]; exact Nat.le_refl _)]
      rwa [e] at h
    have HSM := keepf (fun (W : World) (h : Chg NoS W3 W) => zsum_all (l.drop n3) out (cutA A n5 c) A2 r (c - n5) c2 W hTl (by have := HN2.out; omega) (by have := HN2.out; omega) (Src.below (w0 := w) hST (HF3.out.chg.trans h (fun _ _ e => e))) (fun x hx => HL.out x (List.mem_of_mem_drop hx)) (by rw [← HM.out]; exact Src.below (w0 := W3) (src_own HO4.out) h) (by rw [← HM.out]; exact own_cap7 HO4.out) HB2.out (by rw [← HM.out]; omega))
    rw [← HM.out] at HSM
    have hn59 : n5 ≤ 90002 := by omega
    clear hW3 hf3 ho4 hn5 hrr hTl hST e5 q62 q52 z52
    refine wp_region_still_tail 4 (by kernel_rfl) (by kernel_rfl) ?_
    simp only [List.take_succ_cons, List.take_zero, List.drop_succ_cons, List.drop_zero]
    change wpStill _ _ W3.drew _ _ _
    repeat still_step
    refine wpStill_nil ?_
    change wpList _ _ _ _ _ W3.drew
    go_wp2_with (go_at_call 18; refine (HSM.out _ (Chg.refl NoS W3).drew).mono ?_; rintro e w4 ⟨k2, rfl, hc4, hk2⟩; have HU4 := keepf (HF3.out.drew.call hc4); have q54 := HU4.out.c5; have q64 := HU4.out.c6; have z54 := HU4.out.b5.frozen 0; have z64 := HU4.out.b6.frozen 0; have HO5 := keepf (own_chg (S := NoS) HO4.out ((Chg.refl NoS W3).drew.trans hc4 (fun _ _ e => e)) (fun _ _ e => e)); have HK2 := keepf hk2; clear hc4 hk2)
    have e9 : (n5 : Int) + 4 = ((bb + 7) / 8 + 6 : Nat) := by have := HN3.out; have := HN5.out; omega
    rw [e9]
    obtain ⟨W5, hW5⟩ : ∃ W5, W5 = (w4.setCell ⟨w.heap.size + 1 + 1, 0, none⟩ (.int .i64 k2)).setCell ⟨w.heap.size + 1, 0, none⟩ (.int .i64 ((bb + 7) / 8 + 6 : Nat)) := ⟨_, rfl⟩
    rw [← hW5]
    have hf5 := (HU4.out.set6 (.int .i64 k2)).set5 (.int .i64 ((bb + 7) / 8 + 6 : Nat))
    have ho6 := own_set (own_set HO5.out HU4.out.b6 (by decide) (.int .i64 k2)) (HU4.out.set6 (.int .i64 k2)).b5 (by decide) (.int .i64 ((bb + 7) / 8 + 6 : Nat))
    rw [← hW5] at hf5 ho6
    have HDR : ((120 :: 156 :: l).drop ((bb + 7) / 8 + 2)).take 4 = (l.drop n3).take 4 := by rw [← HN3.out]; rfl
    have HLR : (bb + 7) / 8 + 2 + r = l.length + 2 := by rw [← HN3.out, ← HN.out]; have := HN2.out; have := HN5.out; have := HRR.out; omega
    rcases HK2.out with ⟨rfl, h4⟩ | ⟨rfl, h4, hs⟩ | ⟨rfl, h4, hs⟩
    · refine zuleave_no (by decide) hf5 (fun W' h => ?_)
      exact ⟨none, 0, 0, 0, 10, [], rfl, rfl, .cut HCK.out HRU.out (by show l.length + 1 + 1 < _; omega), ⟨rfl, fun _ => ⟨rfl, rfl⟩, fun ad h => by cases h⟩, h.chg⟩
    · refine zuleave_ok hf5 ?_
      refine ⟨A2, c2, m, (bb + 7) / 8 + 6, 0, out, HM.out, rfl, .ok HCK.out HRU.out (by show _ ≤ l.length + 1 + 1; omega) (by rw [HDR]; exact hs), src_own ho6, hf5.chg⟩
    · refine zuleave_no (by decide) hf5 (fun W' h => ?_)
      exact ⟨none, 0, 0, 0, 12, [], rfl, rfl, .sum HCK.out HRU.out (by show _ ≤ l.length + 1 + 1; omega) (by rw [HDR]; exact hs), ⟨rfl, fun _ => ⟨rfl, rfl⟩, fun ad h => by cases h⟩, h.chg⟩
  · subst he1 he2
    have HBAD : Hid (UnIs (120 :: 156 :: l) most k 0 []) := .bad HCK.out hk hr
    have HK := keepf hk
    have v2 : (k != 0) = true := by simpa using hk
    have v3 : (k == 0) = false := by simpa using hk
    clear hr hk HR2
    go_wp2
    refine zuleave_no HK.out HF2.out (fun W' h => ?_)
    exact ⟨none, 0, 0, 0, k, [], rfl, rfl, HBAD.out, ⟨rfl, fun _ => ⟨rfl, rfl⟩, fun ad h => by cases h⟩, h.chg⟩
theorem zun_any (bs : List Nat) (A : Option Addr) (c most : Nat) (w : World) (hS : Src w 1 A bs.length c (ucells bs)) (hc : bs.length ≤ c) (hb : ∀ x ∈ bs, x < 256) (hl : bs.length ≤ 90000) (hm : most ≤ 100000) (hh : HeadIn bs) :
    Calls Tryz.prog 8 #[.slice A bs.length c, .int .i64 (most : Nat)] w (ZuTo w bs most) := by
  by_cases h2 : bs.length < 2
  · exact zun_short bs A c most w h2 hm
  · obtain ⟨l, rfl⟩ : ∃ l, bs = 120 :: 156 :: l := hh.resolve_left h2
    exact zun_head l A c most w hS hc (fun x hx => hb x (List.mem_cons_of_mem _ (List.mem_cons_of_mem _ hx))) hl hm
end Go.Proofs.YtmmilchmnimjoaaGreat
