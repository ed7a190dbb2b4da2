/- The fixed lengths, and their codes. -/
import Derived.Test.YtbdnhhhagpgibaaConI
namespace Go.Proofs.Ytbdnhhhagpgibaa
open Go.RowKit
set_option linter.unusedVariables false
set_option linter.unusedSimpArgs false

/-- Behind Fixed. -/
def GotF (w : World) (e : Ending) (w' : World) : Prop :=
  ∃ (A B : Option Addr) (c d : Nat), e = .returned (.tuple #[.slice A 288 c, .slice B 30 d]) ∧ w'.ownsRow 0 3 1 (.slice A 288 c) 288 (icells fixS) ∧ w'.ownsRow 0 3 1 (.slice B 30 d) 30 (icells fixD) ∧ Chg NoS w w'

set_option maxHeartbeats 1000000 in
set_option maxRecDepth 100000 in
theorem fixed_any (w : World) : Calls Try.prog 14 #[] w (GotF w) := by
  go_enter Try.func14, Try.ntmps14
  have H1 := keepf (fun W => same_any 144 8 W (by omega) (by omega))
  have H2 := keepf (fun W => same_any 112 9 W (by omega) (by omega))
  have H3 := keepf (fun W => same_any 24 7 W (by omega) (by omega))
  have H4 := keepf (fun W => same_any 8 8 W (by omega) (by omega))
  have H5 := keepf (fun W => same_any 30 5 W (by omega) (by omega))
  have hcc : ∀ (W : World) (A1 A2 A3 A4 : Option Addr) (c1 c2 c3 c4 : Nat), OwnI W A1 c1 (List.replicate 144 8) → OwnI W A2 c2 (List.replicate 112 9) → OwnI W A3 c3 (List.replicate 24 7) → OwnI W A4 c4 (List.replicate 8 8) →
      Calls Try.prog 29 #[.slice (some ⟨W.heap.size, 0, none⟩) 4 4] (W.alloc (.cells #[.slice A1 144 c1, .slice A2 112 c2, .slice A3 24 c3, .slice A4 8 c4] 32)) (NewI (W.alloc (.cells #[.slice A1 144 c1, .slice A2 112 c2, .slice A3 24 c3, .slice A4 8 c4] 32)) fixS) := by
    intro W A1 A2 A3 A4 c1 c2 c3 c4 h1 h2 h3 h4
    have hc : Chg NoS W (W.alloc (.cells #[.slice A1 144 c1, .slice A2 112 c2, .slice A3 24 c3, .slice A4 8 c4] 32)) := (Chg.refl NoS W).alloc _
    have hall : allI [(A1, c1, List.replicate 144 8), (A2, c2, List.replicate 112 9), (A3, c3, List.replicate 24 7), (A4, c4, List.replicate 8 8)] = fixS := by
      simp [allI, fixS]
    have h := concatI_any [(A1, c1, List.replicate 144 8), (A2, c2, List.replicate 112 9), (A3, c3, List.replicate 24 7), (A4, c4, List.replicate 8 8)] (some ⟨W.heap.size, 0, none⟩) 4 (W.alloc (.cells #[.slice A1 144 c1, .slice A2 112 c2, .slice A3 24 c3, .slice A4 8 c4] 32)) (by simp) (by simp) (by rw [hall]; simp [fixS]) ?_ ?_
    · rw [hall] at h
      exact h
    · refine ⟨rfl, fun h => (by cases h), fun ad had j u hu => ?_⟩
      cases had
      rw [Addr.add_mid, Nat.zero_add, (Blk.new W 32 _).cell]
      match j, hu with
      | 0, hu => simpa [slvI] using hu
      | 1, hu => simpa [slvI] using hu
      | 2, hu => simpa [slvI] using hu
      | 3, hu => simpa [slvI] using hu
      | j + 4, hu => simp at hu
    · intro x hx
      simp only [List.mem_cons, List.not_mem_nil, or_false] at hx
      rcases hx with rfl | rfl | rfl | rfl
      · exact (src_own h1).below (w0 := W) hc
      · exact (src_own h2).below (w0 := W) hc
      · exact (src_own h3).below (w0 := W) hc
      · exact (src_own h4).below (w0 := W) hc
  have HCC := keepf hcc
  clear hcc
  go_wp2_with (first
    | (go_at_call 30; refine (H1.out _).mono ?_; rintro e w2 ⟨A2, c2, rfl, ho2, hc2, _⟩; have HO2 := keepf ho2; have HC2 := keepf hc2; clear ho2 hc2)
    | (go_at_call 30; refine (H2.out _).mono ?_; rintro e w3 ⟨A3, c3, rfl, ho3, hc3, _⟩; have HO3 := keepf ho3; have HC3 := keepf hc3; clear ho3 hc3)
    | (go_at_call 30; refine (H3.out _).mono ?_; rintro e w4 ⟨A4, c4, rfl, ho4, hc4, _⟩; have HO4 := keepf ho4; have HC4 := keepf hc4; clear ho4 hc4)
    | (go_at_call 30; refine (H4.out _).mono ?_; rintro e w5 ⟨A5, c5, rfl, ho5, hc5, _⟩; have HR := keepf (HCC.out w5 A2 A3 A4 A5 c2 c3 c4 c5 (own_chg (own_chg (own_chg HO2.out HC3.out (fun _ _ h => h)) HC4.out (fun _ _ h => h)) hc5 (fun _ _ h => h)) (own_chg (own_chg HO3.out HC4.out (fun _ _ h => h)) hc5 (fun _ _ h => h)) (own_chg HO4.out hc5 (fun _ _ h => h)) ho5); have HC5 := keepf hc5; clear ho5 hc5)
    | (go_at_call 29; refine HR.out.mono ?_; rintro e w6 ⟨A6, c6, rfl, ho6, hc6, _⟩; have HO6 := keepf ho6; have HC6 := keepf hc6; clear ho6 hc6)
    | (go_at_call 30; refine (H5.out _).mono ?_; rintro e w7 ⟨A7, c7, rfl, ho7, hc7, _⟩; have HO7 := keepf ho7; have HC7 := keepf hc7; clear ho7 hc7))
  go_ret2
  have hS : fixS.length = 288 := by simp [fixS]
  have h6 : w6.ownsRow 0 3 1 (.slice A6 fixS.length c6) fixS.length (icells fixS) := HO6.out
  rw [hS] at h6 ⊢
  refine ⟨A6, A7, c6, c7, rfl, own_chg h6 HC7.out (fun _ _ h => h), HO7.out, ?_⟩
  have h := ((HC2.out.trans HC3.out (fun _ _ h => h)).trans HC4.out (fun _ _ h => h)).trans HC5.out (fun _ _ h => h)
  exact ((h.alloc _).trans HC6.out (fun _ _ h => h)).trans HC7.out (fun _ _ h => h)

set_option maxRecDepth 100000 in
theorem fixS_may : May fixS := by
  refine ⟨by simp [fixS], by simp [fixS], ?_, ?_⟩
  · intro z hz
    simp only [fixS, List.mem_append, List.mem_replicate] at hz
    omega
  · decide +kernel
set_option maxRecDepth 100000 in
theorem fixD_may : May fixD := by
  refine ⟨by simp [fixD], by simp [fixD], ?_, ?_⟩
  · intro z hz
    simp only [fixD, List.mem_replicate] at hz
    omega
  · decide +kernel

/-- Behind fixedCodes. -/
def GotX (w : World) (g gr : Nat) (bs : List Nat) (a : Nat) (S : Value) (most : Nat) (out : List Nat) (So : Value) (e : Ending) (w' : World) : Prop :=
  ∃ (c : Nat) (fx' : Value), e = .returned (.tuple #[.pointer (some ⟨c, 0, none⟩), .int .i64 0]) ∧ Pk w' g gr bs a S most out So fx' ∧ Mv g gr w So w' So ∧ Cd w' c fixS fixD

set_option maxHeartbeats 1000000 in
set_option maxRecDepth 100000 in
theorem pfixed (w : World) (g gr a most : Nat) (bs out : List Nat) (S So fx : Value) (hP : Pk w g gr bs a S most out So fx) :
    Calls Try.prog 33 #[.pointer (some ⟨g, 0, none⟩)] w (GotX w g gr bs a S most out So) := by
  have c3 := hP.c3
  have f3 := hP.blk.frozen 3
  rcases hP.fix with rfl | ⟨c, rfl, hcd⟩
  · have HP := keepf hP
    have HC3 := keepf c3
    clear hP
    go_enter Try.func33, Try.ntmps33
    go_upto_region 3 with (first
      | (go_at_call 14; refine (fixed_any _).mono ?_; rintro e w2 ⟨A, B, c, d, rfl, hoA, hoB, hc2⟩; have HN := keepf (newCodes_any fixS fixD A B c d w2 (src_own hoA) (src_own hoB) (fun z hz => by have := fixS_may.2.2.1 z hz; omega) (fun z hz => by have := fixD_may.2.2.1 z hz; omega) (by simp [fixS]) (by simp [fixD])); have HC2 := keepf hc2; clear hoA hoB hc2)
      | (go_at_call 51; refine HN.out.mono ?_; rintro e w4 ⟨p4, k, rfl, hc4, hk4⟩; have HC4 := keepf (HC2.out.trans hc4 (fun _ _ h => h)); have HK4 := keepf hk4; clear hc4 hk4))
    rcases HK4.out with ⟨rfl, hm1, hm2, cg, rfl, hcd, hge⟩ | ⟨rfl, rfl, hm⟩
    · have hP4 := HP.out.news HC4.out
      have c34 := hP4.c3
      have f34 := hP4.blk.frozen 3
      have HP4 := keepf hP4
      have HCD := keepf hcd
      clear hP4 hm1 hm2 hcd hge c3 f3
      go_wp2_with fail
      go_ret2
      have hset : Chg (fun i => i = g) w4 (w4.setCell ⟨g, 3, none⟩ (.pointer (some ⟨cg, 0, none⟩))) := (Chg.refl (fun i => i = g) w4).setCell (p := ⟨g, 3, none⟩) (fun _ => rfl) _
      have hKP : Chg (KP g gr So) w4 (w4.setCell ⟨g, 3, none⟩ (.pointer (some ⟨cg, 0, none⟩))) := hset.mono (fun i _ e => .inl e)
      have hcd5 := HP4.out.cd HCD.out hKP
      refine ⟨cg, .pointer (some ⟨cg, 0, none⟩), rfl, ⟨?_, ⟨HP4.out.rd.1.chg hset (fun e => HP4.out.ne e.symm), own_chg HP4.out.rd.2 hset (fun i hi e => own_ne_blk HP4.out.rd.2 HP4.out.blk (by decide) (by rw [hi, e]))⟩, own_chg HP4.out.own hset (fun i hi e => own_ne_blk HP4.out.own HP4.out.blk (by decide) (by rw [hi, e])), HP4.out.sep, .inr ⟨cg, rfl, hcd5⟩, HP4.out.le, HP4.out.len, HP4.out.byt, HP4.out.mst, HP4.out.ole⟩, ((Mv.refl _ _ _ _).news HC4.out).trans (Mv.of hKP), hcd5⟩
      have h := HP4.out.blk.set_ 3 (.pointer (some ⟨cg, 0, none⟩))
      simpa using h
    · exfalso
      rcases hm with h | h
      · exact h fixS_may
      · exact h fixD_may
  · have HP := keepf hP
    have HCD := keepf hcd
    clear hP hcd
    go_enter Try.func33, Try.ntmps33
    go_wp2_with fail
    go_ret2
    exact ⟨c, _, rfl, HP.out, Mv.refl _ _ _ _, HCD.out⟩
end Go.Proofs.Ytbdnhhhagpgibaa
