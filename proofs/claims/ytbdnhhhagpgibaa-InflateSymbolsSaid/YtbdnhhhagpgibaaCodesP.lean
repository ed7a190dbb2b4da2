/- Codes of lengths; a run of lengths; lengths' lengths. -/
import Derived.Test.YtbdnhhhagpgibaaPlainP
import Derived.Test.YtbdnhhhagpgibaaLenD
namespace Go.Proofs.Ytbdnhhhagpgibaa
open Go.RowKit
set_option linter.unusedVariables false
set_option linter.unusedSimpArgs false

theorem info_i64 : (Try.prog.info? 3).map (fun i => (i.zero, i.size, i.bytes)) = some (some (.int .i64 0), 1, 8) := by kernel_rfl

/-- Behind newCodes. -/
def NewC (w : World) (ls ds : List Int) (e : Ending) (w' : World) : Prop :=
  ∃ (p : Option Addr) (k : Int), e = .returned (.tuple #[.pointer p, .int .i64 k]) ∧ Chg NoS w w' ∧
    ((k = 0 ∧ May ls ∧ May ds ∧ ∃ g, p = some ⟨g, 0, none⟩ ∧ Cd w' g ls ds ∧ w.heap.size ≤ g) ∨ (k = 13 ∧ p = none ∧ (¬ May ls ∨ ¬ May ds)))

set_option maxHeartbeats 1000000 in
set_option maxRecDepth 100000 in
theorem newCodes_any (ls ds : List Int) (A A2 : Option Addr) (c c2 : Nat) (w : World) (hS : Src w 1 A ls.length c (icells ls)) (hS2 : Src w 1 A2 ds.length c2 (icells ds)) (hb : in64 ls) (hb2 : in64 ds) (hL : ls.length ≤ 1000) (hL2 : ds.length ≤ 1000) :
    Calls Try.prog 51 #[.slice A ls.length c, .slice A2 ds.length c2] w (NewC w ls ds) := by
  have HS2 := keepf hS2
  have HB2 := keepf hb2
  by_cases hM : May ls
  · have HN := keepf (new_ok ls A c w hM hb hS)
    have HM := keepf hM
    clear hS hb hM hS2 hb2
    by_cases hM2 : May ds
    · have HM2 := keepf hM2
      have HN2 := keepf (fun W (h : Chg NoS w W) => new_ok ds A2 c2 W hM2 HB2.out (HS2.out.below (w0 := w) h))
      clear hM2
      go_enter Try.func51, Try.ntmps51
      go_upto_region 4 with (go_at_call 61; refine HN.out.mono ?_; rintro e w2 ⟨g, rfl, ht2, hc2, hg2⟩; have HT2 := keepf ht2; have HC2 := keepf hc2; have HG2 := keepf hg2; clear ht2 hc2 hg2)
      go_wp2_with (go_at_call 61; refine (HN2.out _ HC2.out).mono ?_; rintro e w3 ⟨g3, rfl, ht3, hc3, hg3⟩; have HT3 := keepf ht3; have HC3 := keepf hc3; have HG3 := keepf hg3; clear ht3 hc3 hg3)
      go_ret2
      have hcn : Chg NoS w3 (w3.alloc (.cells #[.pointer (some ⟨g, 0, none⟩), .pointer (some ⟨g3, 0, none⟩)] 88)) := (Chg.refl NoS w3).alloc _
      refine ⟨_, 0, rfl, (HC2.out.trans HC3.out (fun _ _ h => h)).trans hcn (fun _ _ h => h), .inl ⟨rfl, HM.out, HM2.out, w3.heap.size, rfl, ⟨g, g3, Blk.new _ _ _, ?_, HT3.out.chg hcn (fun h => h), HM.out, HM2.out⟩, ?_⟩⟩
      · exact (HT2.out.chg HC3.out (fun h => h)).chg hcn (fun h => h)
      · have := HC2.out.size; have := HC3.out.size; omega
    · have HN2 := keepf (fun W (h : Chg NoS w W) => new_no ds A2 c2 W hM2 hL2 HB2.out (HS2.out.below (w0 := w) h))
      have HM2 := keepf hM2
      clear hM2
      go_enter Try.func51, Try.ntmps51
      go_upto_region 4 with (go_at_call 61; refine HN.out.mono ?_; rintro e w2 ⟨g, rfl, ht2, hc2, hg2⟩; have HT2 := keepf ht2; have HC2 := keepf hc2; have HG2 := keepf hg2; clear ht2 hc2 hg2)
      go_wp2_with (go_at_call 61; refine (HN2.out _ HC2.out).mono ?_; rintro e w3 ⟨rfl, hc3⟩; have HC3 := keepf hc3; clear hc3)
      go_ret2
      exact ⟨_, 13, rfl, HC2.out.trans HC3.out (fun _ _ h => h), .inr ⟨rfl, rfl, .inr HM2.out⟩⟩
  · have HN := keepf (new_no ls A c w hM hL hb hS)
    have HM := keepf hM
    clear hS hb hM hS2 hb2
    go_enter Try.func51, Try.ntmps51
    go_wp2_with (go_at_call 61; refine HN.out.mono ?_; rintro e w2 ⟨rfl, hc2⟩; have HC2 := keepf hc2; clear hc2)
    go_ret2
    exact ⟨_, 13, rfl, HC2.out, .inr ⟨rfl, rfl, .inl HM.out⟩⟩

/-- What a symbol tells of lengths: of v so many; or an error. -/
def RunIs (bs : List Nat) (a : Nat) (l : List Int) (s b t : Nat) (v k : Int) : Prop :=
  ∀ out ls n ns last, stLens bs a out ls l n ns last s 0 = if k = 0 then stRun b out ls l n ns last t v else .inr (.err k)

/-- Behind run. -/
def GotR (w : World) (g gr : Nat) (bs : List Nat) (a : Nat) (S : Value) (most : Nat) (out : List Nat) (So fx : Value) (l : List Int) (s : Nat) (e : Ending) (w' : World) : Prop :=
  ∃ (v : Int) (t b : Nat) (k : Int), e = .returned (.tuple #[.int .i64 v, .int .i64 t, .int .i64 k]) ∧ Pk w' g gr bs b S most out So fx ∧ Mv g gr w So w' So ∧ t ≤ 1000 ∧ a ≤ b ∧ (k = 0 → 1 ≤ t) ∧ (k = 0 ∨ k = 10 ∨ k = 11) ∧ (v = s ∨ v = 0 ∨ v ∈ l) ∧ RunIs bs a l s b t v k

set_option maxHeartbeats 1000000 in
set_option maxRecDepth 100000 in
theorem prun (w : World) (g gr a most s c : Nat) (bs out : List Nat) (l : List Int) (A : Option Addr) (S So fx : Value) (hP : Pk w g gr bs a S most out So fx) (hs : s < 320) (hS : ∀ W, Chg (KP g gr So) w W → Src W 1 A l.length c (icells l)) (hb : in64 l) (hL : l.length ≤ 1000) :
    Calls Try.prog 62 #[.pointer (some ⟨g, 0, none⟩), .int .i64 s, .slice A l.length c] w (GotR w g gr bs a S most out So fx l s) := by
  have HP := keepf hP
  have HS := keepf hS
  have HB := keepf hb
  clear hP hS hb
  by_cases h16 : s = 16
  · subst h16
    have HM := keepf (pmore w g gr a 2 3 most bs out S So fx HP.out (by omega) (by omega))
    go_enter Try.func62, Try.ntmps62
    go_upto_region 5 with (go_at_call 52; refine HM.out.mono ?_; rintro e w2 ⟨y, b, k, rfl, hP2, hm2, hy, hk⟩; have HP2 := keepf hP2; have HM2 := keepf hm2; have HY := keepf hy; have HK := keepf hk; clear hP2 hm2 hy hk)
    rcases HK.out with ⟨rfl, rfl, hle, hye⟩ | ⟨rfl, rfl, hlt⟩
    · have HYE := keepf hye
      have HLE := keepf hle
      clear hye hle
      by_cases h0 : l.length = 0
      · rw [h0] at HS ⊢
        have H0 := keepf h0
        clear h0
        go_wp2_with fail
        go_ret3
        refine ⟨0, y, a + 2, 11, rfl, HP2.out, HM2.out, by have := HY.out; omega, by omega, fun h => (by cases h), by simp, by simp, fun out ls n ns last => ?_⟩
        unfold stLens
        rw [if_neg (by omega), if_pos rfl, if_neg (by have := HLE.out; omega), if_pos H0.out, if_neg (by omega)]
      · have hS2 := HS.out _ HM2.out.1
        obtain ⟨bb, off, rfl, hcell⟩ := hS2.plain (by rw [icells_len]; omega)
        have hc1 := hcell (l.length - 1) (.int .i64 (l.getD (l.length - 1) 0)) (by simp [icells, List.getD_eq_getElem?_getD, show l.length - 1 < l.length from by omega])
        obtain ⟨n, hn⟩ : ∃ n, n = l.length := ⟨_, rfl⟩
        have hv : l.getD (n - 1) 0 ∈ l := by
          rw [List.getD_eq_getElem?_getD, List.getElem?_eq_getElem (show n - 1 < l.length by omega)]
          exact List.getElem_mem _
        obtain ⟨v, hve⟩ : ∃ v, v = l.getD (n - 1) 0 := ⟨_, rfl⟩
        rw [← hn] at hc1 h0 hL ⊢
        rw [← hve] at hc1 hv
        have d1 : ((n : Int) == 0) = false := by simp; omega
        have d1' : (n == 0) = false := by simp; omega
        have i1 : (0 : Int) ≤ (n : Int) - 1 := by omega
        have i2 : (n : Int) - 1 < n := by omega
        have i3 : ((n : Int) - 1).toNat = n - 1 := by omega
        have i4 : 1 ≤ n := by omega
        have HN := keepf hn
        have HV := keepf hv
        have HVE := keepf hve
        clear hn hv hve hS2 hcell HK
        go_wp2_with fail
        go_ret3
        refine ⟨v, y, a + 2, 0, rfl, HP2.out, HM2.out, by have := HY.out; omega, by omega, fun _ => (by have := HYE.out; omega), by simp, .inr (.inr HV.out), fun out ls m ns last => ?_⟩
        unfold stLens
        rw [if_neg (by omega), if_pos rfl, if_neg (by have := HLE.out; omega), if_neg (by have := HN.out; omega), if_pos rfl, HYE.out, HVE.out, HN.out]
    · go_wp2_with fail
      go_ret3
      refine ⟨0, y, b, 10, rfl, HP2.out, HM2.out, by have := HY.out; omega, by omega, fun h => (by cases h), by simp, by simp, fun out ls n ns last => ?_⟩
      unfold stLens
      rw [if_neg (by omega), if_pos rfl, if_pos (by omega), if_neg (by omega)]
  · have d16 : ((s : Int) == 16) = false := by simp; omega
    have d16' : (s == 16) = false := by simp; omega
    by_cases h17 : s = 17
    · subst h17
      have HM := keepf (pmore w g gr a 3 3 most bs out S So fx HP.out (by omega) (by omega))
      go_enter Try.func62, Try.ntmps62
      go_wp2_with (go_at_call 52; refine HM.out.mono ?_; rintro e w2 ⟨y, b, k, rfl, hP2, hm2, hy, hk⟩; have HP2 := keepf hP2; have HM2 := keepf hm2; have HY := keepf hy; have HK := keepf hk; clear hP2 hm2 hy hk)
      go_ret3
      refine ⟨0, y, b, k, rfl, HP2.out, HM2.out, by have := HY.out; omega, ?_⟩
      rcases HK.out with ⟨rfl, rfl, hle, hye⟩ | ⟨rfl, rfl, hlt⟩
      · refine ⟨by omega, fun _ => (by omega), by simp, by simp, fun out ls n ns last => ?_⟩
        unfold stLens
        rw [if_neg (by omega), if_neg (by omega), if_pos rfl, if_neg (by omega), if_pos rfl, hye]
      · refine ⟨by omega, fun h => (by cases h), by simp, by simp, fun out ls n ns last => ?_⟩
        unfold stLens
        rw [if_neg (by omega), if_neg (by omega), if_pos rfl, if_pos (by omega), if_neg (by omega)]
    · have d17 : ((s : Int) == 17) = false := by simp; omega
      have d17' : (s == 17) = false := by simp; omega
      by_cases h18 : s = 18
      · subst h18
        have HM := keepf (pmore w g gr a 7 11 most bs out S So fx HP.out (by omega) (by omega))
        go_enter Try.func62, Try.ntmps62
        go_wp2_with (go_at_call 52; refine HM.out.mono ?_; rintro e w2 ⟨y, b, k, rfl, hP2, hm2, hy, hk⟩; have HP2 := keepf hP2; have HM2 := keepf hm2; have HY := keepf hy; have HK := keepf hk; clear hP2 hm2 hy hk)
        go_ret3
        refine ⟨0, y, b, k, rfl, HP2.out, HM2.out, by have := HY.out; omega, ?_⟩
        rcases HK.out with ⟨rfl, rfl, hle, hye⟩ | ⟨rfl, rfl, hlt⟩
        · refine ⟨by omega, fun _ => (by omega), by simp, by simp, fun out ls n ns last => ?_⟩
          unfold stLens
          rw [if_neg (by omega), if_neg (by omega), if_neg (by omega), if_pos rfl, if_neg (by omega), if_pos rfl, hye]
        · refine ⟨by omega, fun h => (by cases h), by simp, by simp, fun out ls n ns last => ?_⟩
          unfold stLens
          rw [if_neg (by omega), if_neg (by omega), if_neg (by omega), if_pos rfl, if_pos (by omega), if_neg (by omega)]
      · have d18 : ((s : Int) == 18) = false := by simp; omega
        have d18' : (s == 18) = false := by simp; omega
        go_enter Try.func62, Try.ntmps62
        go_wp2_with fail
        go_ret3
        refine ⟨s, 1, a, 0, rfl, HP.out, Mv.refl _ _ _ _, by omega, by omega, fun _ => (by omega), by simp, by simp, fun out ls n ns last => ?_⟩
        unfold stLens
        rw [if_neg (by omega), if_neg h16, if_neg h17, if_neg h18, if_pos rfl]
end Go.Proofs.Ytbdnhhhagpgibaa
