/- The reader's run of regular bytes (written by mkprun.py). -/
import Derived.Test.YtmmehaghcfdjdaaPTxtW
import Derived.Test.YtmmehaghcfdjdaaLexS
import Derived.Test.YtmmehaghcfdjdaaLexC
namespace Go.Proofs.Ytmmehaghcfdjdaa
open Go.RowKit
set_option linter.unusedVariables false
set_option linter.unusedSimpArgs false

def RuJ (w w0 : World) (A : Option Addr) (bs : List Nat) (c : Nat) (last : Bool) (R p : Nat) (out : List Nat) (n : Nat) (x : Act) (w' : World) : Prop :=
  x.defers = [] ∧ x.tmps.size = 60 ∧ x.tmps.getD 0 undef = .pointer (some ⟨R, 0, none⟩) ∧ x.tmps.getD 4 undef = .int .i64 (p : Nat) ∧ x.tmps.getD 5 undef = .int .i64 0 ∧ ∃ k : Nat, n = (bs.length - k) + 1 ∧ k ≤ bs.length ∧ p ≤ k ∧
    Hid (RD w w0 w' A bs.length c last R k out ∧ p + rgs (bs.drop p) = k + rgs (bs.drop k))
theorem slots_60 {x : Act} {v0 v4 v5 : Value} {C : Act → Prop} (h1 : x.defers = []) (h2 : x.tmps.size = 60) (h3 : x.tmps.getD 0 undef = v0) (h4 : x.tmps.getD 4 undef = v4) (h5 : x.tmps.getD 5 undef = v5)
    (k : ∀ f : Nat → Value, C { tmps := #[v0, f 1, f 2, f 3, v4, v5, f 6, f 7, f 8, f 9, f 10, f 11, f 12, f 13, f 14, f 15, f 16, f 17, f 18, f 19, f 20, f 21, f 22, f 23, f 24, f 25, f 26, f 27, f 28, f 29, f 30, f 31, f 32, f 33, f 34, f 35, f 36, f 37, f 38, f 39, f 40, f 41, f 42, f 43, f 44, f 45, f 46, f 47, f 48, f 49, f 50, f 51, f 52, f 53, f 54, f 55, f 56, f 57, f 58, f 59], defers := [] }) : C x := by
  obtain ⟨t, d⟩ := x
  simp only at h1 h2 h3 h4 h5
  subst h1
  have h6 := k (fun i => t.getD i undef)
  rw [← h3, ← h4, ← h5] at h6
  rw [arr_slots t 60 h2]
  exact h6
theorem rgs_stop {x : Nat} {l : List Nat} (h : isRg x = false) : rgs (x :: l) = 0 := by rw [rgs, if_neg (by rw [h]; decide)]
theorem rgs_go {x : Nat} {l : List Nat} (h : isRg x = true) : rgs (x :: l) = rgs l + 1 := by rw [rgs, if_pos h]
def runE (last : Bool) (l : List Nat) : Int := if rgs l = l.length ∧ last = false then 6 else 0
set_option maxHeartbeats 4000000 in
set_option maxRecDepth 100000 in
theorem prun_any {V w W : World} {A : Option Addr} {bs : List Nat} {c R p : Nat} {last : Bool} {out : List Nat} (h : RD V w W A bs.length c last R p out) (hS : Src w 1 A bs.length c (lcells bs)) (hl : bs.length ≤ 100000) (hc : bs.length ≤ c) (hp : p ≤ bs.length) (hn0 : 0 < bs.length) :
    Calls Try.prog 43 #[.pointer (some ⟨R, 0, none⟩)] W fun e W' => e = .returned (.tuple #[.string (sb ((bs.drop p).take (rgs (bs.drop p)))), .int .i64 (runE last (bs.drop p))]) ∧ RD V w W' A bs.length c last R (p + rgs (bs.drop p)) out := by
  have HSP := keepf (fun y X => pspace_any y X)
  have HDL := keepf (fun y X => pdelim_any y X)
  have HCU := keepf (fun X k (hX : RD V w X A bs.length c last R k out) => pcut_any hX 0)
  have HR0 := keepf h
  have HS := keepf hS
  obtain ⟨c2, c3, c4, f3⟩ := h.cells
  obtain ⟨b, off, rfl, hcell⟩ := lcell hS (Chg.refl NoS w) hn0
  have HCELL := keepf hcell
  have HBR := keepf (fun (k x : Nat) (hx : bs[k]? = some x) => (show b ≠ R from by have h1 := cell_lt (hcell k x hx); have h2 := h.new; simp only at h1; omega))
  have HCV := keepf (fun (X : World) (hX : Chg NoS w X) (m : Nat) (hm : p + m ≤ bs.length) => (show (convert 22 9 (.slice (cutL (some ⟨b, off, none⟩) p c) m (c - p))).run Try.prog X = .ok (.string (sb ((bs.drop p).take m))) X from by
    have h1 := src_cutL (lo := p) (m := m) (Src.below (w0 := w) hS hX) hc hm
    have e : ((lcells bs).drop p).take m = lcells ((bs.drop p).take m) := by unfold lcells; rw [← List.map_drop, ← List.map_take]
    rw [e] at h1
    exact conv_l h1))
  obtain ⟨L, hL⟩ : ∃ L, L = rgs (bs.drop p) := ⟨_, rfl⟩
  have HLen := keepf (show p + L ≤ bs.length from by have := rgs_le (bs.drop p); rw [List.length_drop, ← hL] at this; omega)
  obtain ⟨S, hS2⟩ : ∃ S, S = sb ((bs.drop p).take L) := ⟨_, rfl⟩
  have HS2 := keepf hS2
  have HL := keepf hL
  have HEr := keepf (show runE last (bs.drop p) = if p + L = bs.length ∧ last = false then 6 else 0 from by
    unfold runE
    rw [← hL, List.length_drop]
    by_cases h1 : p + L = bs.length
    · by_cases h2 : last = false
      · rw [if_pos ⟨by omega, h2⟩, if_pos ⟨h1, h2⟩]
      · rw [if_neg (fun e => h2 e.2), if_neg (fun e => h2 e.2)]
    · rw [if_neg (fun e => h1 (by omega)), if_neg (fun e => h1 e.1)])
  rw [← hL, ← hS2]
  obtain ⟨E, hE⟩ : ∃ E, E = runE last (bs.drop p) := ⟨_, rfl⟩
  rw [← hE]
  rw [← hE] at HEr
  clear h hS hcell hE hL hS2
  go_enter Try.func43, Try.ntmps43
  go_wp2
  refine wp_scope1 (RuJ V w (some ⟨b, off, none⟩) bs c last R p out) rfl ?pass0 ?first
  case first =>
    intro hpass
    have HPass := keepf hpass
    clear hpass
    go_wp2
    go_step3
    rename_i hK
    refine hK _ _ (HPass.out _ _ _ ⟨rfl, rfl, rfl, rfl, rfl, p, rfl, hp, Nat.le_refl _, keepf ⟨HR0.out, rfl⟩⟩)
  case pass0 =>
    intro n x w1 hx
    obtain ⟨h1, h2, h3, h4, h5, k, rfl, hk, hpk, HT⟩ := hx
    refine slots_60 h1 h2 h3 h4 h5 (C := fun y => Code.wp _ _ _ y w1) ?_
    intro f
    clear h1 h2 h3 h4 h5 c2 c3 c4 f3
    obtain ⟨c2, c3, c4, f3⟩ := HT.out.1.cells
    by_cases hkn : k = bs.length
    · have HK := keepf (show p + L = k from by rw [HL.out, HT.out.2, hkn, List.drop_of_length_le (Nat.le_refl _)]; rfl)
      have HE1 := keepf (show (if last then (0 : Int) else 6) = E from by rw [HEr.out, HK.out]; cases last <;> simp [hkn])
      have HCU1 := keepf (fun X hX => HCU.out X k hX)
      rw [HE1.out] at HCU1
      have hcv := fun m m2 => HCV.out ((w1.drewN m).drewN m2) ((HT.out.1.chg.drewN m).drewN m2) L HLen.out
      have hcv1 := fun m => HCV.out (w1.drewN m) (HT.out.1.chg.drewN m) L HLen.out
      have hLk : L = k - p := by have := HK.out; omega
      rw [← HS2.out, hLk] at hcv hcv1
      have HNK := keepf hkn
      have k2 : ((k : Int) == bs.length) = true := by simp; omega
      have k3 : (k == bs.length) = true := by simp; omega
      clear hkn HCU
      have p1 : (p : Int) ≤ k := by omega
      have p2 : (k : Int) ≤ c := by omega
      have p3 : (k : Int) ≤ bs.length := by omega
      rw [cutL_some] at hcv hcv1
      go_upto_region 2 with fail
      go_quiet (fail)
      go_upto_region 7 with first | (go_at_call 27; refine (HCU1.out _ (HT.out.1.drewN _)).mono ?_; rintro e w5 ⟨rfl, rfl⟩) | (go_at_call 13; refine (HSP1.out _).mono ?_; rintro e w5 ⟨rfl, rfl⟩) | (go_at_call 15; refine (HDL1.out _).mono ?_; rintro e w5 ⟨rfl, rfl⟩)
      go_quiet (fail)
      go_wp2_with fail
      all_goals (try simp only [hops])
      
      all_goals (go_ret2; exact ⟨rfl, by rw [HK.out]; exact HT.out.1.drewN _⟩)
    obtain ⟨x, hx, hd⟩ := drop_at (bs := bs) (k := k) (by omega)
    have hbR := HBR.out k x hx
    have c0 : w1.cell? ⟨b, off + k, none⟩ = some (.int .u8 (x : Nat)) := (HT.out.1.chg.cell (p := ⟨b, off + k, none⟩) (cell_lt (HCELL.out k x hx)) (fun h => h)).trans (HCELL.out k x hx)
    have k1 : (k : Int) < bs.length := by omega
    have k2 : ((k : Int) == bs.length) = false := by simp; omega
    have k3 : (k == bs.length) = false := by simp; omega
    have HD := keepf hd
    have HSP1 := keepf (fun X => HSP.out x X)
    have HDL1 := keepf (fun X => HDL.out x X)
    clear hx hd
    by_cases hr : isRg x = true
    · have HV := keepf (show p + rgs (bs.drop p) = k + 1 + rgs (bs.drop (k + 1)) from by rw [HT.out.2, HD.out, rgs_go hr]; omega)
      have hs1 : isSp x = false := by
        cases h7 : isSp x with
        | false => rfl
        | true => rw [isRg, h7] at hr; cases hr
      have hd1 : isDl x = false := by
        cases h7 : isDl x with
        | false => rfl
        | true => rw [isRg, hs1, h7] at hr; cases hr
      rw [hs1] at HSP1
      rw [hd1] at HDL1
      clear hs1 hd1 hr
      go_upto_region 2 with fail
      go_quiet (fail)
      go_upto_region 4 with fail
      go_quiet (fail)
      go_wp2_with first | (go_at_call 13; refine (HSP1.out _).mono ?_; rintro e w5 ⟨rfl, rfl⟩) | (go_at_call 15; refine (HDL1.out _).mono ?_; rintro e w5 ⟨rfl, rfl⟩)
      go_step3
      exact ⟨(bs.length - (k + 1)) + 1, by omega, rfl, rfl, rfl, rfl, rfl, rfl, k + 1, rfl, by omega, by omega, keepf ⟨(HT.out.1.drewN _).at_ _, HV.out⟩⟩
    · have hr2 : isRg x = false := by simpa using hr
      have HK := keepf (show p + L = k from by rw [HL.out, HT.out.2, HD.out, rgs_stop hr2]; rfl)
      have HE1 := keepf (show E = 0 from by rw [HEr.out, if_neg (fun e => by have := HK.out; omega)])
      have hcv := fun m m2 => HCV.out ((w1.drewN m).drewN m2) ((HT.out.1.chg.drewN m).drewN m2) L HLen.out
      have hcv1 := fun m => HCV.out (w1.drewN m) (HT.out.1.chg.drewN m) L HLen.out
      have hLk : L = k - p := by have := HK.out; omega
      rw [← HS2.out, hLk] at hcv hcv1
      clear hr
      cases h7 : isSp x with
      | true =>
        rw [h7] at HSP1
        clear h7 hr2
        have p1 : (p : Int) ≤ k := by omega
        have p2 : (k : Int) ≤ c := by omega
        have p3 : (k : Int) ≤ bs.length := by omega
        rw [cutL_some] at hcv hcv1
        go_upto_region 2 with fail
        go_quiet (fail)
        go_upto_region 4 with fail
        go_quiet (fail)
        go_upto_region 7 with first | (go_at_call 27; refine (HCU1.out _ (HT.out.1.drewN _)).mono ?_; rintro e w5 ⟨rfl, rfl⟩) | (go_at_call 13; refine (HSP1.out _).mono ?_; rintro e w5 ⟨rfl, rfl⟩) | (go_at_call 15; refine (HDL1.out _).mono ?_; rintro e w5 ⟨rfl, rfl⟩)
        go_quiet (fail)
        go_wp2_with fail
        all_goals (try simp only [hops])
        all_goals (go_ret2; exact ⟨by rw [HE1.out]; rfl, by rw [HK.out]; exact HT.out.1.drewN _⟩)
      | false =>
        have h8 : isDl x = true := by
          cases h9 : isDl x with
          | true => rfl
          | false => rw [isRg, h7, h9] at hr2; cases hr2
        rw [h7] at HSP1
        rw [h8] at HDL1
        clear h7 h8 hr2
        have p1 : (p : Int) ≤ k := by omega
        have p2 : (k : Int) ≤ c := by omega
        have p3 : (k : Int) ≤ bs.length := by omega
        rw [cutL_some] at hcv hcv1
        go_upto_region 2 with fail
        go_quiet (fail)
        go_upto_region 4 with fail
        go_quiet (fail)
        go_upto_region 7 with first | (go_at_call 27; refine (HCU1.out _ (HT.out.1.drewN _)).mono ?_; rintro e w5 ⟨rfl, rfl⟩) | (go_at_call 13; refine (HSP1.out _).mono ?_; rintro e w5 ⟨rfl, rfl⟩) | (go_at_call 15; refine (HDL1.out _).mono ?_; rintro e w5 ⟨rfl, rfl⟩)
        go_quiet (fail)
        go_wp2_with fail
        all_goals (try simp only [hops])
        all_goals (go_ret2; exact ⟨by rw [HE1.out]; rfl, by rw [HK.out]; exact HT.out.1.drewN _⟩)
end Go.Proofs.Ytmmehaghcfdjdaa
