/- The walk of LexPlaces: where tokens stand. -/
import Derived.Test.YtmmehaghcfdjdaaLSt
import Derived.Deep.RegionHeld3
import Derived.BigRegion
namespace Go.Proofs.Ytmmehaghcfdjdaa
open Go.RowKit
set_option linter.unusedVariables false
set_option linter.unusedSimpArgs false
set_option maxHeartbeats 8000000 in
set_option maxRecDepth 100000 in
theorem placesW (H : LexOk) (bs : List Nat) (A : Option Addr) (c : Nat) (p : Int) (last : Bool) (w : World) (hS : Src w 1 A bs.length c (lcells bs)) (hm : bs.length ≤ maxLen) (hb : ∀ x ∈ bs, x < 256) (hc : bs.length ≤ c) :
    Calls Try.prog 7 #[.slice A bs.length c, .int .i64 p, .bool last] w fun e w' => e = .returned (.bool true) ∧ Chg NoS w w' := by
  have HW := keepf (fun W => works_any10 H W)
  unfold maxLen at hm
  have HN := keepf (fun (W : World) (h : Chg NoS w W) (q : Int) => H.next bs A c q last W (Src.below (w0 := w) hS h))
  by_cases hcase : 400 < bs.length ∨ p < 0 ∨ (bs.length : Int) < p
  · obtain ⟨n, hn⟩ : ∃ n, n = bs.length := ⟨_, rfl⟩
    rw [← hn] at hm hcase ⊢
    clear H hS hb hc HN hn
    have hcl : 400 < n ∨ (n ≤ 400 ∧ p < 0) ∨ (n ≤ 400 ∧ 0 ≤ p ∧ (n : Int) < p) := by omega
    clear hcase
    rcases hcl with h | ⟨h, h2⟩ | ⟨h, h2, h3⟩
    all_goals
      go_enter Try.func7, Try.ntmps7
      go_wp2_with (go_at_call 8; refine (HW.out _).mono ?_; rintro e wx ⟨rfl, hcx⟩; have HCx := keepf hcx; clear hcx)
      go_ret
      exact ⟨rfl, HCx.out⟩
  obtain ⟨P, rfl⟩ : ∃ P : Nat, p = P := ⟨p.toNat, by omega⟩
  have h4 : bs.length ≤ 400 := by omega
  have hP : P ≤ bs.length := by omega
  have hA : ∀ q : Nat, q ≤ bs.length → nextA bs (q : Nat) last = nextO bs q last := fun q hq => by
    unfold nextA
    rw [if_neg (by omega)]
    rfl
  have H1 := HN.out w (Chg.refl _ _) (P : Nat) (by omega) hc hb
  rw [hA P hP] at H1
  rcases nextO_place bs P last hP with ⟨q, hq1, hq2, ht, hz⟩ | ⟨he, hk, hf1, hf2, hf3, hsame⟩
  · obtain ⟨R, hR⟩ : ∃ R, R = nextO bs P last := ⟨_, rfl⟩
    rw [← hR] at H1 ht hz
    obtain ⟨er, t⟩ := R
    simp only [] at ht hz
    subst ht
    have H1' : Calls Try.prog 9 #[.slice A bs.length c, .int .i64 (P : Nat), .bool last] w fun e w' => e = .returned (.tuple #[.agg #[.int .i64 0, .int .i64 (q : Nat), .int .i64 (q : Nat), .int .i64 0, .int .i64 0, .string ⟨#[]⟩, .slice none 0 0, .string ⟨#[]⟩], .int .i64 er]) ∧ Chg NoS w w' := H1
    have HX := keepf H1'
    obtain ⟨n, hn⟩ : ∃ n, n = bs.length := ⟨_, rfl⟩
    rw [← hn] at HX hm h4 hP hq2 hz ⊢
    clear H H1 H1' hS hb HN hA hR hcase hc hn
    by_cases her : er = 0
    · subst her
      obtain ⟨rfl, rfl⟩ := hz rfl
      go_enter Try.func7, Try.ntmps7
      go_upto_region 4 with (go_at_call 9; refine HX.out.mono ?_; rintro e w2 ⟨rfl, hc2⟩; have HC2 := keepf hc2; clear hc2)
      have HB2 := keepf (Blk.new w2 28 #[.int .i64 0, .int .i64 (q : Nat), .int .i64 (q : Nat), .int .i64 0, .int .i64 0, .string ⟨#[]⟩, .slice none 0 0, .string ⟨#[]⟩])
      have HC3 := keepf (HC2.out.alloc (.cells #[.int .i64 0, .int .i64 (q : Nat), .int .i64 (q : Nat), .int .i64 0, .int .i64 0, .string ⟨#[]⟩, .slice none 0 0, .string ⟨#[]⟩] 28))
      obtain ⟨W, hW⟩ : ∃ W, W = w2.alloc (.cells #[.int .i64 0, .int .i64 (q : Nat), .int .i64 (q : Nat), .int .i64 0, .int .i64 0, .string ⟨#[]⟩, .slice none 0 0, .string ⟨#[]⟩] 28) := ⟨_, rfl⟩
      obtain ⟨g, hg⟩ : ∃ g, g = w2.heap.size := ⟨_, rfl⟩
      rw [← hW] at HB2 HC3
      rw [← hg] at HB2
      rw [← hW, ← hg]
      clear hW hg
      have q0 := HB2.out.cell 0
      have q1 := HB2.out.cell 1
      have q2 := HB2.out.cell 2
      have q3 := HB2.out.cell 3
      have q4 := HB2.out.cell 4
      have q5 := HB2.out.cell 5
      have q6 := HB2.out.cell 6
      have q7 := HB2.out.cell 7
      simp at q0 q1 q2 q3 q4 q5 q6 q7
      go_wp2_with (go_at_call 8; refine (HW.out _).mono ?_; rintro e wx ⟨rfl, hcx⟩; have HCx := keepf hcx; clear hcx)
      go_ret
      exact ⟨rfl, HC3.out.trans HCx.out (fun _ _ e => e)⟩
    · have v2 : (er != 0) = true := by simpa using her
      have v3 : (er == 0) = false := by simpa using her
      clear hz her
      go_enter Try.func7, Try.ntmps7
      go_upto_region 4 with (go_at_call 9; refine HX.out.mono ?_; rintro e w2 ⟨rfl, hc2⟩; have HC2 := keepf hc2; clear hc2)
      have HB2 := keepf (Blk.new w2 28 #[.int .i64 0, .int .i64 (q : Nat), .int .i64 (q : Nat), .int .i64 0, .int .i64 0, .string ⟨#[]⟩, .slice none 0 0, .string ⟨#[]⟩])
      have HC3 := keepf (HC2.out.alloc (.cells #[.int .i64 0, .int .i64 (q : Nat), .int .i64 (q : Nat), .int .i64 0, .int .i64 0, .string ⟨#[]⟩, .slice none 0 0, .string ⟨#[]⟩] 28))
      obtain ⟨W, hW⟩ : ∃ W, W = w2.alloc (.cells #[.int .i64 0, .int .i64 (q : Nat), .int .i64 (q : Nat), .int .i64 0, .int .i64 0, .string ⟨#[]⟩, .slice none 0 0, .string ⟨#[]⟩] 28) := ⟨_, rfl⟩
      obtain ⟨g, hg⟩ : ∃ g, g = w2.heap.size := ⟨_, rfl⟩
      rw [← hW] at HB2 HC3
      rw [← hg] at HB2
      rw [← hW, ← hg]
      clear hW hg
      have q0 := HB2.out.cell 0
      have q1 := HB2.out.cell 1
      have q2 := HB2.out.cell 2
      have q3 := HB2.out.cell 3
      have q4 := HB2.out.cell 4
      have q5 := HB2.out.cell 5
      have q6 := HB2.out.cell 6
      have q7 := HB2.out.cell 7
      simp at q0 q1 q2 q3 q4 q5 q6 q7
      go_wp2_with (go_at_call 8; refine (HW.out _).mono ?_; rintro e wx ⟨rfl, hcx⟩; have HCx := keepf hcx; clear hcx)
      go_ret
      exact ⟨rfl, HC3.out.trans HCx.out (fun _ _ e => e)⟩
  · obtain ⟨R, hR⟩ : ∃ R, R = nextO bs P last := ⟨_, rfl⟩
    rw [← hR] at H1 he hk hf1 hf2 hf3 hsame
    obtain ⟨er, t⟩ := R
    simp only [] at he hk hf1 hf2 hf3 hsame
    subst he
    have H2 := keepf (fun (W : World) (h : Chg NoS w W) => HN.out W h (t.from_ : Nat) (by omega) hc hb)
    rw [hA t.from_ (by omega), hsame] at H2
    have HOF0 := fun W => of10_any t W
    have HSM0 := fun W => same10_eq t W
    obtain ⟨k0, k1, k2, k3, k4, vs, s⟩ := t
    unfold NxTo tknV at H1 H2
    unfold tknV at HOF0 HSM0
    simp only [] at H1 H2 HOF0 HSM0 hk hf1 hf2 hf3
    obtain ⟨S5, h5⟩ : ∃ S5, S5 = sb vs := ⟨_, rfl⟩
    obtain ⟨S7, h7⟩ : ∃ S7, S7 = sb s := ⟨_, rfl⟩
    rw [← h5, ← h7] at H1 H2 HOF0 HSM0
    have HX := keepf H1
    obtain ⟨n, hn⟩ : ∃ n, n = bs.length := ⟨_, rfl⟩
    rw [← hn] at HX H2 hm h4 hP hf3 ⊢
    clear H1 hS hb HN hA hR hcase hsame h5 h7 hc hn
    have kk : ((k0 : Int) == 0) = false := by simp; omega
    have l1 : (P : Int) ≤ k1 := by omega
    have l2 : (k1 : Int) < k2 := by omega
    have l3 : (k2 : Int) ≤ n := by omega
    have m1 : decide ((P : Int) ≤ k1) = true := by simpa using l1
    have m2 : decide ((k1 : Int) < k2) = true := by simpa using l2
    have m3 : decide ((k2 : Int) ≤ n) = true := by simpa using l3
    clear hk
    go_enter Try.func7, Try.ntmps7
    go_upto_region 4 with (go_at_call 9; refine HX.out.mono ?_; rintro e w2 ⟨rfl, hc2⟩; have HC2 := keepf hc2; clear hc2)
    have HB2 := keepf (Blk.new w2 28 #[.int .i64 (k0 : Nat), .int .i64 (k1 : Nat), .int .i64 (k2 : Nat), .int .i64 (k3 : Nat), .int .i64 k4, .string S5, .slice none 0 0, .string S7])
    have HC3 := keepf (HC2.out.alloc (.cells #[.int .i64 (k0 : Nat), .int .i64 (k1 : Nat), .int .i64 (k2 : Nat), .int .i64 (k3 : Nat), .int .i64 k4, .string S5, .slice none 0 0, .string S7] 28))
    obtain ⟨W, hW⟩ : ∃ W, W = w2.alloc (.cells #[.int .i64 (k0 : Nat), .int .i64 (k1 : Nat), .int .i64 (k2 : Nat), .int .i64 (k3 : Nat), .int .i64 k4, .string S5, .slice none 0 0, .string S7] 28) := ⟨_, rfl⟩
    obtain ⟨g, hg⟩ : ∃ g, g = w2.heap.size := ⟨_, rfl⟩
    rw [← hW] at HB2 HC3
    rw [← hg] at HB2
    rw [← hW, ← hg]
    clear hW hg
    have q0 := HB2.out.cell 0
    have q1 := HB2.out.cell 1
    have q2 := HB2.out.cell 2
    have q3 := HB2.out.cell 3
    have q4 := HB2.out.cell 4
    have q5 := HB2.out.cell 5
    have q6 := HB2.out.cell 6
    have q7 := HB2.out.cell 7
    simp at q0 q1 q2 q3 q4 q5 q6 q7
    go_upto_region 9 with (go_at_call 9; refine (H2.out _ HC3.out).mono ?_; rintro e w3 ⟨rfl, hc3⟩; have HB3 := keepf (HB2.out.chg hc3 (fun e => e)); have HC4 := keepf (HC3.out.trans hc3 (fun _ _ e => e)); clear hc3)
    clear q0 q1 q2 q3 q4 q5 q6 q7
    have hst : LSt w g w3.heap.size g #[.int .i64 (k0 : Nat), .int .i64 (k1 : Nat), .int .i64 (k2 : Nat), .int .i64 (k3 : Nat), .int .i64 k4, .string S5, .slice none 0 0, .string S7] (w3.alloc (.cells #[.int .i64 (k0 : Nat), .int .i64 (k1 : Nat), .int .i64 (k2 : Nat), .int .i64 (k3 : Nat), .int .i64 k4, .string S5, .slice none 0 0, .string S7] 28)) := ⟨HB3.out.alloc _, Blk.new w3 28 #[.int .i64 (k0 : Nat), .int .i64 (k1 : Nat), .int .i64 (k2 : Nat), .int .i64 (k3 : Nat), .int .i64 k4, .string S5, .slice none 0 0, .string S7], HB3.out.alloc _, HC4.out.alloc _⟩
    obtain ⟨W4, hW⟩ : ∃ W4, W4 = w3.alloc (.cells #[.int .i64 (k0 : Nat), .int .i64 (k1 : Nat), .int .i64 (k2 : Nat), .int .i64 (k3 : Nat), .int .i64 k4, .string S5, .slice none 0 0, .string S7] 28) := ⟨_, rfl⟩
    obtain ⟨g4, hg⟩ : ∃ g4, g4 = w3.heap.size := ⟨_, rfl⟩
    rw [← hW, ← hg] at hst
    rw [← hW, ← hg]
    clear hW hg
    have hsd := hst.drew
    have hq := hst
    obtain ⟨_, _, _, _, _, _, _, _, _, _, _, _, _, _, _, _, _, _, _, _, _, _, _, _⟩ := hq.cells
    obtain ⟨g5, hg5⟩ : ∃ g5, g5 = g := ⟨_, rfl⟩
    have HOF := keepf (LSt.of_ (w := w) (g := g) (g4 := g4) (g5 := g) (cs := #[.int .i64 (k0 : Nat), .int .i64 (k1 : Nat), .int .i64 (k2 : Nat), .int .i64 (k3 : Nat), .int .i64 k4, .string S5, .slice none 0 0, .string S7]) HOF0)
    have HSM := keepf (LSt.of_ (w := w) (g := g) (g4 := g4) (g5 := g) (cs := #[.int .i64 (k0 : Nat), .int .i64 (k1 : Nat), .int .i64 (k2 : Nat), .int .i64 (k3 : Nat), .int .i64 k4, .string S5, .slice none 0 0, .string S7]) HSM0)
    have HWK := keepf (LSt.of_ (w := w) (g := g) (g4 := g4) (g5 := g) (cs := #[.int .i64 (k0 : Nat), .int .i64 (k1 : Nat), .int .i64 (k2 : Nat), .int .i64 (k3 : Nat), .int .i64 k4, .string S5, .slice none 0 0, .string S7]) HW.out)
    clear hg5 hq hst HOF0 HSM0
    first
      | (go_loud (go_region_held3 (fun w' => w'.cell? ⟨g, 0, none⟩ = some (.int .i64 (k0 : Nat)) ∧ w'.cell? ⟨g, 1, none⟩ = some (.int .i64 (k1 : Nat)) ∧ w'.cell? ⟨g, 2, none⟩ = some (.int .i64 (k2 : Nat)) ∧ w'.cell? ⟨g, 3, none⟩ = some (.int .i64 (k3 : Nat)) ∧ w'.cell? ⟨g, 4, none⟩ = some (.int .i64 k4) ∧ w'.cell? ⟨g, 5, none⟩ = some (.string S5) ∧ w'.cell? ⟨g, 6, none⟩ = some (.slice none 0 0) ∧ w'.cell? ⟨g, 7, none⟩ = some (.string S7) ∧ w'.cell? ⟨g4, 0, none⟩ = some (.int .i64 (k0 : Nat)) ∧ w'.cell? ⟨g4, 1, none⟩ = some (.int .i64 (k1 : Nat)) ∧ w'.cell? ⟨g4, 2, none⟩ = some (.int .i64 (k2 : Nat)) ∧ w'.cell? ⟨g4, 3, none⟩ = some (.int .i64 (k3 : Nat)) ∧ w'.cell? ⟨g4, 4, none⟩ = some (.int .i64 k4) ∧ w'.cell? ⟨g4, 5, none⟩ = some (.string S5) ∧ w'.cell? ⟨g4, 6, none⟩ = some (.slice none 0 0) ∧ w'.cell? ⟨g4, 7, none⟩ = some (.string S7) ∧ w'.cell? ⟨g, 0, none⟩ = some (.int .i64 (k0 : Nat)) ∧ w'.cell? ⟨g, 1, none⟩ = some (.int .i64 (k1 : Nat)) ∧ w'.cell? ⟨g, 2, none⟩ = some (.int .i64 (k2 : Nat)) ∧ w'.cell? ⟨g, 3, none⟩ = some (.int .i64 (k3 : Nat)) ∧ w'.cell? ⟨g, 4, none⟩ = some (.int .i64 k4) ∧ w'.cell? ⟨g, 5, none⟩ = some (.string S5) ∧ w'.cell? ⟨g, 6, none⟩ = some (.slice none 0 0) ∧ w'.cell? ⟨g, 7, none⟩ = some (.string S7))
          (first | (go_keep; done) | (go_split_ands; exact ⟨by assumption, by assumption, by assumption, by assumption, by assumption, by assumption, by assumption, by assumption, by assumption, by assumption, by assumption, by assumption, by assumption, by assumption, by assumption, by assumption, by assumption, by assumption, by assumption, by assumption, by assumption, by assumption, by assumption, by assumption⟩))
          (first
            | (go_at_call 12; refine (HOF.out _ (by assumption)).mono ?_; rintro e wq ⟨rfl, hq⟩; obtain ⟨_, _, _, _, _, _, _, _, _, _, _, _, _, _, _, _, _, _, _, _, _, _, _, _⟩ := hq.cells)
            | (go_at_call 11; refine (HSM.out _ (by assumption)).mono ?_; rintro e wq ⟨rfl, hq⟩; obtain ⟨_, _, _, _, _, _, _, _, _, _, _, _, _, _, _, _, _, _, _, _, _, _, _, _⟩ := hq.cells)
            | (go_at_call 8; refine (HWK.out _ (by assumption)).mono ?_; rintro e wq ⟨rfl, hq⟩; obtain ⟨_, _, _, _, _, _, _, _, _, _, _, _, _, _, _, _, _, _, _, _, _, _, _, _⟩ := hq.cells))))
      | fail "region"
    go_wp2_with fail
    go_ret
    exact ⟨rfl, (by assumption : LSt w g g4 g #[.int .i64 (k0 : Nat), .int .i64 (k1 : Nat), .int .i64 (k2 : Nat), .int .i64 (k3 : Nat), .int .i64 k4, .string S5, .slice none 0 0, .string S7] _).chg⟩
end Go.Proofs.Ytmmehaghcfdjdaa
