/- The program's Skip: where space and comments end. -/
import Derived.Test.YtmmehaghcfdjdaaPLx1
import Derived.Test.YtmmehaghcfdjdaaScopes
import Derived.Deep.Cut
namespace Go.Proofs.Ytmmehaghcfdjdaa
open Go.RowKit
set_option linter.unusedVariables false
set_option linter.unusedSimpArgs false

def skT (bs : List Nat) (k : Nat) : Nat := if k ≤ bs.length then k + skp false (bs.drop k) else bs.length
def SkJ1 (w : World) (bs : List Nat) (A : Option Addr) (c : Nat) (r : Nat) (n : Nat) (x : Act) (w' : World) : Prop :=
  x.defers = [] ∧ x.tmps.size = 49 ∧ x.tmps.getD 0 undef = .slice A bs.length c ∧ ∃ k : Nat, x.tmps.getD 1 undef = .int .i64 (k : Nat) ∧ n = 3 * (bs.length - k) + 1 ∧ w' = w ∧ Hid (r = skT bs k)
def SkJ0 (w : World) (bs : List Nat) (A : Option Addr) (c : Nat) (r : Nat) (n : Nat) (x : Act) (w' : World) : Prop :=
  x.defers = [] ∧ x.tmps.size = 49 ∧ x.tmps.getD 0 undef = .slice A bs.length c ∧ ∃ k : Nat, x.tmps.getD 1 undef = .int .i64 (k : Nat) ∧ k ≤ bs.length ∧ w' = w ∧ (n = 3 * (bs.length - k) + 2 ∨ (n = 3 * (bs.length - k) ∧ Hid (bs[k]? = some 37))) ∧ Hid (r = k + skp true (bs.drop k))
theorem slots_49 {x : Act} {v0 : Value} {C : Act → Prop} (h1 : x.defers = []) (h2 : x.tmps.size = 49) (h3 : x.tmps.getD 0 undef = v0)
    (k : ∀ f : Nat → Value, f 1 = x.tmps.getD 1 undef → C { tmps := #[v0, f 1, f 2, f 3, f 4, f 5, f 6, f 7, f 8, f 9, f 10, f 11, f 12, f 13, f 14, f 15, f 16, f 17, f 18, f 19, f 20, f 21, f 22, f 23, f 24, f 25, f 26, f 27, f 28, f 29, f 30, f 31, f 32, f 33, f 34, f 35, f 36, f 37, f 38, f 39, f 40, f 41, f 42, f 43, f 44, f 45, f 46, f 47, f 48], defers := [] }) : C x := by
  obtain ⟨t, d⟩ := x
  simp only at h1 h2 h3
  subst h1
  have h5 := k (fun i => t.getD i undef) rfl
  rw [← h3] at h5
  rw [arr_slots t 49 h2]
  exact h5
theorem skp_nl {y : Nat} {l : List Nat} (h : y = 10 ∨ y = 13) : skp true (y :: l) = skp false (y :: l) := skp_eol l h
set_option maxHeartbeats 4000000 in
set_option maxRecDepth 100000 in
theorem pskip_in (bs : List Nat) (A : Option Addr) (c p : Nat) (w : World) (hS : Src w 1 A bs.length c (lcells bs)) (hl : bs.length ≤ 1000000) (hc : bs.length ≤ c) :
    Calls Try.prog 17 #[.slice A bs.length c, .int .i64 (p : Nat)] w fun e w' => e = .returned (.int .i64 (skT bs p : Nat)) ∧ w = w' := by
  have HCELL := keepf (fun (hn : 0 < bs.length) => lcell hS (Chg.refl NoS w) hn)
  obtain ⟨r, hr⟩ : ∃ r, r = skT bs p := ⟨_, rfl⟩
  have HR := keepf hr
  rw [← hr]
  clear hS hr
  go_enter Try.func17, Try.ntmps17
  go_wp2
  refine wp_scope2 (SkJ0 w bs A c r) (SkJ1 w bs A c r) rfl rfl ?pass0 ?pass1 ?first
  case first =>
    intro _ hpass
    have HPass := keepf hpass
    clear hpass
    go_wp2
    go_step3
    rename_i hK
    refine hK _ _ (HPass.out _ _ _ ⟨rfl, rfl, rfl, p, rfl, rfl, rfl, HR⟩)
  case pass1 =>
    intro n x w1 hx
    obtain ⟨h1, h2, h3, k, h4, rfl, rfl, HT⟩ := hx
    refine slots_49 h1 h2 h3 (C := fun y => Code.wp _ _ _ y w1) ?_
    intro f hf
    rw [h4] at hf
    simp only [hf]
    clear h1 h2 h3 h4 hf
    by_cases hkn : bs.length ≤ k
    · have HE := keepf (show r = bs.length from by
        rw [HT.out, skT]
        split
        · rw [List.drop_of_length_le hkn]; show k + 0 = _; omega
        · rfl)
      have d1 : decide ((bs.length : Int) ≤ k) = true := by simp; omega
      go_wp2_with fail
      simp only [hops]
      go_ret
      exact ⟨ret_l64 (by rw [HE.out]), rfl⟩
    obtain ⟨x, hx, hd⟩ := drop_at (bs := bs) (k := k) (by omega)
    obtain ⟨b, off, rfl, hcell⟩ := HCELL.out (by omega)
    have c0 := hcell k x hx
    have d1 : decide ((bs.length : Int) ≤ k) = false := by simp; omega
    have d2 : (k : Int) < bs.length := by omega
    have HV := keepf (show r = k + skp false (x :: bs.drop (k + 1)) from by rw [HT.out, skT, if_pos (by omega), hd])
    have HX := keepf hx
    have HD := keepf hd
    have hkl : k < bs.length := by omega
    clear hcell hx hd hkn
    by_cases h37 : x = 37
    · subst h37
      go_wp2_with fail
      go_step3
      refine ⟨3 * (bs.length - k), by omega, .inl ⟨rfl, rfl, rfl, rfl, k, rfl, by omega, rfl, .inr ⟨rfl, HX⟩, keepf ?_⟩⟩
      rw [HV.out, skp_37, HD.out]
    have e37 : ((x : Int) == 37) = false := by simp; omega
    have HSP := keepf (fun W => pspace_any x W)
    by_cases hs : isSp x = true
    · have HG := keepf hs
      rw [hs] at HSP
      clear hs
      go_wp2_with (go_at_call 13; refine (HSP.out _).mono ?_; rintro e w3 ⟨rfl, rfl⟩)
      go_step3
      exact ⟨3 * (bs.length - (k + 1)) + 1, by omega, .inr ⟨rfl, rfl, rfl, rfl, k + 1, rfl, rfl, rfl, keepf (by rw [HV.out, skp_sp _ HG.out, skT, if_pos (by omega)]; omega)⟩⟩
    · have HG := keepf (show isSp x = false from by simpa using hs)
      rw [HG.out] at HSP
      clear hs
      go_wp2_with (go_at_call 13; refine (HSP.out _).mono ?_; rintro e w3 ⟨rfl, rfl⟩)
      simp only [hops]
      go_ret
      exact ⟨ret_l64 (by rw [HV.out, skp_no _ HG.out h37]; rfl), rfl⟩
  case pass0 =>
    intro n x w1 hx
    obtain ⟨h1, h2, h3, k, h4, hk, rfl, HN, HT⟩ := hx
    refine slots_49 h1 h2 h3 (C := fun y => Code.wp _ _ _ y w1) ?_
    intro f hf
    rw [h4] at hf
    simp only [hf]
    clear h1 h2 h3 h4 hf
    by_cases hkn : k = bs.length
    · subst hkn
      have hn : n = 3 * (bs.length - bs.length) + 2 := by
        rcases HN with h | ⟨_, h⟩
        · exact h
        · have := (List.getElem?_eq_some_iff.1 h.out).1; omega
      go_wp2_with fail
      go_step3
      exact ⟨3 * (bs.length - bs.length) + 1, by omega, .inr ⟨rfl, rfl, rfl, rfl, bs.length, rfl, rfl, rfl, keepf (by rw [HT.out, skT, if_pos (Nat.le_refl _), List.drop_of_length_le (Nat.le_refl _)]; rfl)⟩⟩
    obtain ⟨x, hx, hd⟩ := drop_at (bs := bs) (k := k) (by omega)
    obtain ⟨b, off, rfl, hcell⟩ := HCELL.out (by omega)
    have c0 := hcell k x hx
    have d2 : (k : Int) < bs.length := by omega
    have hkl : k < bs.length := by omega
    have HV := keepf (show r = k + skp true (x :: bs.drop (k + 1)) from by rw [HT.out, hd])
    have HD := keepf hd
    have HX := keepf hx
    clear hcell hx hd
    by_cases hnl : x = 10 ∨ x = 13
    · have hn : n = 3 * (bs.length - k) + 2 := by
        rcases HN with h | ⟨_, h⟩
        · exact h
        · have e := h.out
          rw [HX.out] at e
          injection e with e
          omega
      have HW := keepf (show r = skT bs k from by rw [HV.out, skp_nl hnl, skT, if_pos (by omega), HD.out])
      clear HN
      rcases hnl with rfl | rfl
      all_goals
        go_wp2_with fail
        go_step3
        exact ⟨3 * (bs.length - k) + 1, by omega, .inr ⟨rfl, rfl, rfl, rfl, k, rfl, rfl, rfl, HW⟩⟩
    · have e0 : ((x : Int) != 10) = true := by simp; omega
      have e1 : ((x : Int) != 13) = true := by simp; omega
      have HW := keepf (show r = k + 1 + skp true (bs.drop (k + 1)) from by rw [HV.out, skp_com _ (by omega) (by omega)]; omega)
      have hn : 3 * (bs.length - k) ≤ n := by rcases HN with h | ⟨h, _⟩ <;> omega
      clear hnl HN
      go_wp2_with fail
      go_step3
      exact ⟨3 * (bs.length - (k + 1)) + 2, by omega, .inl ⟨rfl, rfl, rfl, rfl, k + 1, rfl, by omega, rfl, .inl rfl, HW⟩⟩
theorem pskip_any (bs : List Nat) (A : Option Addr) (c : Nat) (p : Int) (w : World) (hS : Src w 1 A bs.length c (lcells bs)) (hl : bs.length ≤ 1000000) (hc : bs.length ≤ c) :
    Calls Try.prog 17 #[.slice A bs.length c, .int .i64 p] w fun e w' => e = .returned (.int .i64 (skipO bs p : Nat)) ∧ w = w' := by
  by_cases h0 : p < 0
  · have HE := keepf (show skipO bs p = 0 from if_pos h0)
    obtain ⟨n, hn⟩ : ∃ n, n = bs.length := ⟨_, rfl⟩
    rw [← hn] at hl ⊢
    clear hS hc hn
    go_enter Try.func17, Try.ntmps17
    go_wp2
    go_step3
    go_wp2_with fail
    (try simp only [Exit.noGoto_ret])
    go_ret
    exact ⟨ret_l64 (by rw [HE.out]; rfl), rfl⟩
  · have h := pskip_in bs A c p.toNat w hS hl hc
    rw [show ((p.toNat : Nat) : Int) = p from by omega] at h
    have e : skT bs p.toNat = skipO bs p := by
      rw [skT, skipO, if_neg h0]
      by_cases h1 : p ≤ bs.length
      · rw [if_pos (by omega), if_pos h1]
      · rw [if_neg (by omega), if_neg h1]
    rwa [e] at h
end Go.Proofs.Ytmmehaghcfdjdaa
