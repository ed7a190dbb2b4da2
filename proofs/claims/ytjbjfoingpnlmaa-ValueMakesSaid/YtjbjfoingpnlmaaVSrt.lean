/- The library's stable sort over a row of at most 20 pairs. -/
import Derived.Test.YtjbjfoingpnlmaaVIn2
namespace Go.Proofs.Ytjbjfoingpnlmaa
open Go.RowKit
set_option linter.unusedVariables false
set_option linter.unusedSimpArgs false

theorem insP_none (V f : Value) (a : Nat) (ha : a ≤ 100) (w : World) : Calls Try.prog 67 #[V, .int .i64 a, .int .i64 a, f] w fun e w' => e = .returned (.tuple #[]) ∧ w' = w := by
  go_enter Try.func67, Try.ntmps67
  go_wp2_with fail
  go_loopw [8] (fun v wr => v = .int .i64 ((a + 1 : Nat) : Int) ∧ wr = w) (fun _ _ => 0)
  case atStart => exact ⟨by go_num, rfl⟩
  case round =>
    obtain ⟨rfl, rfl⟩ := hrel
    have d1 : decide (((a + 1 : Nat) : Int) < (a : Int)) = false := by simp; omega
    have d2 : decide (a + 1 < a) = false := by simp
    go_wp2_with fail
    go_end0
    exact ⟨rfl, rfl⟩

set_option maxHeartbeats 4000000 in
set_option maxRecDepth 100000 in
theorem stableP_any (g b off M gs cap : Nat) (S : Nat → ByteArray) (w0 : World) (eg : ∀ args w, (callFunc g args).run Try.prog w = .ok (.enter g args) w) (hcmp : CmpP g b off S M gs w0)
    (d : List Nat) (w : World) (hL : d.length ≤ 20) (hM : ∀ x ∈ d, x < M) (hR : PRow w gs cap b off d) (hch : Chg (fun i => i = gs) w0 w) :
    Calls Try.prog 62 #[.slice (some ⟨gs, 0, none⟩) d.length cap, .int .i64 d.length, .func (.func g) #[] #[]] w fun e w' => e = .returned (.tuple #[]) ∧ PRow w' gs cap b off (sortR S d).reverse ∧ Chg (fun i => i = gs) w w' := by
  have HI := keepf (insP_any g b off M gs cap S w0 eg hcmp d w (by omega) hM hR hch)
  obtain ⟨N, hN⟩ : ∃ N, N = d.length := ⟨_, rfl⟩
  rw [← hN] at HI hL ⊢
  have HE := keepf (fun (W : World) => insP_none (.slice (some ⟨gs, 0, none⟩) N cap) (.func (.func g) #[] #[]) N (by omega) W)
  clear hN hR hch hM hcmp
  by_cases h20 : N = 20
  · have HI2 : Hid (Calls Try.prog 67 #[.slice (some ⟨gs, 0, none⟩) N cap, .int .i64 0, .int .i64 20, .func (.func g) #[] #[]] w fun e w' => e = .returned (.tuple #[]) ∧ PRow w' gs cap b off (sortR S d).reverse ∧ Chg (fun i => i = gs) w w') := by
      subst h20
      exact HI.out
    have HE2 : Hid (∀ W : World, Calls Try.prog 67 #[.slice (some ⟨gs, 0, none⟩) N cap, .int .i64 20, .int .i64 (N : Nat), .func (.func g) #[] #[]] W fun e w' => e = .returned (.tuple #[]) ∧ w' = W) := by
      subst h20
      exact fun W => insP_none _ _ 20 (by omega) W
    have d1 : decide ((20 : Int) ≤ (N : Int)) = true := by simp; omega
    have d1' : decide (20 ≤ N) = true := by simp; omega
    have d2 : decide ((40 : Int) ≤ (N : Int)) = false := by simp; omega
    have d2' : decide (40 ≤ N) = false := by simp; omega
    have d3 : decide ((20 : Int) < (N : Int)) = false := by simp; omega
    have d3' : decide (20 < N) = false := by simp; omega
    clear h20 HI HE
    go_enter Try.func62, Try.ntmps62
    go_upto_region 2 with fail
    go_loopw [7, 8] (fun va vb wr => (va = .int .i64 0 ∧ vb = .int .i64 20 ∧ wr = w) ∨ (va = .int .i64 20 ∧ vb = .int .i64 40 ∧ Hid (PRow wr gs cap b off (sortR S d).reverse ∧ Chg (fun i => i = gs) w wr))) (fun _ vb _ => (41 - intOf vb).toNat)
    case atStart => exact .inl ⟨rfl, rfl, rfl⟩
    case round =>
      rcases hrel with ⟨rfl, rfl, rfl⟩ | ⟨rfl, rfl, HQ⟩
      · go_wp2_with (go_at_call 67; refine HI2.out.mono ?_; rintro e w2 ⟨rfl, h1, h2⟩; have HQ := keepf (And.intro h1 h2); clear h1 h2)
        go_roundw
        case rel => exact .inr ⟨rfl, by go_num, HQ⟩
        case measure => simp [intOf]
      · go_upto_region 7 with (go_at_call 67; refine (HE2.out _).mono ?_; rintro e w2 ⟨rfl, rfl⟩)
        go_loopw [6] (fun v wx => v = .int .i64 20 ∧ wx = w2) (fun _ _ => 0)
        case atStart => exact ⟨rfl, rfl⟩
        case round =>
          obtain ⟨rfl, rfl⟩ := hrel
          go_wp2_with fail
          go_end0
          exact ⟨rfl, HQ.out.1, HQ.out.2⟩
  · have hlt : N < 20 := by omega
    have d1 : decide ((20 : Int) ≤ (N : Int)) = false := by simp; omega
    have d1' : decide (20 ≤ N) = false := by simp; omega
    have d2 : decide ((20 : Int) < (N : Int)) = false := by simp; omega
    have d2' : decide (20 < N) = false := by simp; omega
    go_enter Try.func62, Try.ntmps62
    go_upto_region 2 with fail
    go_loopw [7, 8] (fun va vb wr => va = .int .i64 0 ∧ vb = .int .i64 20 ∧ wr = w) (fun _ _ _ => 0)
    case atStart => exact ⟨rfl, rfl, rfl⟩
    case round =>
      obtain ⟨rfl, rfl, rfl⟩ := hrel
      go_upto_region 7 with (go_at_call 67; refine HI.out.mono ?_; rintro e w2 ⟨rfl, h1, h2⟩; have HQ := keepf (And.intro h1 h2); clear h1 h2)
      go_loopw [6] (fun v wx => v = .int .i64 20 ∧ wx = w2) (fun _ _ => 0)
      case atStart => exact ⟨rfl, rfl⟩
      case round =>
        obtain ⟨rfl, rfl⟩ := hrel
        go_wp2_with fail
        go_end0
        exact ⟨rfl, HQ.out.1, HQ.out.2⟩
set_option maxHeartbeats 2000000 in
theorem stableP_none (V f : Value) (w : World) : Calls Try.prog 62 #[V, .int .i64 0, f] w fun e w' => e = .returned (.tuple #[]) ∧ w' = w := by
  have HE := keepf (fun (W : World) => insP_none V f 0 (by omega) W)
  go_enter Try.func62, Try.ntmps62
  go_upto_region 2 with fail
  go_loopw [7, 8] (fun va vb wr => va = .int .i64 0 ∧ vb = .int .i64 20 ∧ wr = w) (fun _ _ _ => 0)
  case atStart => exact ⟨rfl, rfl, rfl⟩
  case round =>
    obtain ⟨rfl, rfl, rfl⟩ := hrel
    go_upto_region 7 with (go_at_call 67; refine (HE.out _).mono ?_; rintro e w2 ⟨rfl, rfl⟩)
    go_loopw [6] (fun v wx => v = .int .i64 20 ∧ wx = w2) (fun _ _ => 0)
    case atStart => exact ⟨rfl, rfl⟩
    case round =>
      obtain ⟨rfl, rfl⟩ := hrel
      go_wp2_with fail
      go_end0
      exact ⟨rfl, rfl⟩
theorem sortP_any (g b off M gs cap : Nat) (S : Nat → ByteArray) (w0 : World) (eg : ∀ args w, (callFunc g args).run Try.prog w = .ok (.enter g args) w) (hcmp : CmpP g b off S M gs w0)
    (d : List Nat) (w : World) (hL : d.length ≤ 20) (hM : ∀ x ∈ d, x < M) (hR : PRow w gs cap b off d) (hch : Chg (fun i => i = gs) w0 w) :
    Calls Try.prog 49 #[.slice (some ⟨gs, 0, none⟩) d.length cap, .func (.func g) #[] #[]] w fun e w' => e = .returned (.tuple #[]) ∧ PRow w' gs cap b off (sortR S d).reverse ∧ Chg (fun i => i = gs) w w' := by
  have HI := keepf (stableP_any g b off M gs cap S w0 eg hcmp d w hL hM hR hch)
  obtain ⟨N, hN⟩ : ∃ N, N = d.length := ⟨_, rfl⟩
  rw [← hN] at HI ⊢
  clear hN hR hch hM hcmp
  go_enter Try.func49, Try.ntmps49
  go_wp2_with (go_at_call 62; refine HI.out.mono ?_; rintro e w2 ⟨rfl, h1, h2⟩; have HQ := keepf (And.intro h1 h2); clear h1 h2)
  go_end0
  exact ⟨rfl, HQ.out.1, HQ.out.2⟩
theorem sortP_none (A : Option Addr) (c : Nat) (f : Value) (w : World) : Calls Try.prog 49 #[.slice A 0 c, f] w fun e w' => e = .returned (.tuple #[]) ∧ w' = w := by
  have HI := keepf (fun W => stableP_none (.slice A 0 c) f W)
  go_enter Try.func49, Try.ntmps49
  go_wp2_with (go_at_call 62; refine (HI.out _).mono ?_; rintro e w2 ⟨rfl, rfl⟩)
  go_end0
  exact ⟨rfl, rfl⟩
end Go.Proofs.Ytjbjfoingpnlmaa
