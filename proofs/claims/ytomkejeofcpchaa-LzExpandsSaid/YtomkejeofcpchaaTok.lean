/- What a token's own functions do: wellMade, size, check. -/
import Derived.Test.YtomkejeofcpchaaLzM
import Derived.Deep.RegionHeld3
namespace Go.Proofs.Ytomkejeofcpchaa
open Go.RowKit
set_option linter.unusedVariables false
set_option linter.unusedSimpArgs false

abbrev Tk.val (t : Tk) : Value := .agg #[.int .u8 (t.b : Nat), .int .i64 t.l, .int .i64 t.f]
theorem ret_bool {a b : Bool} (h : a = b) : Ending.returned (.bool a) = .returned (.bool b) := by rw [h]
theorem ret_n64 {a b : Int} (h : a = b) : Ending.returned (.int .i64 a) = .returned (.int .i64 b) := by rw [h]

theorem tsize_any (t : Tk) (w : World) :
    Calls Try.prog 19 #[t.val] w fun e w' => e = .returned (.int .i64 t.size) ∧ Chg NoS w w' := by
  obtain ⟨b, l, f⟩ := t
  rcases Decidable.em (l < 1) with h | h
  · go_enter Try.func19, Try.ntmps19
    go_wp2_with fail
    go_ret
    exact ⟨ret_n64 (by simp [Tk.size]; omega), (Chg.refl _ _).alloc _⟩
  · go_enter Try.func19, Try.ntmps19
    go_wp2_with fail
    go_ret
    exact ⟨ret_n64 (by simp [Tk.size]; omega), (Chg.refl _ _).alloc _⟩

theorem twell_any (t : Tk) (w : World) :
    Calls Try.prog 23 #[t.val] w fun e w' => e = .returned (.bool t.wellB) ∧ Chg NoS w w' := by
  obtain ⟨b, l, f⟩ := t
  rcases Decidable.em (l = 0) with h0 | h0
  · subst h0
    go_enter Try.func23, Try.ntmps23
    go_wp2_with fail
    go_ret
    exact ⟨ret_bool (by rw [Bool.eq_iff_iff]; simp [Tk.wellB]), (Chg.refl _ _).alloc _⟩
  · have u0 : (l == 0) = false := by simpa using h0
    go_enter Try.func23, Try.ntmps23
    go_wp2_with fail
    all_goals
      go_ret
      exact ⟨ret_bool (by rw [Bool.eq_iff_iff]; simp [Tk.wellB, h0]; omega), (Chg.refl _ _).alloc _⟩

theorem tcheck_any (t : Tk) (n most : Nat) (w : World) (hn : n ≤ most) (hm : most ≤ 16777216) :
    Calls Try.prog 20 #[t.val, .int .i64 n, .int .i64 most] w fun e w' => e = .returned (.int .i64 (t.err n most)) ∧ Chg NoS w w' := by
  rcases hw : t.wellB with _ | _
  · have hk := twell_any t (w.alloc (.cells #[.int .u8 (t.b : Nat), .int .i64 t.l, .int .i64 t.f] 42))
    rw [hw] at hk
    have HK := keepf hk
    have HW := keepf hw
    clear hk hw
    obtain ⟨b, l, f⟩ := t
    go_enter Try.func20, Try.ntmps20
    go_wp2_with (go_at_call 23; refine HK.out.mono ?_; rintro e w2 ⟨rfl, hc⟩; have HC := keepf hc; clear hc)
    go_ret
    exact ⟨ret_n64 (by simp [Tk.err, HW.out]), ((Chg.refl _ _).alloc _).trans HC.out (fun _ _ h => h)⟩
  · have hk := twell_any t (w.alloc (.cells #[.int .u8 (t.b : Nat), .int .i64 t.l, .int .i64 t.f] 42))
    rw [hw] at hk
    have hs := Tk.wellB_size hw
    have hks := tsize_any t
    obtain ⟨z, hz⟩ : ∃ z, t.size = z := ⟨_, rfl⟩
    rw [hz] at hs hks
    have HK := keepf hk
    have HKS := keepf hks
    have HW := keepf hw
    have HZ := keepf hz
    clear hk hw hks hz
    obtain ⟨b, l, f⟩ := t
    rcases Decidable.em ((n : Int) < f) with h1 | h1
    · go_enter Try.func20, Try.ntmps20
      go_wp2_with (go_at_call 23; refine HK.out.mono ?_; rintro e w2 ⟨rfl, hc⟩; have HC := keepf hc; have b2 := (Blk.new w 42 #[.int .u8 (b : Nat), .int .i64 l, .int .i64 f]).chg hc (fun h => h); have q0 := b2.cell 0; have q1 := b2.cell 1; have q2 := b2.cell 2; simp at q0 q1 q2; clear hc b2)
      go_ret
      exact ⟨ret_n64 (by simp [Tk.err, HW.out, h1]), ((Chg.refl _ _).alloc _).trans HC.out (fun _ _ h => h)⟩
    · rcases Decidable.em ((most : Int) - n < z) with h2 | h2
      · go_enter Try.func20, Try.ntmps20
        go_wp2_with (first
          | (go_at_call 23; refine HK.out.mono ?_; rintro e w2 ⟨rfl, hc⟩; have HC := keepf hc; have b2 := (Blk.new w 42 #[.int .u8 (b : Nat), .int .i64 l, .int .i64 f]).chg hc (fun h => h); have q0 := b2.cell 0; have q1 := b2.cell 1; have q2 := b2.cell 2; simp at q0 q1 q2; clear hc b2)
          | (go_at_call 19; refine (HKS.out _).mono ?_; rintro e w3 ⟨rfl, hc3⟩; have HC3 := keepf hc3; clear hc3))
        go_ret
        exact ⟨ret_n64 (by simp [Tk.err, HW.out, h1, HZ.out, h2]), (((Chg.refl _ _).alloc _).trans HC.out (fun _ _ h => h)).trans HC3.out (fun _ _ h => h)⟩
      · go_enter Try.func20, Try.ntmps20
        go_wp2_with (first
          | (go_at_call 23; refine HK.out.mono ?_; rintro e w2 ⟨rfl, hc⟩; have HC := keepf hc; have b2 := (Blk.new w 42 #[.int .u8 (b : Nat), .int .i64 l, .int .i64 f]).chg hc (fun h => h); have q0 := b2.cell 0; have q1 := b2.cell 1; have q2 := b2.cell 2; simp at q0 q1 q2; clear hc b2)
          | (go_at_call 19; refine (HKS.out _).mono ?_; rintro e w3 ⟨rfl, hc3⟩; have HC3 := keepf hc3; clear hc3))
        go_ret
        exact ⟨ret_n64 (by unfold Tk.err; rw [HW.out, HZ.out, if_neg (by decide), if_neg (show ¬ (n : Int) < f by omega), if_neg (show ¬ (most : Int) - n < z by omega)]), (((Chg.refl _ _).alloc _).trans HC.out (fun _ _ h => h)).trans HC3.out (fun _ _ h => h)⟩
end Go.Proofs.Ytomkejeofcpchaa
