/- size, Check: how many bytes tokens are, or the error. -/
import Derived.Test.YtomkejeofcpchaaTok
namespace Go.Proofs.Ytomkejeofcpchaa
open Go.RowKit
set_option linter.unusedVariables false
set_option linter.unusedSimpArgs false

def lenR (r : Except Int (List Nat)) : Int := ((outR r).length : Nat)

/-- The cells of a row's k-th token. -/
theorem tok_cells {w w' : World} {A : Option Addr} {n c : Nat} {l : List Tk} (h : Src w 3 A n c (kcells l)) (hc : Chg NoS w w') {k : Nat} {t : Tk} (ht : l[k]? = some t) :
    ∃ b off, A = some ⟨b, off, none⟩ ∧ w'.cell? ⟨b, off + k * 3, none⟩ = some (.int .u8 (t.b : Nat)) ∧ w'.cell? ⟨b, off + k * 3 + 1, none⟩ = some (.int .i64 t.l) ∧ w'.cell? ⟨b, off + k * 3 + 2, none⟩ = some (.int .i64 t.f) := by
  have hk := (List.getElem?_eq_some_iff.1 ht).1
  obtain ⟨b, off, rfl, hcell⟩ := h.plain (by rw [kcells_len]; omega)
  have e0 := hcell _ _ (kcells_0 ht)
  have e1 := hcell _ _ (kcells_1 ht)
  have e2 := hcell _ _ (kcells_2 ht)
  exact ⟨b, off, rfl, (hc.cell (p := ⟨b, _, none⟩) (by exact cell_lt e0) (fun h => h)).trans e0, (hc.cell (p := ⟨b, _, none⟩) (by exact cell_lt e1) (fun h => h)).trans e1, (hc.cell (p := ⟨b, _, none⟩) (by exact cell_lt e2) (fun h => h)).trans e2⟩

def SizeTo (w : World) (l : List Tk) (most : Int) (e : Ending) (w' : World) : Prop :=
  e = .returned (.tuple #[.int .i64 (lenR (expandT l most)), .int .i64 (errR (expandT l most))]) ∧ Chg NoS w w'

theorem sizet_arg (l : List Tk) (A : Option Addr) (c : Nat) (most : Int) (w : World) (h : most < 0 ∨ 16777216 < most) :
    Calls Try.prog 16 #[.slice A l.length c, .int .i64 most] w (SizeTo w l most) := by
  have hE := keepf (show expandT l most = .error 2 from if_pos h)
  rcases h with h | h
  all_goals
    go_enter Try.func16, Try.ntmps16
    go_wp2_with fail
    go_ret2
    refine ⟨?_, Chg.refl _ _⟩
    rw [hE.out]
    rfl

set_option maxHeartbeats 1000000 in
theorem sizet_in (l : List Tk) (A : Option Addr) (c : Nat) (most : Nat) (w : World) (hS : Src w 3 A l.length c (kcells l)) (hl : l.length ≤ maxLen) (hm : most ≤ 16777216) :
    Calls Try.prog 16 #[.slice A l.length c, .int .i64 most] w (SizeTo w l most) := by
  have hE := keepf (show expandT l most = runT most l [] from if_neg (by omega))
  have HS := keepf hS
  unfold maxLen at hl
  obtain ⟨n, hn⟩ : ∃ n, n = l.length := ⟨_, rfl⟩
  have HN := keepf hn
  rw [← hn] at hl ⊢
  clear hS hn
  go_enter Try.func16, Try.ntmps16
  go_wp2_with fail
  go_loopw [6, 18] (fun vn vi wr => ∃ k : Nat, ∃ o : List Nat, k ≤ n ∧ vi = .int .i64 k ∧ vn = .int .i64 o.length ∧ o.length ≤ most ∧ Hid (runT most (l.take k) [] = .ok o) ∧ Hid (Chg NoS w wr)) (fun _ vi _ => n - (intOf vi).toNat)
  case atStart => exact ⟨0, [], Nat.zero_le _, rfl, rfl, Nat.zero_le _, keepf rfl, Chg.refl _ _⟩
  case round =>
    obtain ⟨k, o, hk, rfl, rfl, ho, HR, HC⟩ := hrel
    obtain ⟨m, hm'⟩ : ∃ m, m = o.length := ⟨_, rfl⟩
    have HM := keepf hm'
    rw [← hm'] at ho ⊢
    clear hm'
    by_cases hlt : k < n
    · obtain ⟨t, ht⟩ : ∃ t, l[k]? = some t := ⟨_, List.getElem?_eq_getElem (by have := HN.out; omega)⟩
      obtain ⟨b, off, rfl, c0, c1, c2⟩ := tok_cells HS.out HC.out ht
      have HT := keepf ht
      have hck := tcheck_any t m most
      obtain ⟨e, he⟩ : ∃ e, t.err m most = e := ⟨_, rfl⟩
      rw [he] at hck
      have HCK := keepf hck
      have HE := keepf he
      have hsz := tsize_any t
      obtain ⟨z, hz⟩ : ∃ z, t.size = z := ⟨_, rfl⟩
      rw [hz] at hsz
      have HSZ := keepf hsz
      have HZ := keepf hz
      clear ht hck hsz he hz
      by_cases h0 : e = 0
      · subst h0
        have hok := err_ok HE.out
        have hzz := Tk.wellB_size hok.1
        have hpl := Tk.put_len o hok.1
        have hz2 : 1 ≤ z ∧ z ≤ 258 ∧ z ≤ (most : Int) - m := by have := HZ.out; have := hok.2.2; omega
        have hz3 := hz2.2.2
        have hz4 := hz2.2.1
        have hz5 := hz2.1
        have HOK := keepf hok
        have HPL := keepf hpl
        clear hok hzz hpl hz2
        obtain ⟨tb, tl, tf⟩ := t
        simp only at c0 c1 c2
        go_wp2_with (first
          | (go_at_call 20; refine (HCK.out _ (by omega) (by omega)).mono ?_; rintro e w2 ⟨rfl, hc⟩; have HC2 := keepf hc; have b2 := (Blk.new wr 42 #[.int .u8 (tb : Nat), .int .i64 tl, .int .i64 tf]).chg hc (fun h => h); have q0 := b2.cell 0; have q1 := b2.cell 1; have q2 := b2.cell 2; simp at q0 q1 q2; clear hc b2)
          | (go_at_call 19; refine (HSZ.out _).mono ?_; rintro e w3 ⟨rfl, hc3⟩; have HC3 := keepf hc3; clear hc3))
        go_roundw
        case rel =>
          refine ⟨k + 1, Tk.put ⟨tb, tl, tf⟩ o, by omega, by go_num, ?_, ?_, keepf (runT_more HR.out HT.out (by rw [← HM.out]; exact HE.out)), ?_⟩
          · have := HPL.out; have := HZ.out; have := HM.out; congr 1; omega
          · have := HPL.out; have := HZ.out; have := HM.out; omega
          · exact keepf (((HC.out.alloc _).trans HC2.out (fun _ _ h => h)).trans HC3.out (fun _ _ h => h))
        case measure => simp [intOf]; omega
      · have u0 : (e == 0) = false := by simpa using h0
        have u1 : (e != 0) = true := by simpa using h0
        obtain ⟨tb, tl, tf⟩ := t
        simp only at c0 c1 c2
        go_wp2_with (first
          | (go_at_call 20; refine (HCK.out _ (by omega) (by omega)).mono ?_; rintro e w2 ⟨rfl, hc⟩; have HC2 := keepf hc; clear hc))
        go_ret2
        refine ⟨?_, (HC.out.alloc _).trans HC2.out (fun _ _ h => h)⟩
        rw [hE.out, runT_stop HR.out HT.out (by rw [← HM.out, HE.out]; exact h0), ← HM.out, HE.out]
        rfl
    · have he : k = l.length := by have := HN.out; omega
      have HE := keepf he
      clear he
      go_wp2_with fail
      go_ret2
      refine ⟨?_, HC.out⟩
      rw [hE.out, runT_end (by rw [← HE.out]; exact HR.out), HM.out]
      rfl

theorem sizet_any (l : List Tk) (A : Option Addr) (c : Nat) (most : Int) (w : World) (hS : Src w 3 A l.length c (kcells l)) (hl : l.length ≤ maxLen) :
    Calls Try.prog 16 #[.slice A l.length c, .int .i64 most] w (SizeTo w l most) := by
  rcases Decidable.em (most < 0 ∨ 16777216 < most) with h | h
  · exact sizet_arg l A c most w h
  · obtain ⟨m, rfl⟩ : ∃ m : Nat, most = m := ⟨most.toNat, by omega⟩
    exact sizet_in l A c m w hS hl (by omega)

theorem checkt_any (l : List Tk) (A : Option Addr) (c : Nat) (w : World) (hS : Src w 3 A l.length c (kcells l)) (hl : l.length ≤ maxLen) :
    Calls Try.prog 11 #[.slice A l.length c] w fun e w' => e = .returned (.int .i64 (errR (expandT l 16777216))) ∧ Chg NoS w w' := by
  have H := keepf (sizet_any l A c 16777216 w hS hl)
  clear hS
  obtain ⟨n, hn⟩ : ∃ n, n = l.length := ⟨_, rfl⟩
  rw [← hn] at H ⊢
  clear hn
  unfold SizeTo at H
  obtain ⟨x, hx⟩ : ∃ x, lenR (expandT l 16777216) = x := ⟨_, rfl⟩
  obtain ⟨y, hy⟩ : ∃ y, errR (expandT l 16777216) = y := ⟨_, rfl⟩
  rw [hx, hy] at H
  rw [hy]
  clear hx hy
  go_enter Try.func11, Try.ntmps11
  go_wp2_with (go_at_call 16; refine H.out.mono ?_; rintro e w2 ⟨rfl, hc⟩; have HC := keepf hc; clear hc)
  go_ret
  exact ⟨rfl, HC.out⟩
end Go.Proofs.Ytomkejeofcpchaa
