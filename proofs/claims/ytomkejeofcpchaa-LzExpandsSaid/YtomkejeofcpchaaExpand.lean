/- Expand: tokens' bytes, or the error. -/
import Derived.Test.YtomkejeofcpchaaPutL
namespace Go.Proofs.Ytomkejeofcpchaa
open Go.RowKit
set_option linter.unusedVariables false
set_option linter.unusedSimpArgs false

theorem OLoop.step {w wr w2 w3 : World} {V : Value} {o o' : List Nat} {A2 A3 : Option Addr} {c2 c3 : Nat} (h : OLoop w wr V o A2 c2) (hc : Chg NoS wr w2) (h2 : OLoop w2 w3 (.slice A2 o.length c2) o' A3 c3) : OLoop w w3 V o' A3 c3 := by
  have hs := h.chg.size
  have hs2 := hc.size
  refine ⟨h2.own, (h.chg.trans hc (fun _ _ h => absurd h (fun h => h))).trans h2.chg (fun i hi e => ?_), fun a ha => ?_⟩
  · rcases A2 with _ | a
    · simp [Value.ownBlock] at e
    · have e2 : a.block = i := by simpa [Value.ownBlock] using e
      rcases h.new a rfl with h5 | h5
      · rw [← e2]; exact h5
      · omega
  · rcases h2.new a ha with e | e
    · rcases A2 with _ | b
      · simp [Value.ownBlock] at e
      · have e2 : b.block = a.block := by simpa [Value.ownBlock] using e
        rw [← e2]
        exact h.new b rfl
    · exact .inr (by omega)
theorem OLoop.made {w w2 : World} {V : Value} {g c : Nat} (ho : w2.ownsRow 0 5 1 (.slice (some ⟨g, 0, none⟩) 0 c) 0 []) (hc : Chg NoS w w2) (hg : w.heap.size ≤ g) : OLoop w w2 V [] (some ⟨g, 0, none⟩) c :=
  ⟨ho, hc.mono (fun _ _ h => absurd h (fun h => h)), fun a ha => by cases ha; exact .inr hg⟩
theorem OLoop.newB {w wr : World} {o : List Nat} {A : Option Addr} {c : Nat} (h : OLoop w wr (.slice none 0 0) o A c) : NewB w o A c wr :=
  ⟨h.own, h.chg.mono (fun i _ e => by simp [Value.ownBlock] at e), fun a ha => (h.new a ha).resolve_left (by simp [Value.ownBlock])⟩
theorem OLoop.no {w wr : World} {V : Value} {o : List Nat} {A : Option Addr} {c : Nat} (h : OLoop w wr V o A c) (hV : V.ownBlock = none) : Chg NoS w wr := h.chg.mono (fun i _ e => by rw [hV] at e; cases e)
theorem OLoop.quiet {w wr w2 : World} {V : Value} {o : List Nat} {A : Option Addr} {c : Nat} (h : OLoop w wr V o A c) (hc : Chg NoS wr w2) : OLoop w w2 V o A c :=
  ⟨own_chg (S := NoS) h.own hc (fun _ _ h => h), h.chg.trans hc (fun _ _ h => absurd h (fun h => h)), h.new⟩

theorem runT_err {most : Int} : ∀ (l : List Tk) (out : List Nat) (e : Int), runT most l out = .error e → e ≠ 0
  | [], out, e, h => by cases h
  | t :: ts, out, e, h => by
    rw [runT] at h
    split at h
    · exact runT_err ts _ e h
    · injection h with h
      subst h
      assumption
theorem expandT_err {l : List Tk} {most e : Int} (h : expandT l most = .error e) : e ≠ 0 := by
  unfold expandT at h
  split at h
  · injection h with h; omega
  · exact runT_err _ _ _ h
theorem expandT_ok {l : List Tk} {most : Int} {r : List Nat} (h : expandT l most = .ok r) : 0 ≤ most ∧ most ≤ 16777216 ∧ runT most l [] = .ok r := by
  unfold expandT at h
  split at h
  · cases h
  · exact ⟨by omega, by omega, h⟩

def ExpTo (w : World) (l : List Tk) (most : Int) (e : Ending) (w' : World) : Prop :=
  ∃ A c, e = .returned (.tuple #[.slice A (outR (expandT l most)).length c, .int .i64 (errR (expandT l most))]) ∧ NewB w (outR (expandT l most)) A c w'

theorem expand_bad (l : List Tk) (A : Option Addr) (c : Nat) (most e : Int) (w : World) (hS : Src w 3 A l.length c (kcells l)) (hl : l.length ≤ maxLen) (he : expandT l most = .error e) :
    Calls Try.prog 8 #[.slice A l.length c, .int .i64 most] w (ExpTo w l most) := by
  have hz := sizet_any l A c most w hS hl
  have h0 := expandT_err he
  unfold SizeTo at hz
  rw [he] at hz
  have HE := keepf he
  have HZ := keepf (show Calls Try.prog 16 #[.slice A l.length c, .int .i64 most] w fun e2 w' => e2 = .returned (.tuple #[.int .i64 0, .int .i64 e]) ∧ Chg NoS w w' from hz)
  obtain ⟨n, hn⟩ : ∃ n, n = l.length := ⟨_, rfl⟩
  rw [← hn] at HZ ⊢
  have u0 : (e == 0) = false := by simpa using h0
  have u1 : (e != 0) = true := by simpa using h0
  clear hS hl hz he hn h0
  go_enter Try.func8, Try.ntmps8
  go_wp2_with (go_at_call 16; refine HZ.out.mono ?_; rintro e2 w2 ⟨rfl, hc⟩; have HC := keepf hc; clear hc)
  go_ret2
  refine ⟨none, 0, ?_, ?_⟩
  · rw [HE.out]; rfl
  · rw [HE.out]; exact ⟨own_nil _ _ _ _, HC.out, fun a h => by cases h⟩

set_option maxHeartbeats 1000000 in
theorem expand_good (l : List Tk) (A : Option Addr) (c : Nat) (most : Int) (r : List Nat) (w : World) (hS : Src w 3 A l.length c (kcells l)) (hl : l.length ≤ maxLen) (he : expandT l most = .ok r) :
    Calls Try.prog 8 #[.slice A l.length c, .int .i64 most] w (ExpTo w l most) := by
  have hz := sizet_any l A c most w hS hl
  obtain ⟨hm0, hm1, hrun⟩ := expandT_ok he
  unfold SizeTo at hz
  rw [he] at hz
  have hrl := (runT_le _ _ _ hrun (by simpa using hm0)).1
  obtain ⟨z, hzz⟩ : ∃ z, r.length = z := ⟨_, rfl⟩
  have hz16 : z ≤ 16777216 := by omega
  have HZZ := keepf hzz
  have HRUN := keepf hrun
  have HS := keepf hS
  have HE := keepf he
  have HZ := keepf (show Calls Try.prog 16 #[.slice A l.length c, .int .i64 most] w fun e w' => e = .returned (.tuple #[.int .i64 (z : Nat), .int .i64 0]) ∧ Chg NoS w w' from by rw [← hzz]; exact hz)
  unfold maxLen at hl
  obtain ⟨n, hn⟩ : ∃ n, n = l.length := ⟨_, rfl⟩
  have HN := keepf hn
  rw [← hn] at HZ HS hl ⊢
  obtain ⟨i0, hi, hz0, hz1, hz2⟩ := info_parts info_byte
  clear hS hz he hn hrun hrl hzz
  go_enter Try.func8, Try.ntmps8
  go_wp2_with (first
    | (go_at_call 16; refine HZ.out.mono ?_; rintro e2 w2 ⟨rfl, hc⟩; have HC := keepf hc; clear hc)
    | (at_make; go_loud (refine wpList_make_own _ rfl (.const (.int .i64 0)) (.tmp 20) 24 rfl 0 5 i0 (.int .u8 0) 1 Try.underlying24 hi hz0 hz1 .i64 .i64 _ z rfl rfl (by simp) (by rw [hz2]; omega) (by unfold maxLen; omega) (Nat.zero_le _) ?_); intro w3 hown3 hgr; have HO3 := keepf hown3; have HG3 := keepf hgr; clear hown3 hgr))
  have HOL := keepf (show OLoop w w3 (.slice none 0 0) [] (some ⟨w2.heap.size, 0, none⟩) z from OLoop.made HO3.out (HC.out.trans ((Chg.refl NoS _).grown HG3.out (fun k e _ => by cases e)) (fun _ _ h => h)) HC.out.size)
  obtain ⟨A3, c3, hA3, hc3⟩ : ∃ A3 c3, A3 = some (⟨w2.heap.size, 0, none⟩ : Addr) ∧ c3 = z := ⟨_, _, rfl, rfl⟩
  rw [← hA3] at HOL ⊢
  have HOL : Hid (OLoop w w3 (.slice none 0 0) [] A3 c3) := by rw [hc3]; exact HOL
  have HC3 := keepf hc3
  clear hA3 HO3 HG3 hc3
  go_loopw [8, 24] (fun vo vk wr => ∃ k m : Nat, ∃ o : List Nat, ∃ A2 : Option Addr, ∃ c2 : Nat, k ≤ n ∧ vk = .int .i64 k ∧ vo = .slice A2 m c2 ∧ Hid (m = o.length) ∧ Hid (runT most (l.take k) [] = .ok o) ∧ Hid (OLoop w wr (.slice none 0 0) o A2 c2)) (fun _ vk _ => n - (intOf vk).toNat)
  case atStart => exact ⟨0, 0, [], A3, c3, Nat.zero_le _, rfl, by rw [HC3.out], rfl, rfl, HOL.out⟩
  case round =>
    clear HOL HC3
    obtain ⟨k, m, o, A2, c2, hk, rfl, rfl, HM, HR, HO⟩ := hrel
    by_cases hlt : k < n
    · obtain ⟨t, ht⟩ : ∃ t, l[k]? = some t := ⟨_, List.getElem?_eq_getElem (by have := HN.out; omega)⟩
      obtain ⟨b, off, rfl, c0, c1, c2'⟩ := tok_cells HS.out (HO.out.no rfl) ht
      have HT := keepf ht
      have hok := runT_at HRUN.out ht HR.out
      have hel := err_ok hok
      have hol := (runT_le _ _ _ HR.out (by simpa using hm0)).1
      have HOK := keepf hok
      have HEL := keepf hel
      have HPT := keepf (fun (W : World) (h : W.ownsRow 0 5 1 (.slice A2 o.length c2) o.length (ocells o)) => tput_any t o A2 c2 W hel.1 hel.2.1 h (by omega))
      rw [← HM.out] at HPT
      have HOW := keepf (show wr.ownsRow 0 5 1 (.slice A2 m c2) m (ocells o) by rw [HM.out]; exact HO.out.own)
      obtain ⟨tb, tl, tf⟩ := t
      simp only at c0 c1 c2'
      clear ht hok hel hol
      go_wp2_with (first
        | (go_at_call 17; refine (HPT.out _ (own_chg (S := NoS) HOW.out ((Chg.refl NoS wr).alloc (.cells #[.int .u8 (tb : Nat), .int .i64 tl, .int .i64 tf] 42)) (fun _ _ h => h))).mono ?_; rintro e w4 ⟨A4, c4, rfl, ho4⟩; have HO4 := keepf ho4; clear ho4))
      go_roundw
      case rel =>
        exact ⟨k + 1, _, _, A4, c4, by omega, by go_num, rfl, rfl, runT_more HR.out HT.out HOK.out, HO.out.step ((Chg.refl NoS wr).alloc _) (by rw [← HM.out]; exact HO4.out)⟩
      case measure => simp [intOf]; omega
    · have HK := keepf (show k = l.length by have := HN.out; omega)
      go_wp2_with fail
      go_ret2
      have h := HR.out
      rw [HK.out] at h
      have h2 := runT_end h
      rw [HRUN.out] at h2
      injection h2 with h2
      refine ⟨A2, c2, ?_, ?_⟩
      · rw [HE.out, HM.out]; show _ = Ending.returned (.tuple #[.slice A2 r.length c2, .int .i64 0]); rw [h2]; rfl
      · rw [HE.out]; show NewB w r A2 c2 _; rw [h2]; exact HO.out.newB

theorem expand_any (l : List Tk) (A : Option Addr) (c : Nat) (most : Int) (w : World) (hS : Src w 3 A l.length c (kcells l)) (hl : l.length ≤ maxLen) :
    Calls Try.prog 8 #[.slice A l.length c, .int .i64 most] w (ExpTo w l most) := by
  rcases he : expandT l most with e | r
  · exact expand_bad l A c most e w hS hl he
  · exact expand_good l A c most r w hS hl he
end Go.Proofs.Ytomkejeofcpchaa
