/- The document's Expand; tokens turned from the document's into the program's, and back. -/
import Derived.Test.YtomkejeofcpchaaExpand
import Derived.BigRegion
import Derived.Deep.RegionHeld3
import Derived.Deep.AppendLies
namespace Go.Proofs.Ytomkejeofcpchaa
open Go.RowKit
set_option linter.unusedVariables false
set_option linter.unusedSimpArgs false

/-- Behind the document's Expand. -/
def RExpTo (w : World) (l : List Tk) (most : Int) (e : Ending) (w' : World) : Prop :=
  ∃ A c, e = .returned (.tuple #[.slice A (outR (expandT l most)).length c, .int .i64 (errR (expandT l most))]) ∧ NewB w (outR (expandT l most)) A c w'

theorem rexpand_arg (l : List Tk) (A : Option Addr) (c : Nat) (most : Int) (w : World) (h : most < 0 ∨ 16777216 < most) :
    Calls Try.prog 10 #[.slice A l.length c, .int .i64 most] w (ExpTo w l most) := by
  have hE := keepf (show expandT l most = .error 2 from if_pos h)
  rcases h with h | h
  all_goals
    go_enter Try.func10, Try.ntmps10
    go_wp2_with fail
    go_ret2
    refine ⟨none, 0, ?_, ?_⟩
    · rw [hE.out]; rfl
    · rw [hE.out]; exact ⟨own_nil _ _ _ _, Chg.refl _ _, fun a h => by cases h⟩

/-- The error of a token, as the document tells it. -/
theorem err_two {t : Tk} {n most : Int} (h : t.wellB = false) : t.err n most = 2 := by simp [Tk.err, h]
theorem err_far {t : Tk} {n most : Int} (h : t.wellB = true) (h1 : n < t.f) : t.err n most = 14 := by simp [Tk.err, h, h1]
theorem err_long {t : Tk} {n most : Int} (h : t.wellB = true) (h1 : ¬ n < t.f) (h2 : most - n < t.size) : t.err n most = 3 := by simp [Tk.err, h, h1, h2]
theorem err_none {t : Tk} {n most : Int} (h : t.wellB = true) (h1 : ¬ n < t.f) (h2 : ¬ most - n < t.size) : t.err n most = 0 := by simp [Tk.err, h, h1, h2]

/-- The end of the document's Expand by an error. -/
theorem rexp_stop {w wr : World} {l : List Tk} {most : Int} {k : Nat} {t : Tk} {o : List Nat} {e : Int} (hE : expandT l most = runT most l []) (hR : runT most (l.take k) [] = .ok o) (ht : l[k]? = some t) (he : t.err o.length most = e) (h0 : e ≠ 0) (hc : Chg NoS w wr) :
    ExpTo w l most (.returned (.tuple #[.slice none 0 0, .int .i64 e])) wr := by
  have h := runT_stop hR ht (by rw [he]; exact h0)
  rw [he] at h
  unfold ExpTo
  rw [hE, h]
  exact ⟨none, 0, rfl, own_nil _ _ _ _, hc, fun a h => by cases h⟩

set_option maxHeartbeats 1000000 in
set_option maxRecDepth 100000 in
theorem rexpand_in (l : List Tk) (A : Option Addr) (c : Nat) (most : Nat) (w : World) (hS : Src w 3 A l.length c (kcells l)) (hl : l.length ≤ maxLen) (hm : most ≤ 16777216) :
    Calls Try.prog 10 #[.slice A l.length c, .int .i64 most] w (ExpTo w l most) := by
  have hE := keepf (show expandT l most = runT most l [] from if_neg (by omega))
  have HS := keepf hS
  unfold maxLen at hl
  obtain ⟨n, hn⟩ : ∃ n, n = l.length := ⟨_, rfl⟩
  have HN := keepf hn
  rw [← hn] at hl HS ⊢
  obtain ⟨i0, hi, hz0, hz1, hz2⟩ := info_parts info_byte
  clear hS hn
  go_enter Try.func10, Try.ntmps10
  go_wp2_with fail
  go_loopw [6, 7] (fun vo vk wr => ∃ k m : Nat, ∃ o : List Nat, ∃ A2 : Option Addr, ∃ c2 : Nat, k ≤ n ∧ m ≤ most ∧ vk = .int .i64 k ∧ vo = .slice A2 m c2 ∧ Hid (m = o.length) ∧ Hid (runT most (l.take k) [] = .ok o) ∧ Hid (OLoop w wr (.slice none 0 0) o A2 c2)) (fun _ vk _ => n - (intOf vk).toNat)
  case atStart => exact ⟨0, 0, [], none, 0, Nat.zero_le _, Nat.zero_le _, rfl, rfl, rfl, rfl, keepf (OLoop.start (o := []) (own_nil _ _ _ _))⟩
  case round =>
    obtain ⟨k, m, o, A2, c2, hk, hmm, rfl, rfl, HM, HR, HO⟩ := hrel
    rename World => wo
    by_cases hlt : k < n
    · obtain ⟨t, ht⟩ : ∃ t, l[k]? = some t := ⟨_, List.getElem?_eq_getElem (by have := HN.out; omega)⟩
      obtain ⟨b, off, rfl, c0, c1, c2'⟩ := tok_cells HS.out (HO.out.no rfl) ht
      have HT := keepf ht
      rcases hw : t.wellB with _ | _
      · have HE := keepf (fun (w2 : World) (h : Chg NoS wo w2) => rexp_stop (w := w) (wr := w2) hE.out HR.out ht (err_two hw) (by decide) ((HO.out.no rfl).trans h (fun _ _ h => h)))
        obtain ⟨tb, tl, tf⟩ := t
        simp only at c0 c1 c2'
        have hcase : (tl = 0 ∧ tf ≠ 0) ∨ (tl ≠ 0 ∧ tb ≠ 0) ∨ (tl ≠ 0 ∧ tb = 0 ∧ tl < 3) ∨ (tb = 0 ∧ 3 ≤ tl ∧ 258 < tl) ∨ (tb = 0 ∧ 3 ≤ tl ∧ tl ≤ 258 ∧ tf < 1) ∨ (tb = 0 ∧ 3 ≤ tl ∧ tl ≤ 258 ∧ 1 ≤ tf ∧ 32768 < tf) := by
          unfold Tk.wellB at hw
          simp only at hw
          split at hw
          · exact .inl ⟨by assumption, by simpa using hw⟩
          · simp at hw; omega
        clear ht hw
        rcases hcase with ⟨rfl, h2⟩ | ⟨h1, h2⟩ | ⟨h1, rfl, h3⟩ | ⟨rfl, h2, h3⟩ | ⟨rfl, h2, h3, h4⟩ | ⟨rfl, h2, h3, h4, h5⟩
        · have u2 : (tf == 0) = false := by simpa using h2
          clear h2
          by_cases hb : tb = 0
          · subst hb
            go_wp2_with fail
            go_ret2
            exact HE.out _ ((Chg.refl _ _).alloc _)
          · have u3 : ((tb : Int) == 0) = false := by simp; omega
            clear hb
            go_wp2_with fail
            go_ret2
            exact HE.out _ ((Chg.refl _ _).alloc _)
        · have u1 : (tl == 0) = false := by simpa using h1
          have u3 : ((tb : Int) == 0) = false := by simp; omega
          clear h1 h2
          go_wp2_with fail
          go_ret2
          exact HE.out _ ((Chg.refl _ _).alloc _)
        · have u1 : (tl == 0) = false := by simpa using h1
          clear h1
          go_wp2_with fail
          go_ret2
          exact HE.out _ ((Chg.refl _ _).alloc _)
        · have u1 : (tl == 0) = false := by simp; omega
          go_wp2_with fail
          go_ret2
          exact HE.out _ ((Chg.refl _ _).alloc _)
        · have u1 : (tl == 0) = false := by simp; omega
          go_wp2_with fail
          go_ret2
          exact HE.out _ ((Chg.refl _ _).alloc _)
        · have u1 : (tl == 0) = false := by simp; omega
          have d1 : decide (tf ≤ 32768) = false := by simp; omega
          clear h5
          go_wp2_with fail
          go_ret2
          exact HE.out _ ((Chg.refl _ _).alloc _)
      · have HSTOP := keepf (fun (e : Int) (h0 : e ≠ 0) (he : t.err o.length most = e) (w2 : World) (h : Chg NoS wo w2) => rexp_stop (w := w) (wr := w2) hE.out HR.out ht he h0 ((HO.out.no rfl).trans h (fun _ _ h => h)))
        rw [← HM.out] at HSTOP
        have HFAR := keepf (fun h => err_far (n := m) (most := most) hw h)
        have HLONG := keepf (fun h1 h2 => err_long (n := m) (most := most) hw h1 h2)
        have HNONE := keepf (fun h1 h2 => err_none (n := m) (most := most) hw h1 h2)
        have HOW := keepf (show wo.ownsRow 0 5 1 (.slice A2 m c2) m (ocells o) by rw [HM.out]; exact HO.out.own)
        obtain ⟨tb, tl, tf⟩ := t
        simp only at c0 c1 c2'
        unfold Tk.wellB at hw
        simp only at hw
        by_cases h0 : tl = 0
        · subst h0
          have hf0 : tf = 0 := by simpa using hw
          subst hf0
          clear ht hw
          by_cases hlong : most ≤ m
          · have HL := keepf (HSTOP.out 3 (by decide) (HLONG.out (by simp only; omega) (by rw [show (⟨tb, 0, 0⟩ : Tk).size = 1 from rfl]; omega)))
            have d2 : decide ((most : Int) ≤ m) = true := by simp; omega
            by_cases hb : tb = 0
            · subst hb
              go_wp2_with fail
              go_ret2
              exact HL.out _ ((Chg.refl _ _).alloc _)
            · have u3 : ((tb : Int) == 0) = false := by simp; omega
              clear hb
              go_wp2_with fail
              go_ret2
              exact HL.out _ ((Chg.refl _ _).alloc _)
          · have HN0 := keepf (HNONE.out (by simp only; omega) (by rw [show (⟨tb, 0, 0⟩ : Tk).size = 1 from rfl]; omega))
            have d2 : decide ((most : Int) ≤ m) = false := by simp; omega
            have hu : (tb = 0 ∧ ((tb : Int) == 0) = true) ∨ (tb ≠ 0 ∧ ((tb : Int) == 0) = false) := by
              by_cases hb : tb = 0
              · exact .inl ⟨hb, by simp [hb]⟩
              · exact .inr ⟨hb, by simp; omega⟩
            rcases hu with ⟨hb0, u3⟩ | ⟨hb0, u3⟩
            all_goals
              clear hb0
              go_wp2_with (first
                | (at_builtin; refine wpList_append_src rfl (.tmp 87) (.tmp 90) 24 rfl 5 i0 _ 1 1 Try.underlying24 hi hz0 hz1 hz2 rfl (by decide) (.slice A2 m c2) m (ocells o) rfl (own_chg (S := NoS) HOW.out (((Chg.refl _ _).alloc _).alloc _) (fun _ _ h => h)) (some ⟨wo.heap.size + 1, 0, none⟩) 1 1 [.int .u8 (tb : Nat)] rfl (src_new #[.int .u8 (tb : Nat)] _ (by simp) rfl) (by intro u hu; simp only [List.mem_singleton] at hu; subst hu; rfl) (by unfold maxLen; omega) (by omega) ?_
                   intro S2 w4 hown4 hgr4 hat4
                   obtain ⟨A4, c4, rfl, hA4⟩ := own_slice hown4
                   have HG4 := keepf hgr4
                   have HO4 := keepf hown4
                   have HA4 := keepf hat4
                   clear hown4 hgr4 hat4 hA4))
              have HQ := keepf (show OLoop w w4 (.slice none 0 0) (o ++ [tb]) A4 c4 from HO.out.turn (x := tb) (((Chg.refl NoS wo).alloc _).alloc _) (by rw [← HM.out]; exact HG4.out) (by rw [← HM.out]; exact HO4.out) (by rw [← HM.out]; exact HA4.out))
              have q1 := (((Blk.new wo 46 #[.int .u8 (tb : Nat), .int .i64 0, .int .i64 0]).alloc (.cells #[.int .u8 (tb : Nat)] 5)).grown HG4.out (fun e => by have h5 := own_lt HOW.out e.symm; omega)).cell 1
              simp at q1
              go_loopw [6, 11] (fun vo vj wr => vj = .int .i64 0 ∧ vo = .slice A4 (m + 1) c4 ∧ wr = w4) (fun _ _ _ => 0)
              case atStart => exact ⟨rfl, rfl, rfl⟩
              case round =>
                obtain ⟨rfl, rfl, rfl⟩ := hrel
                go_wp2_with fail
                go_roundw
                case rel => exact ⟨k + 1, m + 1, o ++ [tb], A4, c4, by omega, by omega, by go_num, rfl, by rw [HM.out, List.length_append]; rfl, runT_more HR.out HT.out (by rw [← HM.out]; exact HN0.out), HQ.out⟩
                case measure => simp [intOf]; omega
        · have hw2 : 3 ≤ tl ∧ tl ≤ 258 ∧ 1 ≤ tf ∧ tf ≤ 32768 ∧ tb = 0 := by simpa [h0] using hw
          obtain ⟨x, rfl⟩ : ∃ x : Nat, tl = x := ⟨tl.toNat, by omega⟩
          obtain ⟨y, rfl⟩ : ∃ y : Nat, tf = y := ⟨tf.toNat, by omega⟩
          have htb : tb = 0 := hw2.2.2.2.2
          subst htb
          have hx1 : 3 ≤ x := by omega
          have hx2 : x ≤ 258 := by omega
          have hy1 : 1 ≤ y := by omega
          have hy2 : y ≤ 32768 := by omega
          have u1 : ((x : Int) == 0) = false := by simp; omega
          have d3 : decide ((y : Int) ≤ 32768) = true := by simp; omega
          have hsz : (⟨0, (x : Nat), (y : Nat)⟩ : Tk).size = x := by unfold Tk.size; rw [if_neg (by simp only; omega)]
          have HSZ := keepf hsz
          have hput : (⟨0, (x : Nat), (y : Nat)⟩ : Tk).put o = repL y x o := by unfold Tk.put; rw [if_neg (by simp only; omega)]; rfl
          have HPUT := keepf hput
          clear ht hw hw2 h0 hsz hput
          by_cases hfar : m < y
          · have HL := keepf (HSTOP.out 14 (by decide) (HFAR.out (by simp only; omega)))
            have d2 : decide ((m : Int) < y) = true := by simp; omega
            go_wp2_with fail
            go_ret2
            exact HL.out _ ((Chg.refl _ _).alloc _)
          · by_cases hlong : most < m + x
            · have HL := keepf (HSTOP.out 3 (by decide) (HLONG.out (by simp only; omega) (by rw [HSZ.out]; omega)))
              have d2 : decide ((most : Int) - m < x) = true := by simp; omega
              go_wp2_with fail
              go_ret2
              exact HL.out _ ((Chg.refl _ _).alloc _)
            · have HN0 := keepf (HNONE.out (by simp only; omega) (by rw [HSZ.out]; omega))
              have d2 : decide ((most : Int) - m < x) = false := by simp; omega
              have HOS := keepf (show OLoop (wo.alloc (.cells #[.int .u8 (0 : Nat), .int .i64 (x : Nat), .int .i64 (y : Nat)] 46)) (wo.alloc (.cells #[.int .u8 (0 : Nat), .int .i64 (x : Nat), .int .i64 (y : Nat)] 46)) (.slice A2 o.length c2) o A2 c2 from OLoop.start (own_chg (S := NoS) HO.out.own ((Chg.refl _ _).alloc _) (fun _ _ h => h)))
              have HA0 := keepf (fun (i : Nat) (hi : (Value.slice A2 o.length c2).ownBlock = some i) => own_lt HO.out.own hi)
              go_wp2_with fail
              go_loopw [6, 11] (fun vo vj wr => ∃ j : Nat, ∃ A3 : Option Addr, ∃ c3 : Nat, j ≤ x ∧ vj = .int .i64 j ∧ vo = .slice A3 (m + j) c3 ∧ Hid (OLoop (wo.alloc (.cells #[.int .u8 (0 : Nat), .int .i64 (x : Nat), .int .i64 (y : Nat)] 46)) wr (.slice A2 o.length c2) (repL y j o) A3 c3)) (fun _ vj _ => x - (intOf vj).toNat)
              case atStart => exact ⟨0, A2, c2, Nat.zero_le _, rfl, rfl, HOS.out⟩
              case round =>
                clear HOS
                obtain ⟨j, A3, c3, hj, rfl, rfl, HI⟩ := hrel
                have hln := repL_len y j o
                rw [← HM.out] at hln
                obtain ⟨s, hs⟩ : ∃ s, s = m + j := ⟨_, rfl⟩
                have hss : (repL y j o).length = s := by omega
                have HSS := keepf hss
                have HNJ := keepf hs
                rw [← hs] at hln ⊢
                have q1 := (HI.out.chg.cell (p := ⟨wo.heap.size, 1, none⟩) (by simp) (fun e => by have := HA0.out _ e; simp at this)).trans ((Blk.new wo 46 #[.int .u8 (0 : Nat), .int .i64 (x : Nat), .int .i64 (y : Nat)]).cell 1)
                have q2 := (HI.out.chg.cell (p := ⟨wo.heap.size, 2, none⟩) (by simp) (fun e => by have := HA0.out _ e; simp at this)).trans ((Blk.new wo 46 #[.int .u8 (0 : Nat), .int .i64 (x : Nat), .int .i64 (y : Nat)]).cell 2)
                simp at q1 q2
                clear hss
                by_cases hjx : j < x
                · have HOW2 := keepf (show wr.ownsRow 0 5 1 (.slice A3 s c3) s (ocells (repL y j o)) by rw [← HSS.out]; exact HI.out.own)
                  obtain ⟨gb, cb, hA2, hc1, hc2⟩ := own_form HOW2.out (by omega)
                  injection hA2 with hA2 e1 e2
                  subst hA2
                  clear e1 e2 hc1 hc2
                  have e0 := HOW2.out.cellAt (s - y) (by omega)
                  have hxx : (repL y j o)[s - y]? = some ((repL y j o).getD (s - y) 0) := by
                    rw [List.getD_eq_getElem?_getD, List.getElem?_eq_getElem (by have := HSS.out; omega)]
                    rfl
                  rw [ocells_at hxx] at e0
                  obtain ⟨z, hz⟩ : ∃ z, (repL y j o).getD (s - y) 0 = z := ⟨_, rfl⟩
                  rw [hz] at e0
                  have hsn := repL_snoc y j o
                  rw [HSS.out, hz] at hsn
                  have HSN := keepf hsn
                  have hsl : s ≤ 20000300 := by omega
                  have j0 : (0 : Int) ≤ (s : Int) - y := by omega
                  have j1 : (s : Int) - y < s := by omega
                  have j2 : ((s : Int) - y).toNat = s - y := by omega
                  have j3 : y ≤ s := by omega
                  clear hxx hz hsn hs hln
                  go_wp2_with (first
                    | (at_builtin; refine wpList_append_src rfl (.tmp 98) (.tmp 107) 24 rfl 5 i0 _ 1 1 Try.underlying24 hi hz0 hz1 hz2 rfl (by decide) (.slice (some ⟨gb, 0, none⟩) s c3) s (ocells (repL y j o)) rfl (own_chg (S := NoS) HOW2.out ((Chg.refl _ _).alloc _) (fun _ _ h => h)) (some ⟨wr.heap.size, 0, none⟩) 1 1 [.int .u8 (z : Nat)] rfl (src_new #[.int .u8 (z : Nat)] _ (by simp) rfl) (by intro u hu; simp only [List.mem_singleton] at hu; subst hu; rfl) (by unfold maxLen; omega) (by omega) ?_
                       intro S2 w4 hown4 hgr4 hat4
                       obtain ⟨A4, c4, rfl, hA4⟩ := own_slice hown4
                       have HG4 := keepf hgr4
                       have HO4 := keepf hown4
                       have HA4 := keepf hat4
                       clear hown4 hgr4 hat4 hA4))
                  go_roundw
                  case rel =>
                    have h := HI.out.turn (x := z) ((Chg.refl NoS wr).alloc _) (by rw [HSS.out]; exact HG4.out) (by rw [HSS.out]; exact HO4.out) (by rw [HSS.out]; exact HA4.out)
                    rw [← HSN.out] at h
                    exact ⟨j + 1, A4, c4, by omega, by go_num, by rw [HNJ.out]; rfl, h⟩
                  case measure => simp [intOf]; omega
                · obtain rfl : j = x := by omega
                  go_wp2_with fail
                  go_roundw
                  case rel => exact ⟨k + 1, s, repL y j o, A3, c3, by omega, by have := HNJ.out; omega, by go_num, rfl, HSS.out.symm, by have h := runT_more HR.out HT.out (by rw [← HM.out]; exact HN0.out); rw [HPUT.out] at h; exact h, HO.out.step ((Chg.refl NoS wo).alloc _) HI.out⟩
                  case measure => simp [intOf]; omega
    · have HK := keepf (show k = l.length by have := HN.out; omega)
      go_wp2_with fail
      go_ret2
      have h := HR.out
      rw [HK.out] at h
      have h2 := runT_end h
      refine ⟨A2, c2, ?_, ?_⟩
      · rw [hE.out, h2, HM.out]; rfl
      · rw [hE.out, h2]; exact HO.out.newB
end Go.Proofs.Ytomkejeofcpchaa
