/- Lengths, told by codes. -/
import Derived.Test.YtbdnhhhagpgibaaCodesP
namespace Go.Proofs.Ytbdnhhhagpgibaa
open Go.RowKit
set_option linter.unusedVariables false
set_option linter.unusedSimpArgs false

/-- A row of integers of the call's own. -/
abbrev OwnI (w : World) (A : Option Addr) (c : Nat) (l : List Int) : Prop := w.ownsRow 0 3 1 (.slice A l.length c) l.length (icells l)
def slenI : Value → Nat
  | .slice _ n _ => n
  | _ => 0

/-- Changes among rows of integers alone. -/
def IntsOnly (w : World) (K : Nat → Prop) : Prop := ∀ i t cs, Blk w i t cs → t ≠ 3 → ¬ K i
theorem intsOnly_own {w : World} {base size n : Nat} {v : Value} {xs : List Value} (ho : w.ownsRow base 3 size v n xs) : IntsOnly w (fun i => v.ownBlock = some i) :=
  fun i t cs hb ht e => own_ne_blk ho hb (fun h => ht h.symm) e

section
variable {w w' : World} {K : Nat → Prop}
theorem Tb.ints {c : Nat} {ls : List Int} (h : Tb w c ls) (hc : Chg K w w') (hK : IntsOnly w K) : Tb w' c ls := by
  obtain ⟨T, S, h1, h2⟩ := h
  exact ⟨T, S, h1.chg hc (hK _ _ _ h1 (by decide)), h2⟩
theorem Cd.ints {c : Nat} {ls ds : List Int} (h : Cd w c ls ds) (hc : Chg K w w') (hK : IntsOnly w K) : Cd w' c ls ds := by
  obtain ⟨gs, gd, h1, h2, h3, h4, h5⟩ := h
  exact ⟨gs, gd, h1.chg hc (hK _ _ _ h1 (by decide)), h2.ints hc hK, h3.ints hc hK, h4, h5⟩
theorem own_ints {base size n : Nat} {v : Value} {e : TypeId} {xs : List Value} (ho : w.ownsRow base e size v n xs) (hc : Chg K w w') (hK : IntsOnly w K) (he : e ≠ 3) : w'.ownsRow base e size v n xs := by
  refine own_chg ho hc (fun i hi => ?_)
  rcases ho.2 with ⟨rfl, _⟩ | ⟨g', cap, cur, rfl, hb, hh, _⟩
  · simp [Value.ownBlock] at hi
  · have e1 : g' = i := by simpa [Value.ownBlock] using hi
    subst e1
    exact hK _ e _ hh he
theorem Pk.ints {g gr a most : Nat} {bs out : List Nat} {S So fx : Value} (h : Pk w g gr bs a S most out So fx) (hc : Chg K w w') (hK : IntsOnly w K) : Pk w' g gr bs a S most out So fx where
  blk := h.blk.chg hc (hK _ _ _ h.blk (by decide))
  rd := ⟨h.rd.1.chg hc (hK _ _ _ h.rd.1 (by decide)), own_ints h.rd.2 hc hK (by decide)⟩
  own := own_ints h.own hc hK (by decide)
  sep := h.sep
  fix := h.fix.imp id (fun ⟨c, h1, h2⟩ => ⟨c, h1, h2.ints hc hK⟩)
  le := h.le
  len := h.len
  byt := h.byt
  mst := h.mst
  ole := h.ole
/-- Changes of what is new change nothing that was there. -/
theorem Mv.fresh {w0 : World} {g gr : Nat} {So So' : Value} (h : Mv g gr w0 So w So') (hc : Chg K w w') (hK : ∀ i, i < w0.heap.size → ¬ K i) : Mv g gr w0 So w' So' :=
  ⟨h.1.trans hc (fun i hi e => absurd e (hK i hi)), h.2⟩
end

/-- Behind lengths. -/
def GotL (w : World) (g gr : Nat) (bs : List Nat) (a : Nat) (S : Value) (most : Nat) (out : List Nat) (So fx : Value) (ls : List Int) (n : Nat) (e : Ending) (w' : World) : Prop :=
  ∃ b : Nat, Pk w' g gr bs b S most out So fx ∧ Mv g gr w So w' So ∧ a ≤ b ∧
    ((∃ (A : Option Addr) (c : Nat) (l : List Int), e = .returned (.tuple #[.slice A l.length c, .int .i64 0]) ∧ l.length = n ∧ OwnI w' A c l ∧ (∀ z ∈ l, 0 ≤ z ∧ z ≤ 320) ∧ (∀ x, A = some x → w.heap.size ≤ x.block) ∧
        ∀ ns last, Leads bs most ⟨a, out, .lens ls [] n ns last⟩ ⟨b, out, .lens ls l n ns last⟩) ∨
      (∃ k : Int, (k = 10 ∨ k = 11 ∨ k = 13) ∧ e = .returned (.tuple #[.slice none 0 0, .int .i64 k]) ∧ ∀ ns last, Runs bs most ⟨a, out, .lens ls [] n ns last⟩ (.err k)))

set_option maxHeartbeats 2000000 in
set_option maxRecDepth 100000 in
theorem plengths (w : World) (g gr a most t n : Nat) (bs out : List Nat) (ls : List Int) (S So fx : Value) (hP : Pk w g gr bs a S most out So fx) (hM : May ls) (hT : Tb w t ls) (hn : n ≤ 400) :
    Calls Try.prog 54 #[.pointer (some ⟨g, 0, none⟩), .pointer (some ⟨t, 0, none⟩), .int .i64 n] w (GotL w g gr bs a S most out So fx ls n) := by
  have HP := keepf hP
  have HM := keepf hM
  have HT := keepf hT
  obtain ⟨i0, hi, hz0, hz1, hz2⟩ := info_parts info_i64
  clear hP hM hT
  go_enter Try.func54, Try.ntmps54
  go_wp2_with (first
    | (at_make; go_loud (refine wpList_make_own _ rfl (.const (.int .i64 0)) (.tmp 13) 32 rfl 0 3 i0 (.int .i64 0) 1 Try.underlying32 hi hz0 hz1 .i64 .i64 _ n rfl rfl (by simp) (by rw [hz2]; omega) (by unfold maxLen; omega) (Nat.zero_le _) ?_); intro w2 hown2 hgr; have HO2 := keepf hown2; have HG2 := keepf hgr; clear hown2 hgr))
  have hc2 : Chg NoS w w2 := (Chg.refl NoS w).grown HG2.out (fun _ e _ => by cases e)
  have HC2 := keepf hc2
  clear hc2
  go_loopw [8] (fun v wr => ∃ (b : Nat) (l : List Int) (Al : Option Addr) (cl : Nat), v = .slice Al l.length cl ∧ l.length ≤ n ∧ Hid (OwnI wr Al cl l) ∧ Hid (Pk wr g gr bs b S most out So fx) ∧ Hid (Mv g gr w So wr So) ∧ Hid (Tb wr t ls) ∧ Hid (a ≤ b) ∧ Hid (∀ z ∈ l, 0 ≤ z ∧ z ≤ 320) ∧ Hid (∀ x, Al = some x → w.heap.size ≤ x.block) ∧ Hid (∀ ns last, Leads bs most ⟨a, out, .lens ls [] n ns last⟩ ⟨b, out, .lens ls l n ns last⟩)) (fun v _ => n - slenI v)
  case atStart => exact ⟨a, [], _, _, rfl, Nat.zero_le _, HO2.out, HP.out.news HC2.out, (Mv.refl _ _ _ _).news HC2.out, HT.out.chg HC2.out (fun h => h), Nat.le_refl a, fun z hz => (by cases hz), fun x hx => (by injection hx with hx; subst hx; exact Nat.le_refl _), fun ns last => Leads.refl _⟩
  case round =>
    obtain ⟨b, l, Al, cl, rfl, hl, HOl, HPl, HMl, HTl, HAB, HR, HF, HL⟩ := hrel
    obtain ⟨ln, hln⟩ : ∃ ln, ln = l.length := ⟨_, rfl⟩
    have HLN := keepf hln
    rw [← hln] at hl ⊢
    by_cases hlt : ln < n
    · have c0 := HPl.out.c0
      have HSY := keepf (psym wr g gr b most t bs out ls S So fx HPl.out HM.out HTl.out)
      clear hln
      go_upto_region 4 with (go_at_call 55; refine HSY.out.mono ?_; rintro e w3 ⟨s, m, k, rfl, ho, hP3, hm3, hs3, hs4⟩; have HO3 := keepf ho; have HP3 := keepf hP3; have HM3 := keepf (HMl.out.trans hm3); have HMM3 := keepf hm3; have HS3 := keepf hs3; have HS4 := keepf hs4; clear ho hP3 hm3 hs3 hs4)
      by_cases hk : k = 0
      · subst hk
        have hrow3 : ∀ W, Chg (KP g gr So) w3 W → Src W 1 Al ln cl (icells l) := fun W hW => by
          have h1 := HP3.out.row (HPl.out.row HOl.out (by decide) (by decide) (by decide) HMM3.out.1) (by decide) (by decide) (by decide) hW
          rw [HLN.out]
          exact src_own h1
        have HRW := keepf hrow3
        have hcall := prun w3 g gr (b + m) most s cl bs out l Al S So fx HP3.out HS3.out (by rw [← HLN.out]; exact HRW.out) (fun z hz => by have := HR.out z hz; omega) (by have := HLN.out; omega)
        rw [← HLN.out] at hcall
        have HCall := keepf hcall
        clear hrow3 hcall c0 HSY
        go_upto_region 7 with (go_at_call 62; refine HCall.out.mono ?_; rintro e w4 ⟨v, tm, b4, k, rfl, hP4, hm4, htm, hb4, htp, hkk, hv, hri⟩; have HP4 := keepf hP4; have HM4 := keepf (HM3.out.trans hm4); have HMM4 := keepf hm4; have HB4 := keepf hb4; have HTP := keepf htp; have HV := keepf hv; have HRI := keepf hri; clear hP4 hm4 hb4 htp hv hri)
        have hstep : ∀ ns last, Step bs most ⟨b, out, .lens ls l n ns last⟩ (if k = 0 then stRun b4 out ls l n ns last tm v else .inr (.err k)) := fun ns last => .lens (by have := HLN.out; omega) HO3.out (HRI.out _ _ _ _ _)
        have HST := keepf hstep
        clear hstep HRI HCall
        rcases hkk with rfl | hkk
        · by_cases hlong : n - ln < tm
          · have d1 : decide ((n : Int) - ln < tm) = true := by simp; omega
            have hrun : ∀ ns last, Runs bs most ⟨a, out, .lens ls [] n ns last⟩ (.err 11) := fun ns last => (HL.out ns last).stop (by have := HST.out ns last; rw [if_pos rfl, stRun, if_pos (by have := HLN.out; omega)] at this; exact this)
            have HRu := keepf hrun
            clear hrun
            go_wp2_with fail
            go_ret2
            exact ⟨b4, HP4.out, HM4.out, by have := HAB.out; have := HB4.out; omega, .inr ⟨11, by omega, rfl, HRu.out⟩⟩
          · have d1 : decide ((n : Int) - ln < tm) = false := by simp; omega
            have hlead : ∀ ns last, Leads bs most ⟨a, out, .lens ls [] n ns last⟩ ⟨b4, out, .lens ls (l ++ List.replicate tm v) n ns last⟩ := fun ns last => (HL.out ns last).then (by have := HST.out ns last; rw [if_pos rfl, stRun, if_neg (by have := HLN.out; omega)] at this; exact this)
            have HL4 := keepf hlead
            have hown4 : w4.ownsRow 0 3 1 (.slice Al ln cl) ln (icells l) := by
              rw [HLN.out]
              exact HP3.out.row (HPl.out.row HOl.out (by decide) (by decide) (by decide) HMM3.out.1) (by decide) (by decide) (by decide) HMM4.out.1
            have HO4 := keepf hown4
            have HT4 := keepf (HP3.out.tb (HPl.out.tb HTl.out HMM3.out.1) HMM4.out.1)
            have hvb : 0 ≤ v ∧ v ≤ 320 := by
              rcases HV.out with h | h | h
              · have := HS3.out; omega
              · omega
              · exact HR.out v h
            have HVB := keepf hvb
            have htm1 := HTP.out rfl
            clear hlead hown4 hvb HST HRW HP3 HM3 HMM3 HMM4 HPl HMl HTl HOl HO3 HS3 HS4 HL HV
            go_wp2_with fail
            clear d1
            go_loopw [8, 49] (fun va vb wr => ∃ (j : Nat) (A2 : Option Addr) (c2 : Nat), j ≤ tm ∧ vb = .int .i64 j ∧ va = .slice A2 (ln + j) c2 ∧ Hid (wr.ownsRow 0 3 1 (.slice A2 (ln + j) c2) (ln + j) (icells (l ++ List.replicate j v))) ∧ Hid (Pk wr g gr bs b4 S most out So fx) ∧ Hid (Mv g gr w So wr So) ∧ Hid (Tb wr t ls) ∧ Hid (∀ x, A2 = some x → w.heap.size ≤ x.block)) (fun _ vb _ => tm - (intOf vb).toNat)
            case atStart => exact ⟨0, Al, cl, Nat.zero_le _, rfl, rfl, keepf (by simpa using HO4.out), HP4.out, HM4.out, HT4.out, HF.out⟩
            case round =>
              obtain ⟨j, A2, c2, hj, rfl, rfl, HOj, HPj, HMj, HTj, HFj⟩ := hrel
              by_cases hjt : j < tm
              · have hnj : ln + j < n := by omega
                go_wp2_with (first
                  | (at_builtin; go_loud (refine wpList_append_src rfl (.tmp 51) (.tmp 53) 32 rfl 3 i0 (.int .i64 0) 1 8 Try.underlying32 hi hz0 hz1 hz2 rfl (by decide) (.slice A2 (ln + j) c2) _ _ rfl (own_chg (S := NoS) HOj.out ((Chg.refl _ _).alloc _) (fun _ _ h => h)) _ _ _ [.int .i64 v] rfl (src_one _ _ _) (by simp [Value.oneCell']) (by unfold maxLen; omega) (by omega) ?_); intro S5 w5 hown5 hgr hat; obtain ⟨A5, c5, rfl, hA5⟩ := own_slice hown5; have HG5 := keepf hgr; have HO5 := keepf hown5; have HA5 := keepf hat; clear hgr hown5 hat hA5))
                have hch : Chg (fun i => (Value.slice A2 (ln + j) c2).ownBlock = some i) _ w5 := ((Chg.refl _ _).alloc _).grown HG5.out (fun k e _ => e)
                have hio := intsOnly_own HOj.out
                have HCh := keepf hch
                have HIO := keepf hio
                have hfr : ∀ i, i < w.heap.size → ¬ ((Value.slice A2 (ln + j) c2).ownBlock = some i) := by
                  intro i hi2 e
                  rcases A2 with _ | a2
                  · simp [Value.ownBlock] at e
                  · have h3 := HFj.out a2 rfl
                    simp [Value.ownBlock] at e
                    omega
                have HFR := keepf hfr
                clear hch hio hfr
                go_roundw
                case rel =>
                  refine ⟨j + 1, A5, c5, by omega, by go_num, by simp [Nat.add_assoc], ?_, HPj.out.ints HCh.out HIO.out, HMj.out.fresh HCh.out HFR.out, HTj.out.ints HCh.out HIO.out, ?_⟩
                  · have h2 := HO5.out
                    have e : icells (l ++ List.replicate (j + 1) v) = icells (l ++ List.replicate j v) ++ [.int .i64 v] := by
                      simp [icells, List.replicate_succ']
                    rw [e, ← Nat.add_assoc]
                    exact h2
                  · rintro x rfl
                    have hs := HMj.out.1.size
                    rcases HA5.out with h3 | h3
                    · rcases A2 with _ | a2
                      · simp [Value.ownBlock] at h3
                      · have h4 := HFj.out a2 rfl
                        simp [Value.ownBlock] at h3
                        omega
                    · simp [Value.ownBlock] at h3
                      omega
                case measure => simp [intOf]; omega
              · obtain rfl : tm = j := by omega
                go_wp2_with fail
                go_roundw
                case rel =>
                  refine ⟨b4, l ++ List.replicate tm v, A2, c2, by simp [HLN.out], by simp; have := HLN.out; omega, ?_, HPj.out, HMj.out, HTj.out, (by show a ≤ _; have := HAB.out; have := HB4.out; omega), ?_, HFj.out, HL4.out⟩
                  · show World.ownsRow _ _ _ _ _ _ _
                    have e : (l ++ List.replicate tm v).length = ln + tm := by simp [HLN.out]
                    rw [e]
                    exact HOj.out
                  · intro z hz
                    rcases List.mem_append.1 hz with h | h
                    · exact HR.out z h
                    · rw [List.eq_of_mem_replicate h]; exact HVB.out
                case measure => simp [slenI]; omega
        · have hrun : ∀ ns last, Runs bs most ⟨a, out, .lens ls [] n ns last⟩ (.err k) := fun ns last => (HL.out ns last).stop (by have := HST.out ns last; rw [if_neg (by omega)] at this; exact this)
          have HRu := keepf hrun
          clear hrun HST
          rcases hkk with rfl | rfl
          all_goals
            go_wp2_with fail
            go_ret2
            exact ⟨b4, HP4.out, HM4.out, by have := HAB.out; have := HB4.out; omega, .inr ⟨_, by omega, rfl, HRu.out⟩⟩
      · have hk2 : k = 10 ∨ k = 13 := by cases HO3.out <;> simp_all
        have hrun : ∀ ns last, Runs bs most ⟨a, out, .lens ls [] n ns last⟩ (.err k) := fun ns last => (HL.out ns last).stop (.lens (by have := HLN.out; omega) HO3.out (by unfold stLens; rw [if_pos hk]))
        have HRu := keepf hrun
        clear hrun hk
        rcases hk2 with rfl | rfl
        all_goals
          go_wp2_with fail
          go_ret2
          exact ⟨b + m, HP3.out, HM3.out, by have := HAB.out; omega, .inr ⟨_, by omega, rfl, HRu.out⟩⟩
    · obtain rfl : ln = n := by omega
      clear hln
      go_wp2_with fail
      go_ret2
      refine ⟨b, HPl.out, HMl.out, HAB.out, .inl ⟨Al, cl, l, ?_, HLN.out.symm, HOl.out, HR.out, HF.out, HL.out⟩⟩
      rw [← HLN.out]
      rfl
end Go.Proofs.Ytbdnhhhagpgibaa
