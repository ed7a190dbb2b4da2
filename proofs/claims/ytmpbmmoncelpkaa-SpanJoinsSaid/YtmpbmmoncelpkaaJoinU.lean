/- Contract of the document's Join. -/
import Derived.Test.YtmpbmmoncelpkaaJoinT
import Derived.Laws.OwnMore
namespace Go.Proofs.Ytmpbmmoncelpkaa
open Go.RowKit
set_option linter.unusedVariables false

theorem made_marks {w : World} {g N cap : Nat} (h : w.ownsRow 0 4 1 (.slice (some ⟨g, 0, none⟩) N cap) N (madeCells (Value.bool false).cells (N * 1)).toList) : Mk w (.slice (some ⟨g, 0, none⟩) N cap) N (fun _ => false) := by
  have e : (madeCells (Value.bool false).cells (N * 1)).toList = (List.range N).map fun _ => Value.bool false := by
    rw [show (Value.bool false).cells = #[.bool false] from rfl, toList_madeCells_one, Nat.mul_one]
    apply List.ext_getElem
    · simp
    · intro i h1 h2
      simp
  rw [e] at h
  exact h

/-- The set's numbers are those that are marked. -/
def SameM (N : Nat) (f : Nat → Bool) (F : List Sp) : Prop := Form F ∧ ∀ n, Num F n ↔ Gm N f n
theorem sameM_nil (N : Nat) : SameM N (fun _ => false) [] := ⟨Form.nil, fun n => ⟨fun h => absurd h (num_nil n), fun h => by have := h.2.2; cases this⟩⟩
theorem small_le {x : Sp} (h : smallB x = true) : -300 ≤ x.1 ∧ x.1 ≤ 300 ∧ -300 ≤ x.2 ∧ x.2 ≤ 300 := by simpa [smallB] using h
theorem mark_iff (x : Sp) (n : Int) (hn : 0 ≤ n) : markB x n.toNat = true ↔ emptyB x = false ∧ x.1 ≤ n ∧ n < x.2 := by
  simp [markB, emptyB]
  omega
theorem sameM_put {f : Nat → Bool} {F : List Sp} {x : Sp} (h : SameM 301 f F) (hx : smallB x = true) : SameM 301 (fun i => f i || markB x i) (putF x F) := by
  have hs := small_le hx
  refine ⟨putF_form h.1 (by omega), fun n => ?_⟩
  rw [putF_num h.1, h.2]
  constructor
  · rintro (h1 | h1)
    · exact ⟨h1.1, h1.2.1, by simp [h1.2.2]⟩
    · have he : 0 ≤ x.1 := by have := h1.1; simp [emptyB] at this; omega
      exact ⟨by omega, by omega, by simp [(mark_iff x n (by omega)).2 h1]⟩
  · rintro ⟨h1, h2, h3⟩
    simp only [Bool.or_eq_true] at h3
    rcases h3 with h3 | h3
    · exact .inl ⟨h1, h2, h3⟩
    · exact .inr ((mark_iff x n h1).1 h3)

theorem RowAt.grow {w wr : World} {g cap n : Nat} {o : List Sp} {z : Sp} (h : RowAt w wr (o ++ [z]) (.slice (some ⟨g, 0, none⟩) n cap)) (hn : n = o.length + 1) (b : Int) :
    RowAt w (wr.setCell ⟨g, o.length * 2 + 1, none⟩ (.int .i64 b)) (o ++ [(z.1, b)]) (.slice (some ⟨g, 0, none⟩) n cap) := by
  have hr := h.r
  rw [show (o ++ [z]).length = n by simp [hn]] at hr
  have h2 := own_set2 hr (o.length * 2 + 1) (.int .i64 b)
  rw [flat_set] at h2
  refine ⟨?_, h.c.setCell (fun hh => by have h' : g < w.heap.size := hh; have := h.n g rfl; omega) _, h.n⟩
  rw [show (o ++ [(z.1, b)]).length = n by simp [hn]]
  exact h2

theorem joinL_take (gap : Int) {L : List Sp} {q : Nat} {y : Sp} (h : L[q]? = some y) : joinL gap (L.take (q + 1)) = jstep gap (joinL gap (L.take q)) y := by
  rw [List.take_add_one, h, Option.toList_some, joinL_snoc]

set_option maxHeartbeats 2000000 in
theorem refJoin_any (gap : Int) (A : Option Addr) (len cap : Nat) (xs : List Sp) (w : World) (hl : xs.length = len) (hm : len ≤ 1000000) (hS : Src w 2 A len cap (xs.flatMap encC)) (hsm : ∀ y ∈ xs, smallB y = true) :
    Calls Try.prog 25 #[.slice A len cap, .int .i64 gap] w (RowTo w (joinL gap (puts xs []))) := by
  have HS := keepf hS
  have HL := keepf hl
  have HSM := keepf hsm
  clear hS hl hsm
  obtain ⟨i0, hi, hz0, hz1, hz2⟩ := info_parts info_bool
  go_enter Try.func25, Try.ntmps25
  go_wp2_with (first
    | (at_make; go_loud (refine wpList_make_full _ rfl (.const (.int .i64 301)) (.const (.int .i64 301)) 39 rfl 0 4 i0 (.bool false) 1 Try.underlying39 hi hz0 hz1 .i64 .i64 301 301 301 rfl rfl rfl rfl (by rw [hz2]; decide) (by unfold maxLen; decide) (Nat.zero_le _) ?_); intro w2 hown2 hgr; have HM2 := keepf (made_marks hown2); have HC2 := keepf (show Chg NoS w w2 from (Chg.refl NoS w).grown hgr (fun _ e _ => by cases e)); clear hown2 hgr))
  go_loopw [5, 6] (fun v i wr => ∃ (k g c : Nat) (f : Nat → Bool), k ≤ len ∧ i = .int .i64 k ∧ v = .slice (some ⟨g, 0, none⟩) 301 c ∧ Mk wr (.slice (some ⟨g, 0, none⟩) 301 c) 301 f ∧ Chg NoS w wr ∧ Hid (SameM 301 f (puts (xs.take k) []))) (fun _ i _ => len - (intOf i).toNat)
  case atStart => exact ⟨0, _, 301, _, Nat.zero_le _, rfl, rfl, HM2.out, HC2.out, sameM_nil _⟩
  case round =>
    obtain ⟨k, g, c, f, hk, rfl, rfl, hmk, hcw, HI⟩ := hrel
    have HM := keepf hmk
    have HC := keepf hcw
    clear hmk hcw HM2 HC2
    by_cases hlt : k < len
    · obtain ⟨b, o, rfl, ⟨y1, y2⟩, hy, cy1, cy2⟩ := row_cells (src_no HS.out HC.out) HL.out hlt
      simp only at cy1 cy2
      have hys := HSM.out _ (List.mem_of_getElem? hy)
      have HY := keepf hy
      have HYS := keepf hys
      clear hy hys
      go_wp2_with fail
      refine (refPut_any g 301 c f (y1, y2) _ HM.out (by omega) (by omega)).mono ?_
      rintro e w3 ⟨g3, c3, rfl, hm3, hc3, _⟩
      have HM3 := keepf hm3
      have HC3 := keepf (HC.out.then_ hc3)
      clear hm3 hc3 cy1 cy2
      go_wp2_with fail
      go_roundw
      case rel => exact ⟨k + 1, g3, c3, _, by omega, by go_num, rfl, HM3.out, HC3.out, by rw [puts_take HY.out]; exact sameM_put HI.out HYS.out⟩
      case measure => simp [intOf]; omega
    · obtain rfl : k = len := by omega
      have hsame := HI.out
      rw [List.take_of_length_le (by rw [HL.out]; exact Nat.le_refl _)] at hsame
      have HSA := keepf hsame
      clear hsame HI HS HL HSM
      go_wp2_with fail
      refine (spans_any g 301 c f _ HM.out (by omega) (by omega)).mono ?_
      rintro e w1 ⟨L, hL, A1, c1, rfl, hown1, hc1, _⟩
      have hLe : puts xs [] = L := form_ext HSA.out.1 hL.1 (fun n => (HSA.out.2 n).trans (hL.2.1 n).symm)
      have hLl := hL.2.2
      have HLE := keepf hLe
      have HF := keepf hL.1
      have HS1 := keepf (src_own hown1)
      have HC1 := keepf (HC.out.then_ hc1)
      obtain ⟨ln, hln⟩ : ∃ ln, L.length = ln := ⟨_, rfl⟩
      rw [hln] at HS1 hLl ⊢
      have HLN := keepf hln
      clear hLe hL hown1 hc1 hln HM HC HSA
      obtain ⟨i1, hi1, hy0, hy1, hy2⟩ := info_parts info_span
      go_wp2_with fail
      go_loopw [8, 9] (fun v i wr => ∃ q : Nat, q ≤ ln ∧ i = .int .i64 q ∧ RowAt w1 wr (joinL gap (L.take q)) v) (fun _ i _ => ln - (intOf i).toNat)
      case atStart => exact ⟨0, Nat.zero_le _, rfl, ⟨own_nil _ _ _ _, Chg.refl _ _, fun i h => by simp [Value.ownBlock] at h⟩⟩
      case round =>
        obtain ⟨q, hq, rfl, hrow⟩ := hrel
        by_cases hlt : q < ln
        · obtain ⟨b, o1, rfl, ⟨y1, y2⟩, hy, cy1, cy2⟩ := row_cells (src_no HS1.out hrow.c) HLN.out hlt
          have hyok := HF.out.ok _ (List.mem_of_getElem? hy)
          simp only at cy1 cy2 hyok
          have hsn := joinL_take gap hy
          have htF : Form (L.take q) := HF.out.sub (List.take_sublist _ _)
          have hjl := joinL_len gap _ (L.take q) rfl
          have htl : (L.take q).length ≤ q := List.length_take_le _ _
          have hlast := (joinL_last gap _ (L.take q) rfl).2
          obtain ⟨y10, y11, y12⟩ := hyok
          rcases List.eq_nil_or_concat (joinL gap (L.take q)) with hnil | ⟨o, z, hcc⟩
          · rw [hnil] at hrow hsn
            rw [jstep_new gap [] _ (fun z h => by simp at h)] at hsn
            obtain ⟨A3, c3, rfl, _⟩ := own_slice hrow.r
            have HR := keepf hrow
            have HSN := keepf hsn
            clear hrow hsn hnil hlast hy htF hjl htl
            simp only [List.length_nil]
            have HL1 := keepf (show ([] : List Sp).length ≤ 99999999 by simp)
            go_wp2_with fail
            go_quiet (fail)
            go_wp2_with (first
              | (at_builtin; go_loud (refine wpList_append_src rfl (.tmp 62) (.tmp 67) 32 rfl 34 i1 (.agg #[.int .i64 0, .int .i64 0]) 2 16 Try.underlying32 hi1 hy0 hy1 hy2 rfl (by decide) (.slice A3 0 c3) _ _ rfl (own_chg (S := NoS) HR.out.r (((Chg.refl _ _).drewN _).alloc _) (fun _ _ h => h)) _ _ _ (encC (y1, y2)) rfl (src_two_at rfl) (encC_one _) ?_ ?_ ?_); (unfold maxLen; have := HL1.out; omega); (have := HL1.out; omega); intro S2 w2 hown2 hgr hat; obtain ⟨A2, c2, rfl, hA2⟩ := own_slice hown2; have HG2 := keepf hgr; have HO2 := keepf hown2; have HA2 := keepf hat; clear hgr hown2 hat hA2))
            go_roundw
            case rel => exact ⟨q + 1, by omega, by go_num, by rw [HSN.out]; exact (HR.out.drewN _).snoc HG2.out HO2.out HA2.out⟩
            case measure => simp [intOf]; omega
          · rw [List.concat_eq_append] at hcc
            rw [hcc] at hrow hsn hlast hjl
            obtain ⟨_, _, zb, hzb, _, hz2e⟩ := hlast z (by simp)
            have hzok := htF.ok zb hzb
            rw [← hz2e] at hzok
            obtain ⟨z1, z2⟩ := z
            simp only at hzok
            obtain ⟨m, hm⟩ : ∃ m, m = o.length := ⟨_, rfl⟩
            have hl1 : (o ++ [(z1, z2)]).length = m + 1 := by simp [hm]
            obtain ⟨g, cp, hVf, _, _⟩ := own_form hrow.r (by omega)
            subst hVf
            rw [hl1] at hrow hjl
            have hr := hrow.r
            rw [hl1] at hr
            have cz := flat_cell hr (by omega)
            simp only at cz
            rw [← hm] at cz
            have hz0' : 0 ≤ z2 := by omega
            have hz1' : z2 ≤ 9223372036854775807 := hzok.2.2
            obtain ⟨cs, hcs⟩ := own_blk hr
            have fz := hcs.frozen (m * 2 + 1)
            have hmb : m + 1 ≤ 1000 := by omega
            have hm0 : (0 : Int) < (m : Int) + 1 := by omega
            subst hm
            have hw1 : IntKind.i64.wrap (o.length : Int) = (o.length : Int) := by rw [IntKind.wrap_i64]; omega
            have hw2 : IntKind.i64.wrap (y1 - z2) = y1 - z2 := by rw [IntKind.wrap_i64]; omega
            have HR := keepf hrow
            have HL1 := keepf hl1
            by_cases hgap : y1 - z2 ≤ gap
            · rw [jstep_on gap o (z1, z2) (y1, y2) hgap] at hsn
              have HSN := keepf hsn
              clear hrow hsn hcc hlast hy htF hjl htl hr hcs hzok hzb hz2e hl1
              go_wp2_with fail
              go_quiet (fail)
              go_wp2_with fail
              go_roundw
              case rel =>
                exact ⟨q + 1, by omega, by go_num, by rw [HSN.out]; exact (HR.out.drewN _).grow rfl y2⟩
              case measure => simp [intOf]; omega
            · rw [jstep_new gap _ _ (fun y hy => by simp at hy; subst hy; simp only; omega)] at hsn
              have hgap' : gap < y1 - z2 := by omega
              have HSN := keepf hsn
              clear hrow hsn hcc hlast hy htF hjl htl hr hcs hzok hzb hz2e hl1 hgap
              go_wp2_with fail
              go_quiet (fail)
              go_wp2_with (first
              | (at_builtin; go_loud (refine wpList_append_src rfl (.tmp 62) (.tmp 67) 32 rfl 34 i1 (.agg #[.int .i64 0, .int .i64 0]) 2 16 Try.underlying32 hi1 hy0 hy1 hy2 rfl (by decide) (.slice (some ⟨g, 0, none⟩) (o.length + 1) cp) _ _ rfl (own_chg (S := NoS) HR.out.r (((Chg.refl _ _).drewN _).alloc _) (fun _ _ h => h)) _ _ _ (encC (y1, y2)) rfl (src_two_at rfl) (encC_one _) ?_ ?_ ?_); (unfold maxLen; have := HL1.out; omega); (have := HL1.out; omega); intro S2 w2 hown2 hgr hat; obtain ⟨A2, c2, rfl, hA2⟩ := own_slice hown2; have HG2 := keepf hgr; have HO2 := keepf hown2; have HA2 := keepf hat; clear hgr hown2 hat hA2))
              go_roundw
              case rel =>
                have h := (HR.out.drewN _).snoc HG2.out HO2.out HA2.out
                rw [show (o ++ [(z1, z2)]).length = o.length + 1 from by simp] at h
                exact ⟨q + 1, by omega, by go_num, by rw [HSN.out]; exact h⟩
              case measure => simp [intOf]; omega
        · obtain rfl : q = ln := by omega
          rw [List.take_of_length_le (by rw [HLN.out]; exact Nat.le_refl _)] at hrow
          obtain ⟨A3, c3, rfl, _⟩ := own_slice hrow.r
          have HR := keepf hrow
          clear hrow
          go_wp2_with fail
          go_ret
          rw [HLE.out]
          have hcs := HC1.out.size
          exact ⟨A3, c3, rfl, HR.out.r, HC1.out.then_ HR.out.c, fun i hi => by have := HR.out.n i hi; omega⟩
end Go.Proofs.Ytmpbmmoncelpkaa
