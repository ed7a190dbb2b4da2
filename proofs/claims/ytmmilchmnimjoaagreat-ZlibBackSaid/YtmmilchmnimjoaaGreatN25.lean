/- Merged by program: RefO RefP. -/
import Derived.Test.YtmmilchmnimjoaaGreatN09
import Derived.Test.YtmmilchmnimjoaaGreatN21
import Derived.Test.YtmmilchmnimjoaaGreatN23
import Derived.Test.YtmmilchmnimjoaaGreatN24
/- The document's own unpacking: a block of kind 2, walked. -/
namespace Go.Proofs.YtmmilchmnimjoaaGreat
open Go.RowKit
set_option linter.unusedVariables false
set_option linter.unusedSimpArgs false
set_option maxHeartbeats 4000000 in
set_option maxRecDepth 100000 in
theorem rdynamic_ok (g a most last b : Nat) (bs out r : List Nat) (V So : Value) (w : World) (h : RS w g bs V a out So most) (hr : Runs bs most ⟨a, out, .own last⟩ (.ok r b)) :
    Calls Tryz.prog 38 #[.pointer (some ⟨g, 0, none⟩)] w (BlkTo w g bs V So most last r b a) := by
  obtain ⟨hl14, hx1, hy1, hrk⟩ := runs_own hr
  have hbs : 0 < bs.length := by omega
  have hxb : numAt false bs a 5 < 32 := numAt_lt bs a 5
  have hyb : numAt false bs (a + 5) 5 < 32 := numAt_lt bs (a + 5) 5
  have hzb : numAt false bs (a + 10) 4 < 16 := numAt_lt bs (a + 10) 4
  obtain ⟨x, hx⟩ : ∃ x, x = numAt false bs a 5 := ⟨_, rfl⟩
  obtain ⟨y, hy⟩ : ∃ y, y = numAt false bs (a + 5) 5 := ⟨_, rfl⟩
  obtain ⟨z, hz⟩ : ∃ z, z = numAt false bs (a + 10) 4 := ⟨_, rfl⟩
  have HN1 := keepf (show Calls Tryz.prog 34 #[.pointer (some ⟨g, 0, none⟩), .int .i64 5] w (RTo w g bs V (a + 5) out So most (.int .i64 x)) by
    have h := rnumber_ok g a 5 most bs out V So w h (by omega) (by decide) (by decide)
    rw [← hx] at h
    exact h)
  have HN2 := keepf (fun (W : World) (hW : RS W g bs V (a + 5) out So most) => show Calls Tryz.prog 34 #[.pointer (some ⟨g, 0, none⟩), .int .i64 5] W (RTo W g bs V (a + 10) out So most (.int .i64 y)) by
    have h := rnumber_ok g (a + 5) 5 most bs out V So W hW (by omega) (by decide) (by decide)
    rw [← hy] at h
    exact h)
  have HN3 := keepf (fun (W : World) (hW : RS W g bs V (a + 10) out So most) => show Calls Tryz.prog 34 #[.pointer (some ⟨g, 0, none⟩), .int .i64 4] W (RTo W g bs V (a + 14) out So most (.int .i64 z)) by
    have h := rnumber_ok g (a + 10) 4 most bs out V So W hW (by omega) (by decide) (by decide)
    rw [← hz] at h
    exact h)
  rw [← hx] at hx1 hxb hrk
  rw [← hy] at hy1 hyb hrk
  rw [← hz] at hzb hrk
  have HRK := keepf hrk
  have HBS := keepf hbs
  have HL14 := keepf hl14
  obtain ⟨i0, hi, hz0, hz1, hz2⟩ := info_parts info_sint
  clear h hr hrk hx hy hz hbs hl14
  go_enter Tryz.func38, Tryz.ntmps38
  go_upto_region 1 with (go_at_call 34; refine HN1.out.mono ?_; rintro e w1 ⟨rfl, hr1, hm1⟩; have HR1 := keepf hr1; have HM1 := keepf hm1; clear hr1 hm1)
  go_upto_region 2 with (go_at_call 34; refine (HN2.out _ HR1.out).mono ?_; rintro e w2 ⟨rfl, hr2, hm2⟩; have HR2 := keepf hr2; have HM2 := keepf (HM1.out.trans hm2); clear hr2 hm2)
  go_upto_region 3 with (go_at_call 34; refine (HN3.out _ HR2.out).mono ?_; rintro e w3 ⟨rfl, hr3, hm3⟩; have HR3 := keepf hr3; have HM3 := keepf (HM2.out.trans hm3); have c2 := hr3.blk.cell 2; clear hr3 hm3)
  simp at c2
  have d1 : decide ((286 : Int) < 257 + x) = false := by simp; omega
  have d2 : decide ((30 : Int) < 1 + y) = false := by simp; omega
  clear HN1 HN2 HN3
  go_upto_region 6 with (at_make; go_loud (refine wpList_make_full _ rfl (.const (.int .i64 19)) (.const (.int .i64 19)) 63 rfl 0 3 i0 (.int .i64 0) 1 Tryz.underlying63 hi hz0 hz1 .i64 .i64 _ _ 19 rfl rfl rfl rfl (by rw [hz2]; omega) (by unfold maxLen; omega) (Nat.zero_le _) ?_); intro w4 hown4 hgr; have HO4 := keepf hown4; have HG4 := keepf hgr; clear hown4 hgr)
  clear c2 d1 d2
  have hz : (madeCells (Value.int .i64 0).cells (19 * 1)).toList = icells (List.replicate 19 0) := by
    rw [Nat.mul_one]
    exact (toList_madeCells_one _ _).trans (by simp [icells])
  have hrow4 : w4.ownsRow 0 3 1 (.slice (some ⟨w3.heap.size, 0, none⟩) (List.replicate 19 (0 : Int)).length 19) (List.replicate 19 (0 : Int)).length (icells (List.replicate 19 0)) := by
    rw [List.length_replicate, ← hz]
    exact HO4.out
  have hc4 : Chg NoS w3 w4 := (Chg.refl NoS w3).grown HG4.out (fun _ e _ => by cases e)
  have hlt4 : w.heap.size ≤ w3.heap.size := HM3.out.1.size
  obtain ⟨gl, hgl⟩ : ∃ gl, gl = w3.heap.size := ⟨_, rfl⟩
  rw [← hgl] at hrow4 hlt4 ⊢
  have HS4 := keepf (show LSt w w4 g bs V (a + 14) out So most (List.replicate 19 0) (some ⟨gl, 0, none⟩) 19 from ⟨HR3.out.no hc4, HM3.out.news hc4, hrow4, fun x hx => by cases hx; exact hlt4⟩)
  clear hz hrow4 hc4 hlt4 hgl HO4 HG4 HR3 HM3 HR1 HM1 HR2 HM2 hi hz0 hz1 hz2
  go_wp2_with fail
  go_loopw [6] (fun vj wr => ∃ (j a1 : Nat) (L : List Int), j ≤ 4 + z ∧ vj = .int .i64 j ∧ Hid (L.length = 19) ∧ Hid (LSt w wr g bs V a1 out So most L (some ⟨gl, 0, none⟩) 19) ∧ Hid (Runs bs most ⟨a1, out, .kinds ((order.take (4 + z)).drop j) L (257 + x + (1 + y)) (257 + x) last⟩ (.ok r b)) ∧ Hid (a + 14 ≤ a1)) (fun vj _ => 4 + z - (intOf vj).toNat)
  case atStart => exact ⟨0, a + 14, _, Nat.zero_le _, rfl, List.length_replicate, HS4.out, HRK.out, Nat.le_refl _⟩
  case round =>
    clear HS4 HRK
    obtain ⟨j, a1, L, hj, rfl, H19, HST, HRN, HAA⟩ := hrel
    rename World => wo
    by_cases hlt : j < 4 + z
    · have dk : decide ((j : Int) < 4 + (z : Int)) = true := by simp; omega
      obtain ⟨s, hs⟩ : ∃ s, s = order.getD j 0 := ⟨_, rfl⟩
      have hol : order.length = 19 := rfl
      have hs19 : s < 19 := by
        rw [hs]
        have : ∀ k : Nat, k < 19 → order.getD k 0 < 19 := by decide
        exact this j (by omega)
      have hdrop : (order.take (4 + z)).drop j = s :: (order.take (4 + z)).drop (j + 1) := by
        rw [List.drop_eq_getElem_cons (by rw [List.length_take]; omega)]
        congr 1
        rw [hs, List.getElem_take, List.getD_eq_getElem?_getD, List.getElem?_eq_getElem (by omega)]
        rfl
      have hrn := HRN.out
      rw [hdrop] at hrn
      obtain ⟨q1, q2⟩ := runs_kind hrn
      obtain ⟨v, hv⟩ : ∃ v, v = numAt false bs a1 3 := ⟨_, rfl⟩
      have hv8 : v < 8 := by rw [hv]; exact numAt_lt bs a1 3
      have HN4 := keepf (show Calls Tryz.prog 34 #[.pointer (some ⟨g, 0, none⟩), .int .i64 3] wo (RTo wo g bs V (a1 + 3) out So most (.int .i64 v)) by
        have h := rnumber_ok g a1 3 most bs out V So wo HST.out.rs q1 (by decide) (by decide)
        rw [← hv] at h
        exact h)
      rw [← hv] at q2
      have HQ := keepf q2
      have HCO := keepf (show orderCells[j]? = some (.int .i64 (s : Nat)) by
        rw [hs]
        simp [orderCells, List.getD_eq_getElem?_getD, show j < order.length by omega])
      have j19 : (j : Int) < 19 := by omega
      clear hs hol hdrop hrn q1 q2 hv
      go_upto_region 10 with (go_at_call 34; refine HN4.out.mono ?_; rintro e w5 ⟨rfl, hr5, hm5⟩; have HS5 := keepf (HST.out.step hr5 hm5); clear hr5 hm5)
      clear dk HN4
      go_wp2_with (go_at_call 59; refine (rorder_any _).mono ?_; rintro e w6 ⟨rfl, hw6⟩
                   obtain ⟨go, hgo⟩ : ∃ go, go = w5.heap.size := ⟨_, rfl⟩
                   have hb6 := Blk.new w5 3 orderCells
                   rw [← hw6, ← hgo] at hb6
                   have hc6 : Chg NoS w5 w6 := by rw [hw6]; exact (Chg.refl NoS w5).alloc _
                   have hs6 := HS5.out.no hc6
                   rw [← hgo] at ⊢
                   have co := hb6.cell j
                   rw [HCO.out] at co
                   have f6 := World.ownsRow.frozenAt hs6.row s
                   have c6 := World.ownsRow.cellAt hs6.row s (by rw [H19.out]; exact hs19)
                   rw [show (icells L)[s]? = some (.int .i64 (L.getD s 0)) from by simp [icells, List.getD_eq_getElem?_getD, show s < L.length by rw [H19.out]; exact hs19]] at c6
                   have HS6 := keepf hs6
                   clear hgo hb6 hc6 hs6 hw6)
      go_roundw
      case rel =>
        exact ⟨j + 1, a1 + 3, L.set s (v : Nat), by omega, by go_num, by (show (L.set s _).length = 19); rw [List.length_set]; exact H19.out, HS6.out.set_ s v, HQ.out, keepf (by have := HAA.out; omega)⟩
      case measure => simp [intOf]; omega
    · have dk : decide ((j : Int) < 4 + (z : Int)) = false := by simp; omega
      have hjz : j = 4 + z := by omega
      obtain ⟨T, hT⟩ : ∃ T, T = 257 + x + (1 + y) := ⟨_, rfl⟩
      have hrn := HRN.out
      rw [List.drop_eq_nil_of_le (by rw [List.length_take]; omega), ← hT] at hrn
      obtain ⟨hmay, q⟩ := runs_kinds0 hrn
      have HMAY := keepf hmay
      have HQ := keepf q
      have HTT := keepf hT
      have hcT : ((T : Nat) : Int) = 257 + (x : Int) + (1 + (y : Int)) := by omega
      have HCT := keepf hcT
      have HCD := keepf (rcodesR_ok g a1 most bs out V So wo L (some ⟨gl, 0, none⟩) 19 HST.out.rs hmay (src_own HST.out.row))
      rw [H19.out] at HCD
      clear hrn hmay q hjz hT hcT
      go_upto_region 12 with (go_at_call 55; refine HCD.out.mono ?_; rintro e w5 ⟨B, d, rfl, ho5, hr5, hm5⟩; have HO5 := keepf ho5; have HS5 := keepf (HST.out.step hr5 hm5); clear ho5 hr5 hm5)
      clear dk HCD
      have HLE := keepf (rlengths_ok g a1 most last b T (257 + x) bs out r V So w5 L (some ⟨gl, 0, none⟩) B 19 d HS5.out.rs HMAY.out (by rw [H19.out]; omega) (by have := HTT.out; omega) HBS.out
        (fun W hW => src_own (HS5.out.rs.stay hW HS5.out.row (by decide) (by decide)))
        (fun W hW => by have h := src_own (HS5.out.rs.stay hW HO5.out (by decide) (by decide)); unfold KRow; rw [H19.out]; exact h) HQ.out)
      rw [H19.out, HCT.out] at HLE
      go_upto_region 13 with (go_at_call 60; refine HLE.out.mono ?_; rintro e w6 ⟨L2, a2, A2, c2, rfl, hs6, hl2, hr6, ha6⟩; have HS6 := keepf hs6; have HL2 := keepf hl2; have HR6 := keepf hr6; have HA6 := keepf ha6; clear hs6 hl2 hr6 ha6)
      clear HLE
      obtain ⟨_, hne, hM1, hM2, hrun⟩ := (runs_lens (by rw [H19.out]; omega) HR6.out).resolve_right (fun hh => by have := HL2.out; have := hh.1; omega)
      have hT1 : 257 + x + (1 + y) = T := HTT.out.symm
      have hown := HS6.out.row
      rw [HL2.out] at hown
      obtain ⟨ga, ca, hA, hcap1, hcap2⟩ := own_form hown (by omega)
      simp only [Value.slice.injEq] at hA
      obtain ⟨rfl, _, rfl⟩ := hA
      have c256 := hown.cellAt 256 (by omega)
      obtain ⟨v, hv⟩ : ∃ v, v = L2.getD 256 0 := ⟨_, rfl⟩
      have hiv : (icells L2)[256]? = some (.int .i64 v) := by
        rw [hv]
        have := HL2.out
        simp [icells, List.getD_eq_getElem?_getD, show 256 < L2.length by omega]
      rw [hiv] at c256
      rw [← hv] at hne
      have dv : (v == 0) = false := by simpa using hne
      have i1 : (256 : Int) < T := by omega
      have e2 := HS6.out.rs.blk.cell 2
      simp at e2
      have htl : (L2.take (257 + x)).length = 257 + x := by rw [List.length_take, HL2.out]; omega
      have hdl : (L2.drop (257 + x)).length = 1 + y := by rw [List.length_drop, HL2.out]; omega
      have hcall : ∀ W, Chg NoS w6 W → Calls Tryz.prog 37 #[.pointer (some ⟨g, 0, none⟩), .slice (some ⟨ga, 0, none⟩) (257 + x) c2, .slice (some ⟨ga, 257 + x, none⟩) (1 + y) (c2 - (257 + x))] W (BlkTo W g bs V So most last r b a2) := fun W hW => by
        have ho : W.ownsRow 0 3 1 (.slice (some ⟨ga, 0, none⟩) T c2) T (icells L2) := own_chg hown hW (fun _ _ h => h)
        have hrs := HS6.out.rs.no hW
        have h1 := rcoded_ok g a2 most last b bs out r V So W (L2.take (257 + x)) (L2.drop (257 + x)) (some ⟨ga, 0, none⟩) (some ⟨ga, 257 + x, none⟩) c2 (c2 - (257 + x)) hrs hM1 hM2
          (fun W2 h2 => src_takeI (src_own (hrs.stay h2 ho (by decide) (by decide))) HL2.out (by omega))
          (fun W2 h2 => src_dropI (src_own (hrs.stay h2 ho (by decide) (by decide))) HL2.out (by omega)) hrun
        rw [htl, hdl] at h1
        exact h1
      have HCall := keepf hcall
      have hcx : ((257 + x : Nat) : Int) = 257 + (x : Int) := by omega
      have hs1 := fun W => slice_toI (some ⟨ga, 0, none⟩) T c2 (257 + x) (by omega) W
      have hs2 := fun W => slice_fromI ga 0 T c2 (257 + x) (by omega) (by omega) W
      simp only [hcx, Nat.zero_add, show T - (257 + x) = 1 + y from by omega] at hs1 hs2
      have HAE := keepf (show a ≤ a2 by have := HAA.out; have := HA6.out; omega)
      have HRM := keepf (HS5.out.rm.trans HS6.out.rm)
      clear hcall htl hdl hne hM1 hM2 hrun hown hiv hv hcx hT1 hlt
      go_upto_region 16 with fail
      first
        | (go_loud (go_region_held3 (fun _ => True)
            (trivial)
            (first
              | (go_at_call 37; refine (HCall.out _ ((Chg.refl NoS w6).drew)).mono ?_; rintro e w7 ⟨a7, out7, So7, rfl, hr7, hm7, hrn7, ha7⟩; have HR7 := keepf hr7; have HM7 := keepf ((HRM.out.drewN 1).trans hm7); have HRN7 := keepf hrn7; have HA7 := keepf ha7; clear hr7 hm7 hrn7 ha7))))
        | fail "region"
      go_wp2_with fail
      go_end0
      exact ⟨a7, out7, So7, rfl, HR7.out, HM7.out, HRN7.out, by have := HAE.out; have := HA7.out; omega⟩
end Go.Proofs.YtmmilchmnimjoaaGreat
/- The document's own unpacking: all of it, along a good end. -/
namespace Go.Proofs.YtmmilchmnimjoaaGreat
open Go.RowKit
set_option linter.unusedVariables false
set_option linter.unusedSimpArgs false
def RInf (w : World) (r : List Nat) (b : Nat) (e : Ending) (w' : World) : Prop :=
  ∃ (A : Option Addr) (c : Nat), e = .returned (.tuple #[.slice A r.length c, .int .i64 ((b + 7) / 8 : Nat), .int .i64 0]) ∧ w'.ownsRow 0 5 1 (.slice A r.length c) r.length (ucells r) ∧ Chg NoS w w' ∧ ∀ x, A = some x → w.heap.size ≤ x.block
theorem rm_new {w w1 w2 : World} {g : Nat} {S1 : Value} (h1 : Chg NoS w w1) (hg : w.heap.size ≤ g) (h2 : RM g w1 (.slice none 0 0) w2 S1) : Chg NoS w w2 := by
  refine h1.trans h2.1 ?_
  rintro i hi (e | e)
  · omega
  · simp [Value.ownBlock] at e
set_option maxHeartbeats 4000000 in
set_option maxRecDepth 100000 in
theorem rinflate_ok (bs r : List Nat) (A : Option Addr) (c most b : Nat) (w : World) (hS : Src w 1 A bs.length c (ucells bs)) (hb : ∀ x ∈ bs, x < 256) (hlen : bs.length ≤ 100000) (hm : most ≤ 16777216) (hr : Runs bs most st0 (.ok r b)) :
    Calls Tryz.prog 19 #[.slice A bs.length c, .int .i64 most] w (RInf w r b) := by
  have HBT := keepf (refbits_any false bs A c w (by omega) hb hS)
  have HR := keepf hr
  have HB := keepf hb
  have HLEN := keepf hlen
  obtain ⟨n, hn⟩ : ∃ n, n = bs.length := ⟨_, rfl⟩
  have HN := keepf hn
  rw [← hn] at HBT hlen ⊢
  have d1 : decide ((most : Int) < 0) = false := by simp
  have d2 : decide ((16777216 : Int) < most) = false := by simp; omega
  clear hS hb hr hn
  go_enter Tryz.func19, Tryz.ntmps19
  go_upto_region 4 with (go_at_call 33; refine HBT.out.mono ?_; rintro e w1 ⟨A1, c1, rfl, hg1⟩; have hlb := allBits_length false bs; rw [hlb] at hg1 ⊢; have HG1 := keepf hg1; clear hg1 hlb)
  obtain ⟨V, hV⟩ : ∃ V, V = Value.slice A1 (8 * bs.length) c1 := ⟨_, rfl⟩
  rw [← hV] at HG1 ⊢
  clear hV
  obtain ⟨g, hg⟩ : ∃ g, g = w1.heap.size := ⟨_, rfl⟩
  have hb2 := Blk.new w1 61 #[V, .int .i64 0, .int .i64 0, .slice none 0 0, .int .i64 most]
  have hc2 : Chg NoS w1 (w1.alloc (.cells #[V, .int .i64 0, .int .i64 0, .slice none 0 0, .int .i64 most] 61)) := (Chg.refl NoS w1).alloc _
  generalize w1.alloc (.cells #[V, .int .i64 0, .int .i64 0, .slice none 0 0, .int .i64 most] 61) = w2 at *
  rw [← hg] at hb2 ⊢
  have HG := keepf (show w.heap.size ≤ g by rw [hg]; exact HG1.out.c.size)
  have HC2 := keepf (HG1.out.c.trans hc2 (fun _ _ h => h))
  have HS2 := keepf (show RS w2 g bs V 0 [] (.slice none 0 0) most from ⟨hb2, own_chg HG1.out.o hc2 (fun _ _ h => h), own_nil _ _ _ _, Nat.zero_le _, HLEN.out, hm, Nat.zero_le _⟩)
  clear hg hb2 hc2 HG1 HBT d1 d2 HB
  go_wp2_with fail
  go_loopw [8, 9] (fun vl vk wr => ∃ (l k a1 : Nat) (out1 : List Nat) (So1 : Value), k ≤ a1 ∧ l ≤ 1 ∧ vl = .int .i64 l ∧ vk = .int .i64 k ∧ Hid (RS wr g bs V a1 out1 So1 most) ∧ Hid (RM g w2 (.slice none 0 0) wr So1) ∧ Hid ((l = 0 ∧ Runs bs most ⟨a1, out1, .head⟩ (.ok r b)) ∨ (l ≠ 0 ∧ r = out1 ∧ b = a1))) (fun _ vk _ => 8 * n + 1 - (intOf vk).toNat)
  case atStart => exact ⟨0, 0, 0, [], .slice none 0 0, Nat.le_refl _, Nat.zero_le _, rfl, rfl, HS2.out, RM.refl _ _ _, .inl ⟨rfl, HR.out⟩⟩
  case round =>
    clear HS2 HR
    obtain ⟨l, k, a1, out1, So1, hk, hl1, rfl, rfl, HRW, HMW, HCASE⟩ := hrel
    rename World => wo
    have hle := HRW.out.le
    rw [← HN.out] at hle
    have dk : decide ((k : Int) ≤ 8 * (n : Int)) = true := by simp; omega
    have e2 := HRW.out.blk.cell 2
    simp at e2
    rcases HCASE.out with ⟨hl0, hrun⟩ | ⟨hl0, hrr, hba⟩
    · have ul : ((l : Int) == 0) = true := by simp; omega
      obtain ⟨q1, hq⟩ := runs_head hrun
      obtain ⟨x, hx⟩ : ∃ x, x = numAt false bs a1 1 := ⟨_, rfl⟩
      obtain ⟨kd, hkd⟩ : ∃ kd, kd = numAt false bs (a1 + 1) 2 := ⟨_, rfl⟩
      have hx2 : x < 2 := by rw [hx]; exact numAt_lt bs a1 1
      have HN1 := keepf (show Calls Tryz.prog 34 #[.pointer (some ⟨g, 0, none⟩), .int .i64 1] wo (RTo wo g bs V (a1 + 1) out1 So1 most (.int .i64 x)) by
        have h := rnumber_ok g a1 1 most bs out1 V So1 wo HRW.out (by omega) (by decide) (by decide)
        rw [← hx] at h
        exact h)
      have HN2 := keepf (fun (W : World) (hW : RS W g bs V (a1 + 1) out1 So1 most) => show Calls Tryz.prog 34 #[.pointer (some ⟨g, 0, none⟩), .int .i64 2] W (RTo W g bs V (a1 + 3) out1 So1 most (.int .i64 kd)) by
        have h := rnumber_ok g (a1 + 1) 2 most bs out1 V So1 W hW (by omega) (by decide) (by decide)
        rw [← hkd] at h
        exact h)
      rw [← hx, ← hkd] at hq
      have HQ := keepf hq
      have hq1 : a1 + 3 ≤ 8 * n := by rw [HN.out]; exact q1
      clear hrun hq hx hkd q1
      go_upto_region 9 with (go_at_call 34; refine HN1.out.mono ?_; rintro e w3 ⟨rfl, hr3, hm3⟩; have HR3 := keepf hr3; have HM3 := keepf (HMW.out.trans hm3); clear hr3 hm3)
      clear e2 dk ul
      go_upto_region 11 with (go_at_call 34; refine (HN2.out _ HR3.out).mono ?_; rintro e w4 ⟨rfl, hr4, hm4⟩; have HR4 := keepf hr4; have HM4 := keepf (HM3.out.trans hm4); have e4 := hr4.blk.cell 2; clear hr4 hm4)
      simp at e4
      clear HN1 HN2 HR3 HM3
      rcases HQ.out with ⟨hkd, hrun⟩ | ⟨hkd, hrun⟩ | ⟨hkd, hrun⟩
      · have u0 : ((kd : Int) == 0) = true := by simp; omega
        have HST := keepf (rstored_ok g (a1 + 3) most x b bs out1 r V So1 w4 HR4.out hrun)
        clear hrun HQ
        go_wp2_with (go_at_call 35; refine HST.out.mono ?_; rintro e w5 ⟨a5, out5, So5, rfl, hr5, hm5, hrn5, ha5⟩; have HR5 := keepf hr5; have HM5 := keepf (HM4.out.trans hm5); have HRN5 := keepf (runs_end hrn5); have HA5 := keepf ha5; clear hr5 hm5 hrn5 ha5)
        go_roundw
        case rel => exact ⟨x, k + 1, a5, out5, So5, by have := HA5.out; omega, by omega, rfl, by go_num, HR5.out, HM5.out, HRN5.out⟩
        case measure => simp [intOf]; omega
      · have u0 : ((kd : Int) == 0) = false := by simp; omega
        have u1 : ((kd : Int) == 1) = true := by simp; omega
        have hS : fixS.length = 288 := by simp [fixS]
        have hD : fixD.length = 30 := by simp [fixD]
        have HLS := keepf hS
        have HLD := keepf hD
        have HRUN := keepf hrun
        clear hrun HQ hS hD
        go_wp2_with (first
          | (go_at_call 36; refine (rfixed_any _).mono ?_; rintro e w5 ⟨A5, B5, c5, d5, rfl, hoA5, hoB5, hc5⟩; have HOA5 := keepf hoA5; have HOB5 := keepf hoB5; have HR5 := keepf (HR4.out.no hc5); have HM5 := keepf (HM4.out.news hc5); clear hoA5 hoB5 hc5
             have HCO := keepf (rcoded_ok g (a1 + 3) most x b bs out1 r V So1 w5 fixS fixD A5 B5 c5 d5 HR5.out fixS_may fixD_may
               (fun W hW => by unfold LRow; rw [HLS.out]; exact src_own (HR5.out.stay hW HOA5.out (by decide) (by decide)))
               (fun W hW => by unfold LRow; rw [HLD.out]; exact src_own (HR5.out.stay hW HOB5.out (by decide) (by decide))) HRUN.out)
             rw [HLS.out, HLD.out] at HCO)
          | (go_at_call 37; refine HCO.out.mono ?_; rintro e w6 ⟨a5, out5, So5, rfl, hr6, hm6, hrn5, ha5⟩; have HR6 := keepf hr6; have HM6 := keepf (HM5.out.trans hm6); have HRN5 := keepf (runs_end hrn5); have HA5 := keepf ha5; clear hr6 hm6 hrn5 ha5))
        go_roundw
        case rel => exact ⟨x, k + 1, a5, out5, So5, by have := HA5.out; omega, by omega, rfl, by go_num, HR6.out, HM6.out, HRN5.out⟩
        case measure => simp [intOf]; omega
      · have u0 : ((kd : Int) == 0) = false := by simp; omega
        have u1 : ((kd : Int) == 1) = false := by simp; omega
        have u2 : ((kd : Int) == 2) = true := by simp; omega
        have HST := keepf (rdynamic_ok g (a1 + 3) most x b bs out1 r V So1 w4 HR4.out hrun)
        clear hrun HQ
        go_wp2_with (go_at_call 38; refine HST.out.mono ?_; rintro e w5 ⟨a5, out5, So5, rfl, hr5, hm5, hrn5, ha5⟩; have HR5 := keepf hr5; have HM5 := keepf (HM4.out.trans hm5); have HRN5 := keepf (runs_end hrn5); have HA5 := keepf ha5; clear hr5 hm5 hrn5 ha5)
        go_roundw
        case rel => exact ⟨x, k + 1, a5, out5, So5, by have := HA5.out; omega, by omega, rfl, by go_num, HR5.out, HM5.out, HRN5.out⟩
        case measure => simp [intOf]; omega
    · have ul : ((l : Int) == 0) = false := by simp; omega
      subst hrr
      subst hba
      obtain ⟨Ao, co, rfl, _⟩ := own_slice HRW.out.own
      have e1 := HRW.out.blk.cell 1
      have e3 := HRW.out.blk.cell 3
      simp at e1 e3
      have hw7 : IntKind.i64.wrap ((b : Int) + 7) = (b : Int) + 7 := by rw [IntKind.wrap_i64]; omega
      go_upto_region 21 with fail
      go_quiet (fail)
      go_wp2_with fail
      go_ret3
      refine ⟨Ao, co, by congr 1, own_drewN HRW.out.own nq, (rm_new HC2.out HG.out HMW.out).drewN nq, ?_⟩
      rintro x rfl
      have hs := HC2.out.size
      refine Nat.le_of_not_lt (fun hlt => ?_)
      have h := HMW.out.2 x.block (by omega) (by simp [Value.ownBlock])
      simp [Value.ownBlock] at h
end Go.Proofs.YtmmilchmnimjoaaGreat
