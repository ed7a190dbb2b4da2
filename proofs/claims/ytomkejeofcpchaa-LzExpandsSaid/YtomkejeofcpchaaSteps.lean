/- steps: for each place how far ahead the same three bytes stand last. -/
import Derived.Test.YtomkejeofcpchaaStepM
import Derived.OwnWalk
namespace Go.Proofs.Ytomkejeofcpchaa
open Go.RowKit
set_option linter.unusedVariables false
set_option linter.unusedSimpArgs false

theorem info_u16 : (Try.prog.info? 49).map (fun i => (i.zero, i.size, i.bytes)) = some (some (.int .u16 0), 1, 2) := by kernel_rfl

def StepsTo (w : World) (bs : List Nat) (n : Nat) (e : Ending) (w' : World) : Prop :=
  ∃ go f, e = .returned (.slice (some ⟨go, 0, none⟩) n n) ∧ SRow w' (.slice (some ⟨go, 0, none⟩) n n) n f ∧ StepsOk bs f ∧ Chg NoS w w' ∧ w.heap.size ≤ go

/-- What a loop of steps carries. -/
structure StLoop (w wr : World) (bs : List Nat) (n go k base b1 b2 : Nat) (f1 f2 : Nat → Option Nat) (g : Nat → Nat) : Prop where
  m1 : MapIs wr b1 k f1
  m2 : MapIs wr b2 k f2
  ne : b1 ≠ b2
  n1 : b1 ≠ go
  n2 : b2 ≠ go
  l1 : w.heap.size ≤ b1
  l2 : w.heap.size ≤ b2
  lg : w.heap.size ≤ go
  row : SRow wr (.slice (some ⟨go, 0, none⟩) n n) n g
  chg : Chg NoS w wr

theorem StLoop.turn {w wr w' : World} {bs : List Nat} {n go k base base' b1 b2 m : Nat} {f1 f2 f : Nat → Option Nat} {g : Nat → Nat} (h : StLoop w wr bs n go k base b1 b2 f1 f2 g) (hm : MapIs w' b1 m f) (hk : m ≤ k) (hg : wr.grownBy w' (some b1)) :
    StLoop w w' bs n go k base' b1 b2 f f2 g := by
  have hc : Chg (fun i => i = b1) wr w' := (Chg.refl _ _).grown hg (fun k e _ => by injection e with e; exact e.symm)
  exact ⟨hm.mono hk, h.m2.chg hc (fun e => h.ne e.symm), h.ne, h.n1, h.n2, h.l1, h.l2, h.lg, own_chg h.row hc (fun i hi e => h.n1 (by injection hi with hi; have hi : go = i := hi; omega)), h.chg.trans hc (fun i hi e => by have := h.l1; omega)⟩
theorem StLoop.swap {w wr : World} {bs : List Nat} {n go k base b1 b2 : Nat} {f1 f2 : Nat → Option Nat} {g : Nat → Nat} (h : StLoop w wr bs n go k base b1 b2 f1 f2 g) : StLoop w wr bs n go k base b2 b1 f2 f1 g :=
  ⟨h.m2, h.m1, fun e => h.ne e.symm, h.n2, h.n1, h.l2, h.l1, h.lg, h.row, h.chg⟩
theorem StLoop.drewN {w wr : World} {bs : List Nat} {n go k base b1 b2 : Nat} {f1 f2 : Nat → Option Nat} {g : Nat → Nat} (h : StLoop w wr bs n go k base b1 b2 f1 f2 g) (q : Nat) : StLoop w (wr.drewN q) bs n go k base b1 b2 f1 f2 g :=
  ⟨h.m1.chg ((Chg.refl NoS _).drewN q) (fun h => h), h.m2.chg ((Chg.refl NoS _).drewN q) (fun h => h), h.ne, h.n1, h.n2, h.l1, h.l2, h.lg, own_drewN h.row q, h.chg.drewN q⟩
theorem StLoop.store {w wr : World} {bs : List Nat} {n go k base b1 b2 : Nat} {f1 f2 : Nat → Option Nat} {g : Nat → Nat} (h : StLoop w wr bs n go k base b1 b2 f1 f2 g) (p r : Nat) :
    StLoop w (wr.setCell ⟨go, p, none⟩ (.int .u16 (r : Nat))) bs n go k base b1 b2 f1 f2 (fun i => if i = p then r else g i) := by
  have hc : Chg (fun i => i = go) wr (wr.setCell ⟨go, p, none⟩ (.int .u16 (r : Nat))) := (Chg.refl (fun i => i = go) _).setCell (p := ⟨go, p, none⟩) (fun _ => rfl) _
  exact ⟨h.m1.chg hc h.n1, h.m2.chg hc h.n2, h.ne, h.n1, h.n2, h.l1, h.l2, h.lg, h.row.set_ p r, h.chg.trans hc (fun i hi e => by have := h.lg; omega)⟩
theorem Mid.none {bs : List Nat} {k base : Nat} {f1 f2 : Nat → Option Nat} {g : Nat → Nat} (h : Mid bs k base f1 f2 g) : (fun i => if i = k then 0 else g i) = g := by
  funext i
  split
  · subst_vars; exact (h.g2 _ (Nat.le_refl _)).symm
  · rfl
/-- Into the next round. -/
theorem StLoop.next {w wr w' : World} {bs : List Nat} {n go k base b1 b2 x : Nat} {f1 f2 : Nat → Option Nat} {g : Nat → Nat} (h : StLoop w wr bs n go k base b1 b2 f1 f2 g) (hm : MapIs w' b1 (k + 1) (setF f1 x k)) (hg : wr.grownBy w' (some b1)) :
    StLoop w w' bs n go (k + 1) base b1 b2 (setF f1 x k) f2 g := by
  have hc : Chg (fun i => i = b1) wr w' := (Chg.refl _ _).grown hg (fun k e _ => by injection e with e; exact e.symm)
  exact ⟨hm, (h.m2.chg hc (fun e => h.ne e.symm)).mono (by omega), h.ne, h.n1, h.n2, h.l1, h.l2, h.lg, own_chg h.row hc (fun i hi e => h.n1 (by injection hi with hi; have hi : go = i := hi; omega)), h.chg.trans hc (fun i hi e => by have := h.l1; omega)⟩
theorem StLoop.same {w wr : World} {bs : List Nat} {n go k base b1 b2 : Nat} {f1 f2 : Nat → Option Nat} {g g' : Nat → Nat} (h : StLoop w wr bs n go k base b1 b2 f1 f2 g) (e : ∀ i, g i = g' i) : StLoop w wr bs n go k base b1 b2 f1 f2 g' := by
  obtain rfl : g = g' := funext e
  exact h

set_option maxHeartbeats 1000000 in
theorem steps_any (bs : List Nat) (A : Option Addr) (c : Nat) (w : World) (hS : Src w 1 A bs.length c (ocells bs)) (hl : bs.length ≤ 16777216) (hg : ∀ b ∈ bs, b < 256) :
    Calls Try.prog 21 #[.slice A bs.length c] w (StepsTo w bs bs.length) := by
  have H3 := keepf (fun (W : World) (p : Nat) (hS : Src W 1 A bs.length c (ocells bs)) (hp : p + 2 < bs.length) => three_any bs A c p W hS (by unfold maxLen; omega) hp hg)
  have HG := keepf hg
  have HS := keepf hS
  obtain ⟨n, hn⟩ : ∃ n, n = bs.length := ⟨_, rfl⟩
  have HN := keepf hn
  rw [← hn] at hl H3 HS ⊢
  clear hS hg hn
  obtain ⟨i0, hi, hz0, hz1, hz2⟩ := info_parts info_u16
  have hmm := @run_makeMap Try.prog
  go_enter Try.func21, Try.ntmps21
  go_wp2_with (first
    | (at_make; go_loud (refine wpList_make_full _ rfl (.tmp 11) (.tmp 11) 54 rfl 0 49 i0 (.int .u16 0) 1 Try.underlying54 hi hz0 hz1 .i64 .i64 _ _ n rfl rfl rfl rfl (by rw [hz2]; omega) (by unfold maxLen; omega) (Nat.zero_le _) ?_); intro w2 hown2 hgr; have HO2 := keepf hown2; have HG2 := keepf hgr; clear hown2 hgr))
  have HL := keepf (show StLoop w ((w2.alloc (.map #[] 0)).alloc (.map #[] 0)) bs n w.heap.size 0 0 w2.heap.size (w2.heap.size + 1) (fun _ => none) (fun _ => none) (fun _ => 0) by
    have hsz := HG2.out.size
    have hlt : w.heap.size < w2.heap.size := own_lt HO2.out rfl
    refine ⟨(MapIs.made w2 (.map #[] 0) _ rfl).chg ((Chg.refl NoS _).alloc _) (fun h => h), MapIs.made _ (.map #[] 0) _ (by simp), by omega, by omega, by omega, by omega, by omega, Nat.le_refl _, ?_, ?_⟩
    · have h := HO2.out
      rw [srow_zero] at h
      exact own_chg (S := NoS) h (((Chg.refl NoS _).alloc _).alloc _) (fun _ _ h => h)
    · exact ((((Chg.refl NoS w).grown HG2.out (fun k e _ => by cases e)).alloc _).alloc _))
  obtain ⟨go, hgo⟩ : ∃ go, go = w.heap.size := ⟨_, rfl⟩
  rw [← hgo] at HL ⊢
  clear hgo HO2 HG2 hi hz0 hz1 hz2
  go_loopw [4, 5, 19] (fun v1 v2 vi wr => ∃ k base b1 b2 : Nat, ∃ f1 f2 : Nat → Option Nat, ∃ g : Nat → Nat, k ≤ n - 2 ∧ vi = .int .i64 k ∧ v1 = .map (some b1) ∧ v2 = .map (some b2) ∧ Hid (StLoop w wr bs n go k base b1 b2 f1 f2 g) ∧ Hid (Hd bs k base f1 f2 g)) (fun _ _ vi _ => n - (intOf vi).toNat)
  case atStart => exact ⟨0, 0, _, _, _, _, _, Nat.zero_le _, rfl, rfl, rfl, HL.out, hd_start bs⟩
  case round =>
    clear HL
    obtain ⟨k, hrel⟩ := hrel
    by_cases hlt : (k : Int) < (n : Int) - 3 + 1
    · by_cases hrot : k % 32768 = 0
      · obtain ⟨base, c2, c1, F2, F0, g, hk, rfl, rfl, rfl, HLP, HHD⟩ := hrel
        have HM := keepf (HHD.out.rot hrot)
        have r1 : ((k : Int) % 32768 == 0) = true := by simp; omega
        have hxl := three_lt HG.out k
        have HC3 := keepf (fun (W : World) (h : Src W 1 A n c (ocells bs)) => H3.out W k h (by omega))
        obtain ⟨x, hx⟩ : ∃ x, threeOf bs k = x := ⟨_, rfl⟩
        rw [hx] at HC3 hxl
        have HX := keepf hx
        have hkn : k < n := by omega
        have hkN : (k : Int) < n := by omega
        clear hrot HHD hx
        rcases hf2 : F2 x with _ | u
        · have HF := keepf hf2
          have HU := keepf (HM.out.far (rfl) (fun v hv => by rw [HX.out, hf2] at hv; cases hv))
          clear hf2
          go_wp2_with (first
            | (refine wpList_clear rfl (.tmp 27) rfl c1 k F0 rfl HLP.out.swap.m1 ?_; intro w5 hm5 hg5; have HL5 := keepf (HLP.out.swap.turn (base' := k) hm5 (Nat.zero_le _) hg5); clear hm5 hg5; have hro := HL5.out.row.cellAt k (by omega); rw [srow_at (by omega)] at hro; have hfr := HL5.out.row.frozenAt k)
            | (go_at_call 24; refine (HC3.out _ (Src.below (w0 := w) HS.out HL5.out.chg)).mono ?_; rintro e w3 ⟨rfl, q, rfl⟩; have HLQ := keepf (HL5.out.drewN q))
            | (at_lookup; refine wpList_look_none rfl (.tmp 32) (.tmp 33) rfl c1 k (fun _ => none) x rfl HLQ.out.m1 rfl (by omega) rfl ?_)
            | (at_lookup; refine wpList_look_none rfl (.tmp 40) (.tmp 41) rfl c2 k F2 x rfl HLQ.out.m2 rfl (by omega) HF.out ?_)
            | (at_mapUpdate; refine wpList_store rfl (.tmp 59) (.tmp 60) (.tmp 61) rfl c1 k (fun _ => none) x k rfl HLQ.out.m1 rfl rfl (by omega) (by omega) (by unfold maxLen; omega) ?_; intro w4 hm4 hg4; have HM4 := keepf hm4; have HG4 := keepf hg4; clear hm4 hg4))
          go_roundw
          case rel =>
            refine ⟨k + 1, k, c1, c2, setF (fun _ => none) x k, F2, g, by omega, by go_num, rfl, rfl, HLQ.out.next HM4.out HG4.out, ?_⟩
            have h := HM.out.next (r := 0) HU.out
            rw [HX.out, HM.out.none] at h
            exact h
          case measure => simp [intOf]; omega
        · have hu := HM.out.two (u := u) (by rw [HX.out]; exact hf2)
          by_cases hfar : k - u ≤ 32768
          · have HF := keepf hf2
            have HU := keepf (hu.2 hfar)
            have hu1 := hu.1
            have hu2 := hfar
            obtain ⟨r, hr⟩ : ∃ r, r = k - u := ⟨_, rfl⟩
            have hr1 : (k : Int) - u = r := by omega
            rw [← hr] at HU hu2
            have hr2 : (r : Int) ≤ 32768 := by omega
            clear hu hf2 hr hfar
            go_wp2_with (first
              | (refine wpList_clear rfl (.tmp 27) rfl c1 k F0 rfl HLP.out.swap.m1 ?_; intro w5 hm5 hg5; have HL5 := keepf (HLP.out.swap.turn (base' := k) hm5 (Nat.zero_le _) hg5); clear hm5 hg5; have hro := HL5.out.row.cellAt k (by omega); rw [srow_at (by omega)] at hro; have hfr := HL5.out.row.frozenAt k)
              | (go_at_call 24; refine (HC3.out _ (Src.below (w0 := w) HS.out HL5.out.chg)).mono ?_; rintro e w3 ⟨rfl, q, rfl⟩; have HLQ := keepf (HL5.out.drewN q))
              | (at_lookup; refine wpList_look_none rfl (.tmp 32) (.tmp 33) rfl c1 k (fun _ => none) x rfl HLQ.out.m1 rfl (by omega) rfl ?_)
              | (at_lookup; refine wpList_look_some rfl (.tmp 40) (.tmp 41) rfl c2 k F2 x u rfl HLQ.out.m2 rfl (by omega) HF.out ?_)
              | (at_mapUpdate; refine wpList_store rfl (.tmp 59) (.tmp 60) (.tmp 61) rfl c1 k (fun _ => none) x k rfl (HLQ.out.store k r).m1 rfl rfl (by omega) (by omega) (by unfold maxLen; omega) ?_; intro w4 hm4 hg4; have HM4 := keepf hm4; have HG4 := keepf hg4; clear hm4 hg4))
            go_roundw
            case rel =>
              refine ⟨k + 1, k, c1, c2, setF (fun _ => none) x k, F2, (fun i => if i = k then r else g i), by omega, by go_num, rfl, rfl, (HLQ.out.store k r).next HM4.out HG4.out, ?_⟩
              have h := HM.out.next (r := r) HU.out
              rw [HX.out] at h
              exact h
            case measure => simp [intOf]; omega
          · have HF := keepf hf2
            have hu1 := hu.1
            have hfar2 : 32768 < k - u := by omega
            have HU := keepf (HM.out.far (rfl) (fun v hv => by rw [HX.out, hf2] at hv; injection hv with hv; omega))
            have d1 : ¬ ((k : Int) - u ≤ 32768) := by omega
            clear hu hf2 hfar hfar2
            go_wp2_with (first
              | (refine wpList_clear rfl (.tmp 27) rfl c1 k F0 rfl HLP.out.swap.m1 ?_; intro w5 hm5 hg5; have HL5 := keepf (HLP.out.swap.turn (base' := k) hm5 (Nat.zero_le _) hg5); clear hm5 hg5; have hro := HL5.out.row.cellAt k (by omega); rw [srow_at (by omega)] at hro; have hfr := HL5.out.row.frozenAt k)
              | (go_at_call 24; refine (HC3.out _ (Src.below (w0 := w) HS.out HL5.out.chg)).mono ?_; rintro e w3 ⟨rfl, q, rfl⟩; have HLQ := keepf (HL5.out.drewN q))
              | (at_lookup; refine wpList_look_none rfl (.tmp 32) (.tmp 33) rfl c1 k (fun _ => none) x rfl HLQ.out.m1 rfl (by omega) rfl ?_)
              | (at_lookup; refine wpList_look_some rfl (.tmp 40) (.tmp 41) rfl c2 k F2 x u rfl HLQ.out.m2 rfl (by omega) HF.out ?_)
              | (at_mapUpdate; refine wpList_store rfl (.tmp 59) (.tmp 60) (.tmp 61) rfl c1 k (fun _ => none) x k rfl HLQ.out.m1 rfl rfl (by omega) (by omega) (by unfold maxLen; omega) ?_; intro w4 hm4 hg4; have HM4 := keepf hm4; have HG4 := keepf hg4; clear hm4 hg4))
            go_roundw
            case rel =>
              refine ⟨k + 1, k, c1, c2, setF (fun _ => none) x k, F2, g, by omega, by go_num, rfl, rfl, HLQ.out.next HM4.out HG4.out, ?_⟩
              have h := HM.out.next (r := 0) HU.out
              rw [HX.out, HM.out.none] at h
              exact h
            case measure => simp [intOf]; omega
      · obtain ⟨base, c1, c2, F1, F2, g, hk, rfl, rfl, rfl, HLP, HHD⟩ := hrel
        have HM := keepf (HHD.out.mid hrot)
        have r1 : ((k : Int) % 32768 == 0) = false := by simp; omega
        have hxl := three_lt HG.out k
        have HC3 := keepf (fun (W : World) (h : Src W 1 A n c (ocells bs)) => H3.out W k h (by omega))
        obtain ⟨x, hx⟩ : ∃ x, threeOf bs k = x := ⟨_, rfl⟩
        rw [hx] at HC3 hxl
        have HX := keepf hx
        have hkn : k < n := by omega
        have hkN : (k : Int) < n := by omega
        clear hrot HHD hx
        rcases hf1 : F1 x with _ | u
        · have HF1 := keepf hf1
          clear hf1
          rcases hf2 : F2 x with _ | u
          · have HF := keepf hf2
            have HU := keepf (HM.out.far (by rw [HX.out]; exact HF1.out) (fun v hv => by rw [HX.out, hf2] at hv; cases hv))
            clear hf2
            go_wp2_with (first
              | (go_at_call 24; refine (HC3.out _ (Src.below (w0 := w) HS.out HLP.out.chg)).mono ?_; rintro e w3 ⟨rfl, q, rfl⟩; have HLQ := keepf (HLP.out.drewN q))
              | (at_lookup; refine wpList_look_none rfl (.tmp 32) (.tmp 33) rfl c1 k F1 x rfl HLQ.out.m1 rfl (by omega) HF1.out ?_)
              | (at_lookup; refine wpList_look_none rfl (.tmp 40) (.tmp 41) rfl c2 k F2 x rfl HLQ.out.m2 rfl (by omega) HF.out ?_)
              | (at_mapUpdate; refine wpList_store rfl (.tmp 59) (.tmp 60) (.tmp 61) rfl c1 k F1 x k rfl HLQ.out.m1 rfl rfl (by omega) (by omega) (by unfold maxLen; omega) ?_; intro w4 hm4 hg4; have HM4 := keepf hm4; have HG4 := keepf hg4; clear hm4 hg4))
            go_roundw
            case rel =>
              refine ⟨k + 1, base, c1, c2, setF F1 x k, F2, g, by omega, by go_num, rfl, rfl, HLQ.out.next HM4.out HG4.out, ?_⟩
              have h := HM.out.next (r := 0) HU.out
              rw [HX.out, HM.out.none] at h
              exact h
            case measure => simp [intOf]; omega
          · have hu := HM.out.two (u := u) (by rw [HX.out]; exact hf2)
            by_cases hfar : k - u ≤ 32768
            · have HF := keepf hf2
              have HU := keepf (hu.2 hfar)
              have hu1 := hu.1
              have hu2 := hfar
              obtain ⟨r, hr⟩ : ∃ r, r = k - u := ⟨_, rfl⟩
              have hr1 : (k : Int) - u = r := by omega
              rw [← hr] at HU hu2
              have hr2 : (r : Int) ≤ 32768 := by omega
              have hro := HLP.out.row.cellAt k (by omega)
              rw [srow_at (by omega)] at hro
              have hfr := HLP.out.row.frozenAt k
              clear hu hf2 hr hfar
              go_wp2_with (first
                | (go_at_call 24; refine (HC3.out _ (Src.below (w0 := w) HS.out HLP.out.chg)).mono ?_; rintro e w3 ⟨rfl, q, rfl⟩; have HLQ := keepf (HLP.out.drewN q))
                | (at_lookup; refine wpList_look_none rfl (.tmp 32) (.tmp 33) rfl c1 k F1 x rfl HLQ.out.m1 rfl (by omega) HF1.out ?_)
                | (at_lookup; refine wpList_look_some rfl (.tmp 40) (.tmp 41) rfl c2 k F2 x u rfl HLQ.out.m2 rfl (by omega) HF.out ?_)
                | (at_mapUpdate; refine wpList_store rfl (.tmp 59) (.tmp 60) (.tmp 61) rfl c1 k F1 x k rfl (HLQ.out.store k r).m1 rfl rfl (by omega) (by omega) (by unfold maxLen; omega) ?_; intro w4 hm4 hg4; have HM4 := keepf hm4; have HG4 := keepf hg4; clear hm4 hg4))
              go_roundw
              case rel =>
                refine ⟨k + 1, base, c1, c2, setF F1 x k, F2, (fun i => if i = k then r else g i), by omega, by go_num, rfl, rfl, (HLQ.out.store k r).next HM4.out HG4.out, ?_⟩
                have h := HM.out.next (r := r) HU.out
                rw [HX.out] at h
                exact h
              case measure => simp [intOf]; omega
            · have HF := keepf hf2
              have hu1 := hu.1
              have hfar2 : 32768 < k - u := by omega
              have HU := keepf (HM.out.far (by rw [HX.out]; exact HF1.out) (fun v hv => by rw [HX.out, hf2] at hv; injection hv with hv; omega))
              have d1 : ¬ ((k : Int) - u ≤ 32768) := by omega
              clear hu hf2 hfar hfar2
              go_wp2_with (first
                | (go_at_call 24; refine (HC3.out _ (Src.below (w0 := w) HS.out HLP.out.chg)).mono ?_; rintro e w3 ⟨rfl, q, rfl⟩; have HLQ := keepf (HLP.out.drewN q))
                | (at_lookup; refine wpList_look_none rfl (.tmp 32) (.tmp 33) rfl c1 k F1 x rfl HLQ.out.m1 rfl (by omega) HF1.out ?_)
                | (at_lookup; refine wpList_look_some rfl (.tmp 40) (.tmp 41) rfl c2 k F2 x u rfl HLQ.out.m2 rfl (by omega) HF.out ?_)
                | (at_mapUpdate; refine wpList_store rfl (.tmp 59) (.tmp 60) (.tmp 61) rfl c1 k F1 x k rfl HLQ.out.m1 rfl rfl (by omega) (by omega) (by unfold maxLen; omega) ?_; intro w4 hm4 hg4; have HM4 := keepf hm4; have HG4 := keepf hg4; clear hm4 hg4))
              go_roundw
              case rel =>
                refine ⟨k + 1, base, c1, c2, setF F1 x k, F2, g, by omega, by go_num, rfl, rfl, HLQ.out.next HM4.out HG4.out, ?_⟩
                have h := HM.out.next (r := 0) HU.out
                rw [HX.out, HM.out.none] at h
                exact h
              case measure => simp [intOf]; omega
        · have hu := HM.out.one (u := u) (by rw [HX.out]; exact hf1)
          have HU := keepf hu.2.2
          have hu1 := hu.1
          have hu2 := hu.2.1
          have HF := keepf hf1
          obtain ⟨r, hr⟩ : ∃ r, r = k - u := ⟨_, rfl⟩
          have hr1 : (k : Int) - u = r := by omega
          rw [← hr] at HU hu2
          have hr2 : (r : Int) ≤ 32768 := by omega
          have hro := HLP.out.row.cellAt k (by omega)
          rw [srow_at (by omega)] at hro
          have hfr := HLP.out.row.frozenAt k
          clear hu hf1 hr
          go_wp2_with (first
            | (go_at_call 24; refine (HC3.out _ (Src.below (w0 := w) HS.out HLP.out.chg)).mono ?_; rintro e w3 ⟨rfl, q, rfl⟩; have HLQ := keepf (HLP.out.drewN q))
            | (at_lookup; refine wpList_look_some rfl (.tmp 32) (.tmp 33) rfl c1 k F1 x u rfl HLQ.out.m1 rfl (by omega) HF.out ?_)
            | (at_mapUpdate; refine wpList_store rfl (.tmp 59) (.tmp 60) (.tmp 61) rfl c1 k F1 x k rfl (HLQ.out.store k r).m1 rfl rfl (by omega) (by omega) (by unfold maxLen; omega) ?_; intro w4 hm4 hg4; have HM4 := keepf hm4; have HG4 := keepf hg4; clear hm4 hg4))
          go_roundw
          case rel =>
            refine ⟨k + 1, base, c1, c2, setF F1 x k, F2, (fun i => if i = k then r else g i), by omega, by go_num, rfl, rfl, (HLQ.out.store k r).next HM4.out HG4.out, ?_⟩
            have h := HM.out.next (r := r) HU.out
            rw [HX.out] at h
            exact h
          case measure => simp [intOf]; omega
    · obtain ⟨base, c1, c2, F1, F2, g, hk, rfl, rfl, rfl, HLP, HHD⟩ := hrel
      have HK := keepf (show k = bs.length - 2 by have := HN.out; omega)
      go_wp2_with fail
      go_ret
      exact ⟨go, g, rfl, HLP.out.row, HHD.out.done HK.out, HLP.out.chg, HLP.out.lg⟩
end Go.Proofs.Ytomkejeofcpchaa
