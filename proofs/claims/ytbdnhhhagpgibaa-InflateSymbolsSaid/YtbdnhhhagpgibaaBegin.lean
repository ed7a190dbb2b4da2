/- What begin and number do to a table. -/
import Derived.Test.YtbdnhhhagpgibaaTab
namespace Go.Proofs.Ytbdnhhhagpgibaa
open Go.RowKit
set_option linter.unusedVariables false
set_option linter.unusedSimpArgs false

theorem size_row : (Try.prog.info? 106).map (·.size) = some 3 := by kernel_rfl

/-- A row as three cells. -/
def rowCells (f m a : Nat) : Array Value := #[.int .u32 (f : Nat), .int .u32 (m : Nat), .int .i64 (a : Nat)]
theorem rowCells_one (f m a : Nat) : (rowCells f m a).all (·.oneCell') = true := by simp [rowCells, Value.oneCell']
theorem row_range {w : World} {g : Nat} {T : Array Value} {t : TypeId} {n d : Nat} {L : Nat → Int} {C f m a S : Nat → Nat} (hB : Blk w g t T) (h : TabIs T n d L C f m a S) (i : Nat) (hi : i < 16) :
    w.rangeAt g (643 + i * 3) (rowCells (f i) (m i) (a i)).toList := by
  intro j v hv
  have hc := hB.cell (643 + i * 3 + j)
  rw [hc]
  match j, hv with
  | 0, hv => simp [rowCells] at hv; subst hv; exact h.r0 i hi
  | 1, hv => simp [rowCells] at hv; subst hv; exact h.r1 i hi
  | 2, hv => simp [rowCells] at hv; subst hv; exact h.r2 i hi
  | j + 3, hv => simp [rowCells] at hv

set_option maxHeartbeats 2000000 in
set_option maxRecDepth 100000 in
theorem begin_any (g : Nat) (T : Array Value) (n : Nat) (L : Nat → Int) (C m S : Nat → Nat) (w : World) (hB : Blk w g 110 T) (hT : TabIs T n 0 L C (fun _ => 0) m (fun _ => 0) S)
    (hf : ∀ i, i < 16 → fst m i + m i ≤ 65536) (ha : ∀ i, i ≤ 16 → att m i ≤ 65536) :
    Calls Try.prog 68 #[.pointer (some ⟨g, 0, none⟩)] w fun e w' => e = .returned (.tuple #[]) ∧ ∃ T', Blk w' g 110 T' ∧ TabIs T' n (deepU m 16) L C (fst m) m (att m) S ∧ Chg (fun i => i = g) w w' := by
  have HB := keepf hB
  have HT := keepf hT
  have HF := keepf hf
  have HA := keepf ha
  clear hB hT hf ha
  have HG : Hid (g < w.heap.size) := HB.out.lt
  go_enter Try.func68, Try.ntmps68
  go_wp2_with fail
  have hb2 := Blk.new w 106 (rowCells 0 0 0)
  have hch := (Chg.refl (fun i => i = g) w).alloc (.cells (rowCells 0 0 0) 106)
  have hbt := HB.out.alloc (.cells (rowCells 0 0 0) 106)
  change Code.wp _ _ _ _ (w.alloc (.cells (rowCells 0 0 0) 106))
  generalize w.alloc (.cells (rowCells 0 0 0) 106) = w1 at *
  obtain ⟨g2, hg2⟩ : ∃ g2, g2 = w.heap.size := ⟨_, rfl⟩
  rw [← hg2] at hb2 HG ⊢
  have HG2 := keepf hg2
  have HB2 := keepf hb2
  have HCH := keepf hch
  have HBT := keepf hbt
  clear hg2 hb2 hch hbt
  have hne : g2 ≠ g := by have := HG.out; omega
  have hne2 : g ≠ g2 := by have := HG.out; omega
  go_loopw [6] (fun i wr => ∃ k p q r : Nat, ∃ T : Array Value, k ≤ 16 ∧ p ≤ 65536 ∧ q ≤ 65536 ∧ p + q ≤ 65536 ∧ r ≤ 65536 ∧ i = .int .i64 k ∧ Hid ((p + q) * 2 = fst m k ∧ r + q = att m k) ∧ Hid (TabIs T n (deepU m k) L C (fun i => if i < k then fst m i else 0) m (fun i => if i < k then att m i else 0) S) ∧ Blk wr g 110 T ∧ Blk wr g2 106 (rowCells p q r) ∧ Chg (fun i => i = g) w wr) (fun i _ => 16 - (intOf i).toNat)
  case atStart => exact ⟨0, 0, 0, 0, T, by omega, by omega, by omega, by omega, by omega, rfl, ⟨rfl, rfl⟩, HT.out.congr rfl rfl (fun _ _ => rfl) (fun _ _ => rfl) (fun i _ => by simp) (fun _ _ => rfl) (fun i _ => by simp) (fun _ _ => rfl), HBT.out, HB2.out, HCH.out⟩
  case round =>
    clear HB HT HB2 HCH HBT
    obtain ⟨k, p, q, r, T, hk, hp, hq, hpq, hr, rfl, hI, hT, hB, hB2, hch⟩ := hrel
    have a0 := hB2.cell 0
    have a1 := hB2.cell 1
    have a2 := hB2.cell 2
    simp [rowCells] at a0 a1 a2
    have HBk := keepf hB
    have HB2 := keepf hB2
    have HCh := keepf hch
    clear hB hB2 hch
    by_cases hlt : k < 16
    · have t0 : wr.cell? ⟨g, 643 + k * 3, none⟩ = some (.int .u32 0) := by rw [HBk.out.cell, hT.out.r0 k hlt]; simp
      have t1 : wr.cell? ⟨g, 643 + k * 3 + 1, none⟩ = some (.int .u32 (m k : Nat)) := by rw [HBk.out.cell, hT.out.r1 k hlt]
      have t2 : wr.cell? ⟨g, 643 + k * 3 + 2, none⟩ = some (.int .i64 0) := by rw [HBk.out.cell, hT.out.r2 k hlt]; simp
      have t3 : wr.cell? ⟨g, 2, none⟩ = some (.int .i64 (deepU m k : Nat)) := by rw [HBk.out.cell, hT.out.deep]
      have f0 := HBk.out.frozen (643 + k * 3)
      have f2 := HBk.out.frozen (643 + k * 3 + 2)
      go_upto_region 7 with fail
      have hb := (HBk.out.set_ (643 + k * 3) (.int .u32 (((p : Int) + q) * 2))).set_ (643 + k * 3 + 2) (.int .i64 ((r : Int) + q))
      have hc := (HCh.out.setCell (p := ⟨g, 643 + k * 3, none⟩) (fun _ => rfl) (.int .u32 (((p : Int) + q) * 2))).setCell (p := ⟨g, 643 + k * 3 + 2, none⟩) (fun _ => rfl) (.int .i64 ((r : Int) + q))
      have hb2 := (HB2.out.far (p := ⟨g, 643 + k * 3, none⟩) hne (.int .u32 (((p : Int) + q) * 2))).far (p := ⟨g, 643 + k * 3 + 2, none⟩) hne (.int .i64 ((r : Int) + q))
      have ht := (hT.out.set_r0 k ((p + q) * 2) hlt).set_r2 k (r + q) hlt
      rw [show (((p + q) * 2 : Nat) : Int) = ((p : Int) + q) * 2 from by omega, show ((r + q : Nat) : Int) = (r : Int) + q from by omega] at ht
      generalize (wr.setCell ⟨g, 643 + k * 3, none⟩ (.int .u32 (((p : Int) + q) * 2))).setCell ⟨g, 643 + k * 3 + 2, none⟩ (.int .i64 ((r : Int) + q)) = w2 at *
      generalize (T.setIfInBounds (643 + k * 3) (.int .u32 (((p : Int) + q) * 2))).setIfInBounds (643 + k * 3 + 2) (.int .i64 ((r : Int) + q)) = T2 at *
      rw [hI.out.1, hI.out.2] at ht
      have hT2 : TabIs T2 n (deepU m k) L C (fun i => if i < k + 1 then fst m i else 0) m (fun i => if i < k + 1 then att m i else 0) S := ht.congr rfl rfl (fun _ _ => rfl) (fun _ _ => rfl)
        (fun i _ => by
          by_cases e : i = k
          · subst e; simp
          · simp only [e, if_false]; by_cases e2 : i < k
            · rw [if_pos e2, if_pos (by omega)]
            · rw [if_neg e2, if_neg (by omega)]) (fun _ _ => rfl)
        (fun i _ => by
          by_cases e : i = k
          · subst e; simp
          · simp only [e, if_false]; by_cases e2 : i < k
            · rw [if_pos e2, if_pos (by omega)]
            · rw [if_neg e2, if_neg (by omega)]) (fun _ _ => rfl)
      clear ht a0 a1 a2 t0 t1 t2 t3 f0 f2 hT
      have HT2 := keepf hT2
      have HBb := keepf hb
      have HCc := keepf hc
      have HBb2 := keepf hb2
      clear hT2 hb hc hb2 HBk HCh HB2
      have t1 : w2.cell? ⟨g, 643 + k * 3 + 1, none⟩ = some (.int .u32 (m k : Nat)) := by rw [HBb.out.cell, HT2.out.r1 k hlt]
      have hfk := HF.out k hlt
      have hak := HA.out (k + 1) (by omega)
      by_cases hm : m k = 0
      · have hdm : deepU m (k + 1) = deepU m k := by rw [deepU, if_neg (by omega)]
        rw [hm] at t1
        have HR : Hid (w2.rangeAt g (643 + k * 3) (rowCells (fst m k) (m k) (att m k)).toList) := by
          have := row_range HBb.out HT2.out k hlt
          simp only [Nat.lt_add_one, if_true] at this
          exact this
        have HM := keepf hm
        have HD := keepf hdm
        clear hm hdm
        go_wp2_with (first
          | (refine load_mid rfl 106 _ rfl g _ rfl _ _ HR.out Try.underlying106 rfl 3 size_row rfl ?_)
          | (refine store_blk rfl 106 _ _ rfl _ _ rfl rfl 106 _ HBb2.out 3 size_row rfl rfl (rowCells_one _ _ _) ?_; intro w3 hblk3 hch3; have HB3 := keepf hblk3; have HC3 := keepf hch3; clear hblk3 hch3))
        go_roundw
        case rel =>
          refine ⟨k + 1, fst m k, m k, att m k, T2, by omega, by omega, by omega, by omega, by rw [att] at hak; omega, by go_num, ⟨by rw [fst], by rw [att]⟩, ?_, ?_, HB3.out, ?_⟩
          · rw [HD.out]; exact HT2.out
          · exact HBb.out.chg HC3.out (fun h => hne2 h)
          · exact HCc.out.trans HC3.out (fun i hi e => by subst e; have := HG2.out; omega)
        case measure => simp [intOf]; omega
      · have hdm : deepU m (k + 1) = k := by rw [deepU, if_pos (by omega)]
        have hm1 : 0 < m k := by omega
        have t3 : w2.cell? ⟨g, 2, none⟩ = some (.int .i64 (deepU m k : Nat)) := by rw [HBb.out.cell, HT2.out.deep]
        have f3 := HBb.out.frozen 2
        have hm2 : (0 : Int) < (m k : Nat) := by omega
        have HD := keepf hdm
        clear hdm
        go_upto_region 9 with fail
        have hb := HBb.out.set_ 2 (.int .i64 (k : Nat))
        have hc := HCc.out.setCell (p := ⟨g, 2, none⟩) (fun _ => rfl) (.int .i64 (k : Nat))
        have hb2 := HBb2.out.far (p := ⟨g, 2, none⟩) hne (.int .i64 (k : Nat))
        have ht := HT2.out.set_deep k
        generalize w2.setCell ⟨g, 2, none⟩ (.int .i64 (k : Nat)) = w3 at *
        generalize T2.setIfInBounds 2 (.int .i64 (k : Nat)) = T3 at *
        have HR : Hid (w3.rangeAt g (643 + k * 3) (rowCells (fst m k) (m k) (att m k)).toList) := by
          have := row_range hb ht k hlt
          simp only [Nat.lt_add_one, if_true] at this
          exact this
        have HT3 := keepf ht
        have HB3 := keepf hb
        have HC3 := keepf hc
        have HB23 := keepf hb2
        clear ht hb hc hb2 t1 t3 f3 HT2 HBb HCc HBb2
        go_wp2_with (first
          | (refine load_mid rfl 106 _ rfl g _ rfl _ _ HR.out Try.underlying106 rfl 3 size_row rfl ?_)
          | (refine store_blk rfl 106 _ _ rfl _ _ rfl rfl 106 _ HB23.out 3 size_row rfl rfl (rowCells_one _ _ _) ?_; intro w4 hblk4 hch4; have HB4 := keepf hblk4; have HC4 := keepf hch4; clear hblk4 hch4))
        go_roundw
        case rel =>
          refine ⟨k + 1, fst m k, m k, att m k, T3, by omega, by omega, by omega, by omega, by rw [att] at hak; omega, by go_num, ⟨by rw [fst], by rw [att]⟩, ?_, ?_, HB4.out, ?_⟩
          · rw [HD.out]; exact HT3.out
          · exact HB3.out.chg HC4.out (fun h => hne2 h)
          · exact HC3.out.trans HC4.out (fun i hi e => by subst e; have := HG2.out; omega)
        case measure => simp [intOf]; omega
    · obtain rfl : k = 16 := by omega
      go_wp2_with fail
      go_end0
      refine ⟨rfl, T, HBk.out, hT.out.congr rfl rfl (fun _ _ => rfl) (fun _ _ => rfl) (fun i hi => by simp [hi]) (fun _ _ => rfl) (fun i hi => by simp [hi]) (fun _ _ => rfl), HCh.out⟩
end Go.Proofs.Ytbdnhhhagpgibaa
