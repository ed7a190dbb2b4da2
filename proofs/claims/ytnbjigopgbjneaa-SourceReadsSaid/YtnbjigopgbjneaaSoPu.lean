/- Put, walked. -/
import Derived.Test.YtnbjigopgbjneaaSoPt
namespace Go.Proofs.Ytnbjigopgbjneaa
open Go.RowKit
set_option linter.unusedVariables false
set_option linter.unusedSimpArgs false

/-- A number is told; nothing has changed. -/
def ErrTo (w : World) (k : Int) (e : Ending) (w' : World) : Prop := e = .returned (.int .i64 k) ∧ w = w'

theorem put_arg {w : World} {S : Nat → Prop} {g n m : Nat} {F : List Sp} {c : Nat → Nat} (h : SoAt w S g n m F c) (p : Int) (A : Option Addr) (len cap : Nat) (hp : hasP n p = false) :
    Calls Try.prog 11 #[.pointer (some ⟨g, 0, none⟩), .int .i64 p, .slice A len cap] w (ErrTo w 2) := by
  have HR := keepf (ready_any h)
  have HH := keepf (has_so h p)
  rw [hp] at HH
  clear h hp
  go_enter Try.func11, Try.ntmps11
  go_wp2_with (first
    | (go_at_call 22; refine HR.out.mono ?_; rintro e w1 ⟨rfl, rfl⟩)
    | (go_at_call 23; refine HH.out.mono ?_; rintro e w1 ⟨rfl, rfl⟩))
  go_ret
  exact ⟨rfl, rfl⟩

theorem put_rng {w : World} {S : Nat → Prop} {g n m : Nat} {F : List Sp} {c : Nat → Nat} (h : SoAt w S g n m F c) (p : Nat) (A : Option Addr) (len cap : Nat) (hn : n ≤ 2147483647) (hp : p ≤ n) (hl : n < p + len) :
    Calls Try.prog 11 #[.pointer (some ⟨g, 0, none⟩), .int .i64 (p : Nat), .slice A len cap] w (ErrTo w 5) := by
  have HR := keepf (ready_any h)
  have HH := keepf (has_so h (p : Int))
  have hh : hasP n (p : Int) = true := by simp [hasP]; omega
  rw [hh] at HH
  obtain ⟨b, o, t, a, h⟩ := h
  obtain ⟨_, c1, _⟩ := h.cells
  have hs : IntKind.i64.wrap ((n : Int) - (p : Int)) = (n : Int) - (p : Int) := by rw [IntKind.wrap_i64]; omega
  have d : decide ((n : Int) - (p : Int) < (len : Int)) = true := by simp; omega
  clear h hh hl
  go_enter Try.func11, Try.ntmps11
  go_wp2_with (first
    | (go_at_call 22; refine HR.out.mono ?_; rintro e w1 ⟨rfl, rfl⟩)
    | (go_at_call 23; refine HH.out.mono ?_; rintro e w1 ⟨rfl, rfl⟩))
  go_ret
  exact ⟨rfl, rfl⟩

set_option maxHeartbeats 4000000 in
set_option maxRecDepth 100000 in
theorem put_so {w : World} {S : Nat → Prop} {g n m : Nat} {F : List Sp} {c : Nat → Nat} (h : SoAt w S g n m F c) (p : Nat) (A : Option Addr) (len cap : Nat) (bs : List Nat) (hn : n ≤ 2147483647) (hS : Src w 1 A len cap (lcells bs)) (hl : bs.length = len) (hcap : len ≤ cap)
    (hp : p + len ≤ n) (hlen : len ≤ 100000000) (hm : m ≤ 100000000) (hF : F.length ≤ 99999998) (hA : 0 < len → ∀ ad, A = some ad → ¬ S ad.block) :
    Calls Try.prog 11 #[.pointer (some ⟨g, 0, none⟩), .int .i64 (p : Nat), .slice A len cap] w (SoPutTo w S g n m F c p bs) := by
  have HR := keepf (ready_any h)
  have HH := keepf (has_so h (p : Int))
  have hh : hasP n (p : Int) = true := by simp [hasP]; omega
  rw [hh] at HH
  have HPa := keepf (part_so h)
  obtain ⟨b, o, t, a, h⟩ := h
  obtain ⟨_, c1, c3⟩ := h.cells
  have HB := keepf h
  have HS := keepf hS
  have HA := keepf (show 0 < len → Apart b a A from fun h0 ad e hf => hA h0 ad e ((h.fp _).2 (.inr hf)))
  obtain ⟨T, hT⟩ : ∃ T, T = p + bs.length := ⟨_, rfl⟩
  have hT2 : T = p + len := by omega
  obtain ⟨X, hX⟩ : ∃ X, X = w.heap.size := ⟨_, rfl⟩
  obtain ⟨w0, hw0⟩ : ∃ w0, w0 = w.alloc (.cells #[.int .i64 (p : Nat), .int .i64 (T : Nat)] 55) := ⟨_, rfl⟩
  have hbx : Blk w0 X 55 #[.int .i64 (p : Nat), .int .i64 (T : Nat)] := by rw [hw0, hX]; exact Blk.new _ _ _
  have hc0 : Chg NoS w w0 := by rw [hw0]; exact (Chg.refl _ _).alloc _
  have HM := keepf (missing_any (some ⟨g, 2, none⟩) F ((p : Int), (T : Int)) w0.drew (h.no hc0.drew).setV (by omega))
  have hgl := h.blk.lt
  have hs1 : IntKind.i64.wrap ((n : Int) - (p : Int)) = (n : Int) - (p : Int) := by rw [IntKind.wrap_i64]; omega
  have hs2 : IntKind.i64.wrap ((p : Int) + (len : Int)) = (T : Int) := by rw [IntKind.wrap_i64]; omega
  have d : decide ((n : Int) - (p : Int) < (len : Int)) = false := by simp; omega
  have HX := keepf hX
  have HBX := keepf hbx
  have HC0 := keepf hc0
  have HW0 := keepf hw0
  have HL := keepf hl
  have HT := keepf hT
  have HA0 := keepf hA
  have HGL := keepf hgl
  clear h hh hS hA hX hw0 hbx hc0 hl hT hT2 hgl
  go_enter Try.func11, Try.ntmps11
  go_upto_region 9 with (first
    | (go_at_call 22; refine HR.out.mono ?_; rintro e w1 ⟨rfl, rfl⟩)
    | (go_at_call 23; refine HH.out.mono ?_; rintro e w1 ⟨rfl, rfl⟩)
    | (go_at_call 24; refine HPa.out.mono ?_; rintro e w1 ⟨rfl, rfl⟩))
  rw [← HX.out, ← HW0.out]
  have b0 := HBX.out.cell 0
  have b1 := HBX.out.cell 1
  simp at b0 b1
  obtain ⟨gs, hgs⟩ : ∃ gs, gs = missF ((p : Int), (T : Int)) F := ⟨_, rfl⟩
  have HGS := keepf hgs
  rw [← hgs] at HM
  clear hgs
  first
    | (go_loud (go_region_held3 (fun w' => w'.cell? ⟨X, 0, none⟩ = some (.int .i64 (p : Nat)) ∧ w'.cell? ⟨X, 1, none⟩ = some (.int .i64 (T : Nat)))
        (first | (go_keep; done) | exact ⟨by assumption, by assumption⟩)
        ((go_at_call 25; refine HM.out.mono ?_; rintro e w1 ⟨A9, cap9, rfl, ho9, hc9, hn9⟩; have e0 := (HBX.out.drew.chg hc9 (fun h => h)).cell 0; have e1 := (HBX.out.drew.chg hc9 (fun h => h)).cell 1; simp at e0 e1; have HO9 := keepf ho9; have HC9 := keepf hc9; have HN9 := keepf hn9; clear ho9 hc9 hn9))))
    | fail "region 9"
  go_wp2_with fail
  have hc1 : Chg NoS w w1 := HC0.out.then_ ((Chg.refl NoS w0).drew.then_ HC9.out)
  have hgs := HGS.out
  have hTT := HT.out
  have hTl : T ≤ n := by have := HL.out; omega
  have hmf := missF_form HB.out.form (x := ((p : Int), (T : Int))) (by simp only; omega)
  rw [← hgs] at hmf
  have hin : ∀ y ∈ gs, (p : Int) ≤ y.1 ∧ y.2 ≤ ((p + bs.length : Nat) : Int) := fun y hy => by
    have := hmf.2 y hy
    simp only at this
    omega
  have hgl2 : gs.length ≤ 99999999 := by rw [hgs]; have := missF_len ((p : Int), (T : Int)) F; omega
  have hI0 : GapI w1 b m a c p bs gs 0 a m c w1 := ⟨HB.out.map.chg hc1 (fun h => h), HB.out.bl.no hc1, Ext.refl _ _, ⟨p, by omega, by omega, by omega, fun y hy => (hin y (by simpa using hy)).1⟩, fun q hq => absurd hq (by rw [List.take_zero]; exact num_nil _), fun q hq => absurd hq (by rw [List.take_zero]; exact num_nil _), fun _ _ => rfl, Chg.refl _ _⟩
  have hlow : ∀ i, FpS b a i → i < w.heap.size := fun i hi => HB.out.lt ((HB.out.fp i).2 (.inr hi))
  have hng : ¬ FpS b a g := by
    rintro (h1 | ⟨k, h1⟩)
    · exact HB.out.map.ne HB.out.blk h1
    · exact Blk.ne_ HB.out.blk (HB.out.bl.lie k g h1) (by decide) rfl
  have HI0 := keepf hI0
  have HIn := keepf hin
  have HMf := keepf hmf.1
  have HC1 := keepf hc1
  have HLow := keepf hlow
  have HNg := keepf hng
  have HRow := keepf (src_own HO9.out)
  have HTl := keepf hTl
  clear hc1 hgs hTT hTl hmf hin hI0 hlow hng e0 e1 b0 b1 c1 c3
  go_loopw [40] (fun vi wr => ∃ (k : Nat) (a2 : Nat → Option Nat) (m2 : Nat) (c2 : Nat → Nat), k ≤ gs.length ∧ vi = .int .i64 k ∧ Hid (GapI w1 b m a c p bs gs k a2 m2 c2 wr)) (fun vi _ => gs.length - (intOf vi).toNat)
  case atStart => exact ⟨0, a, m, c, Nat.zero_le _, rfl, HI0.out⟩
  case round =>
    obtain ⟨k, a2, m2, c2, hk, rfl, HI⟩ := hrel
    have hcg := HI.out.chg
    by_cases hlt : k < gs.length
    · have hsrc := HRow.out.chg hcg (fun ad e h0 hf => by
        have h1 := HN9.out ad.block (by rw [e]; rfl)
        have h2 := HLow.out _ hf
        have h3 := HC0.out.size
        have h4 : w0.drew.heap.size = w0.heap.size := rfl
        omega) (fun h0 => by omega)
      obtain ⟨b9, o9, rfl, ⟨yi1, yi2⟩, hy, cy1, cy2⟩ := row_cells hsrc rfl hlt
      have hyi := HIn.out _ (List.mem_of_getElem? hy)
      have hyo := HMf.out.ok _ (List.mem_of_getElem? hy)
      simp only at hyi hyo cy1 cy2
      obtain ⟨y1, rfl⟩ : ∃ y1 : Nat, yi1 = (y1 : Int) := ⟨yi1.toNat, by omega⟩
      obtain ⟨y2, rfl⟩ : ∃ y2 : Nat, yi2 = (y2 : Int) := ⟨yi2.toNat, by omega⟩
      obtain ⟨lo, hlo⟩ : ∃ lo, lo = y1 - p := ⟨_, rfl⟩
      obtain ⟨hi, hhi⟩ : ∃ hi, hi = y2 - p := ⟨_, rfl⟩
      have hbl := HL.out
      have hsl := fun W => midL A len cap lo hi (by omega) (by omega) W
      have hl1 : IntKind.i64.wrap ((y1 : Int) - (p : Int)) = (lo : Int) := by rw [IntKind.wrap_i64]; omega
      have hl2 : IntKind.i64.wrap ((y2 : Int) - (p : Int)) = (hi : Int) := by rw [IntKind.wrap_i64]; omega
      have hcW : ∀ W, Chg NoS wr W → Chg (FpS b a) w1 W := fun W hW => hcg.then_ hW
      have hSW : ∀ W, Chg NoS wr W → Src W 1 A len cap (lcells bs) := fun W hW =>
        (src_no HS.out HC1.out).chg (hcW W hW) (fun ad e h0 => HA.out h0 ad e) (fun h0 => by rw [lcells_len] at h0; omega)
      obtain ⟨e5, e6, e7, e8, _⟩ := HI.out.mle
      have hm5 : m2 + (hi - lo) ≤ 900000000 := by omega
      have hlt2 : 0 < len → ∀ ad, A = some ad → ad.block < w1.heap.size := fun h0 ad e => by
        have h1 := HS.out.2.2 ad e 0
        have h3 := HC1.out.size
        rcases hx : (lcells bs)[0]? with _ | u
        · rw [List.getElem?_eq_none_iff, lcells_len] at hx
          omega
        · have h6 := cell_lt (h1 u hx)
          have h8 : (ad.add 0).block = ad.block := by unfold Addr.add; split <;> rfl
          omega
      have HFill := keepf (fun (W : World) (hW : Chg NoS wr W) => fill_any b m2 a2 c2 y1 (cutL A lo cap) (hi - lo) (cap - lo) ((bs.drop lo).take (hi - lo)) W (HI.out.map.chg hW (fun h => h)) (HI.out.bl.no hW)
        (by have := src_cutL (lo := lo) (m := hi - lo) (hSW W hW) hcap (by omega)
            have e : (List.drop lo (lcells bs)).take (hi - lo) = lcells ((bs.drop lo).take (hi - lo)) := by simp [lcells]
            rw [e] at this
            exact this) (by simp; omega) (by omega) (by omega) (by omega) hm5 (fun ad e hf => by
              obtain ⟨ad0, h1, h2⟩ := cutL_block e
              rw [← h2] at hf
              exact HA.out (by omega) ad0 h1 (fp_ext HI.out.ext (hlt2 (by omega) ad0 h1) hf)))
      have cg3 : wr.cell? ⟨g, 3, none⟩ = some (.map (some b)) := by
        have h1 := ((HB.out.blk.chg HC1.out (fun h => h)).chg hcg HNg.out).cell 3
        simpa using h1
      have HNg2 := keepf (show ¬ FpS b a2 g from fun hf => HNg.out (fp_ext HI.out.ext (by have := HGL.out; have := HC1.out.size; omega) hf))
      have HNb2 := keepf (show ¬ FpS b a2 wr.heap.size from fun hf => by
        rcases hf with h1 | ⟨j, h1⟩
        · have := HI.out.map.lt; omega
        · have := HI.out.bl.lt h1; omega)
      have HBY := keepf (Blk.new wr 55 #[.int .i64 (y1 : Nat), .int .i64 (y2 : Nat)])
      have HCG := keepf ((HB.out.blk.chg HC1.out (fun h => h)).chg hcg HNg.out)
      have HY := keepf hy
      have HLO := keepf hlo
      have HHI := keepf hhi
      clear hcg hsrc hy hlo hhi hcW hSW hm5 hlt2 e6 e7 e8 hbl hyi
      go_upto_region 12 with fail
      have HFi := HFill.out ((wr.alloc (.cells #[.int .i64 (y1 : Nat), .int .i64 (y2 : Nat)] 55)).drew) ((Chg.refl _ _).alloc _).drew
      first
        | (go_loud (go_region_held3 (fun w' => w'.cell? ⟨g, 3, none⟩ = some (.map (some b)) ∧ w'.cell? ⟨wr.heap.size, 0, none⟩ = some (.int .i64 (y1 : Nat)) ∧ w'.cell? ⟨wr.heap.size, 1, none⟩ = some (.int .i64 (y2 : Nat)))
            (first | (go_keep; done) | exact ⟨by assumption, by assumption, by assumption⟩)
            ((go_at_call 26; refine HFi.mono ?_; intro e w3 hf3; obtain rfl := hf3.ret; have f3 := (((HCG.out.alloc _).drew).chg hf3.chg HNg2.out).cell 3; have f0 := ((HBY.out.drew).chg hf3.chg HNb2.out).cell 0; have f1 := ((HBY.out.drew).chg hf3.chg HNb2.out).cell 1; simp at f0 f1 f3; have HF3 := keepf hf3; clear hf3))))
        | fail "region 12"
      have hnx := HI.out.next HMf.out HIn.out HY.out (((Chg.refl NoS wr).alloc (.cells #[.int .i64 (y1 : Nat), .int .i64 (y2 : Nat)] 55)).drew) (by rw [← HLO.out, ← HHI.out]; exact HF3.out)
      obtain ⟨_, a3, m3, c3, hI3⟩ := hnx
      have HI3 := keepf hI3
      clear hI3
      go_wp2_with fail
      go_roundw
      case rel => exact ⟨k + 1, a3, m3, c3, by omega, by go_num, HI3.out⟩
      case measure => simp [intOf]; omega
    · obtain rfl : k = gs.length := by omega
      have hxw : X = w.heap.size := HX.out
      have hnx : ¬ FpS b a X := fun hf => by have := HLow.out _ hf; omega
      have hbx := (HBX.out.chg ((Chg.refl NoS w0).drew.then_ HC9.out) (fun h => h)).chg hcg hnx
      have b0 := hbx.cell 0
      have b1 := hbx.cell 1
      simp at b0 b1
      have hset : SetC wr g 2 63 (soCs g n o b) F := ⟨t, o, (HB.out.blk.chg HC1.out (fun h => h)).chg hcg HNg.out, rfl, (HB.out.tree.no HC1.out).chg hcg (fun i cs hi hb => by
        have h1 := HB.out.fp i
        exact (HB.out.no HC1.out).node i cs (h1.2 (.inr hi)) hb), HB.out.fl, HB.out.form⟩
      have HP := keepf (put_in g 2 63 (soCs g n o b) ((p : Int), (T : Int)) F wr.drew (by decide) (hset.no (Chg.refl _ _).drew) (by have := HTl.out; simp only; omega))
      have HBx := keepf hbx
      have HGX := keepf (show X ≠ g by have := HGL.out; omega)
      clear hnx hbx hset hcg hxw
      go_upto_region 14 with fail
      first
        | (go_loud (go_region_held3 (fun w' => w'.cell? ⟨X, 0, none⟩ = some (.int .i64 (p : Nat)) ∧ w'.cell? ⟨X, 1, none⟩ = some (.int .i64 (T : Nat)))
            (first | (go_keep; done) | exact ⟨by assumption, by assumption⟩)
            ((go_at_call 27; refine HP.out.mono ?_; intro e w3 hp3; obtain rfl := hp3.1; have f0 := (HBx.out.drew.chg hp3.2.2 HGX.out).cell 0; have f1 := (HBx.out.drew.chg hp3.2.2 HGX.out).cell 1; simp at f0 f1; have HP3 := keepf hp3; clear hp3))))
        | fail "region 14"
      go_wp2_with fail
      go_ret
      have hp3 := HP3.out
      have hgs := HGS.out
      rw [HT.out] at hp3 hgs
      obtain ⟨_, S', c', h1, h2, h3, h4, h5, h6⟩ := put_all HB.out HC1.out (by have := HL.out; omega) hn hgs (w2 := wr.drew) ⟨HI.out.map.chg (Chg.refl NoS _).drew (fun h => h), HI.out.bl.no (Chg.refl NoS _).drew, HI.out.ext, HI.out.mle, HI.out.cov, HI.out.val, HI.out.keep, HI.out.chg.drew⟩ hp3
      exact ⟨S', c', rfl, h1, h2, h3, h4, h5, h6⟩

end Go.Proofs.Ytnbjigopgbjneaa
