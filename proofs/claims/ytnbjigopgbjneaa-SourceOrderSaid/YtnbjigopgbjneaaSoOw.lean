/- The walk of SourceOrder. -/
import Derived.Test.YtnbjigopgbjneaaSoOm
import Derived.Test.YtnbjigopgbjneaaSame
import Derived.Deep.CutRange
import Derived.BigRegion
import Derived.Deep.QuietTactic
namespace Go.Proofs.Ytnbjigopgbjneaa
open Go.RowKit
set_option linter.unusedVariables false
set_option linter.unusedSimpArgs false

theorem rev_atS {xs : List Sp} {n k j : Nat} {y : Sp} (hl : xs.length = n) (hj : j + k + 1 = n) (hy : xs[j]? = some y) : xs.reverse[k]? = some y := by
  rw [List.getElem?_reverse (by omega), ← hy]
  congr 1
  omega

set_option maxHeartbeats 4000000 in
set_option maxRecDepth 100000 in
theorem order_great (A : Option Addr) (len cap : Nat) (B : Option Addr) (nl cl : Nat) (z : Int) (w : World) (h : 300 < len ∨ 30 < nl) :
    Calls Try.prog 6 #[.slice A len cap, .slice B nl cl, .int .u16 z] w (OnlyTo w (.bool true)) := by
  have HW := keepf (works16 w)
  rcases (by by_cases h1 : 300 < len; exact .inl h1; exact .inr ⟨by omega, by omega⟩ : 300 < len ∨ (len ≤ 300 ∧ 30 < nl)) with h1 | ⟨h1, h2⟩
  · clear h
    go_enter Try.func6, Try.ntmps6
    go_wp2_with (go_at_call 9; refine HW.out.mono ?_; rintro e w1 ⟨rfl, hc1⟩; have HC1 := keepf hc1; clear hc1)
    go_ret
    exact ⟨rfl, HC1.out⟩
  · clear h
    go_enter Try.func6, Try.ntmps6
    go_wp2_with (go_at_call 9; refine HW.out.mono ?_; rintro e w1 ⟨rfl, hc1⟩; have HC1 := keepf hc1; clear hc1)
    go_ret
    exact ⟨rfl, HC1.out⟩

set_option maxHeartbeats 8000000 in
set_option maxRecDepth 100000 in
theorem order_ok (A : Option Addr) (len cap : Nat) (bs : List Nat) (B : Option Addr) (nl cl : Nat) (xs : List Sp) (z : Nat) (w : World) (hS : Src w 1 A len cap (lcells bs)) (hl : bs.length = len) (hcap : len ≤ cap) (hlen : len ≤ 300)
    (hX : Src w 2 B nl cl (xs.flatMap encC)) (hxl : xs.length = nl) (hnl : nl ≤ 30) (hz : z < 65536) :
    Calls Try.prog 6 #[.slice A len cap, .slice B nl cl, .int .u16 (z : Nat)] w (OnlyTo w (.bool true)) := by
  obtain ⟨p, hp⟩ : ∃ p, p = z % (len + 1) := ⟨_, rfl⟩
  have hp2 : p ≤ len := by have := Nat.mod_lt z (show 0 < len + 1 by omega); omega
  have hpm : (z : Int).tmod ((len : Int) + 1) = (p : Int) := by rw [Int.tmod_eq_emod_of_nonneg (by omega), hp]; rfl
  have HN := keepf (fun V => new_ok len V (by omega))
  have HW := keepf (fun V => works16 V)
  have HSrc := keepf hS
  have HX := keepf hX
  have HL := keepf hl
  have HXL := keepf hxl
  have HLow := keepf (src_low hS hl)
  clear hS hX hl hxl hp
  go_enter Try.func6, Try.ntmps6
  go_upto_region 7 with (go_at_call 7; first
    | (refine (HN.out w).mono ?_; rintro e w1 ⟨g, S, rfl, hS1, hc1, hn1⟩; have HS1 := keepf hS1; have HC1 := keepf hc1; have HN1 := keepf hn1; clear hS1 hc1 hn1)
    | (refine (HN.out w1).mono ?_; rintro e w2 ⟨h, T, rfl, hT2, hc2, hn2⟩; have HT2 := keepf hT2; have HC2 := keepf hc2; have HN2 := keepf hn2; clear hT2 hc2 hn2))
  have hst : StO w w2 bs S T g h 0 [] [] := by
    have hll := HL.out
    have h1 := HS1.out
    have h2 := HT2.out
    rw [← hll] at h1 h2
    exact ⟨(sv_new h1).no HC2.out, sv_new h2, HC1.out.then_ HC2.out, fun i h3 h4 => by have := HS1.out.lt h3; have := HN2.out i h4; omega, HN1.out, fun i h3 => Nat.le_trans HC1.out.size (HN2.out i h3)⟩
  have HSt := keepf hst
  clear hst
  go_wp2_with fail
  go_loopw [12, 13] (fun v12 v13 wr => ∃ (k : Nat) (S T : Nat → Prop), k ≤ nl ∧ v12 = .string (sb (rdS bs (ordF bs.length (xs.take k)) p)) ∧ v13 = .int .i64 k ∧ Hid (StO w wr bs S T g h (600 * k) (ordF bs.length (xs.take k)) (ordF bs.length (xs.reverse.take k)))) (fun _ v13 _ => nl - (intOf v13).toNat)
  case atStart =>
    refine ⟨0, S, T, Nat.zero_le _, ?_, rfl, ?_⟩
    · rw [ordF_zero, rdS, rdK_nil _ _ (by rw [HL.out]; exact hp2)]
      rfl
    · show StO _ _ _ _ _ _ _ _ _ _
      rw [ordF_zero, ordF_zero]
      exact HSt.out
  case round =>
    obtain ⟨k, S, T, hk, rfl, rfl, HST⟩ := hrel
    clear HSt
    obtain ⟨F, hF⟩ : ∃ F, F = ordF bs.length (xs.take k) := ⟨_, rfl⟩
    obtain ⟨G, hG⟩ : ∃ G, G = ordF bs.length (xs.reverse.take k) := ⟨_, rfl⟩
    rw [← hF, ← hG] at HST
    rw [← hF]
    have HF := keepf hF
    have HG := keepf hG
    clear hF hG
    by_cases hlt : k < nl
    · obtain ⟨b9, o9, rfl, ⟨x1, x2⟩, hx, cx1, cx2⟩ := row_cells (src_no HX.out HST.out.c) HXL.out hlt
      obtain ⟨q, hq⟩ : ∃ q, q + k + 1 = nl := ⟨nl - 1 - k, by omega⟩
      obtain ⟨b', o', hb', ⟨y1, y2⟩, hy, cy1, cy2⟩ := row_cells (src_no HX.out HST.out.c) HXL.out (show q < nl by omega)
      simp only [Option.some.injEq, Addr.mk.injEq, and_true] at hb'
      obtain ⟨rfl, rfl⟩ := hb'
      simp only at cx1 cx2 cy1 cy2
      obtain ⟨r, hr⟩ : ∃ r, r + 1 = nl := ⟨nl - 1, by omega⟩
      have hw1 : IntKind.i64.wrap ((nl : Int) - 1) = (r : Int) := by rw [IntKind.wrap_i64]; omega
      have hw2 : IntKind.i64.wrap ((r : Int) - (k : Int)) = (q : Int) := by rw [IntKind.wrap_i64]; omega
      have hql : q < nl := by omega
      have HXx := keepf hx
      have HYy := keepf hy
      have HQ := keepf hq
      clear hx hy hq hr
      have hal : ∀ (u : Addr) (v : Value), wr.cell? u = some v → (∀ ob, (wr.alloc ob).cell? u = some v) ∧ ∀ ob oc, ((wr.alloc ob).alloc oc).cell? u = some v := fun u v hu =>
        ⟨fun ob => (((Chg.refl NoS wr).alloc ob).cell (p := u) (cell_lt hu) (fun h => h)).trans hu, fun ob oc => ((((Chg.refl NoS wr).alloc ob).alloc oc).cell (p := u) (cell_lt hu) (fun h => h)).trans hu⟩
      obtain ⟨ax1, bx1⟩ := hal _ _ cx1
      obtain ⟨ax2, bx2⟩ := hal _ _ cx2
      obtain ⟨ay1, by1⟩ := hal _ _ cy1
      obtain ⟨ay2, by2⟩ := hal _ _ cy2
      clear hal
      go_upto_region 12 with fail
      go_cut [14, 15] from 55 to 169 (fun v14 v15 wx => ∃ gx gy, v14 = .pointer (some ⟨gx, 0, none⟩) ∧ v15 = .pointer (some ⟨gy, 0, none⟩) ∧ Hid (Blk wx gx 55 #[.int .i64 x1, .int .i64 x2]) ∧ Hid (Blk wx gy 55 #[.int .i64 y1, .int .i64 y2]) ∧ Hid (Chg NoS wr wx) ∧ Hid (wr.heap.size ≤ gx ∧ wr.heap.size ≤ gy))
      case first =>
        first
          | (go_loud (go_region))
          | fail "region 12"
        · go_wp2_with fail
          go_meet
          exact ⟨wr.heap.size, wr.heap.size + 1, rfl, rfl, (Blk.new _ _ _).alloc _, by have := Blk.new (wr.alloc (.cells #[.int .i64 x1, .int .i64 x2] 55)) 55 #[.int .i64 y1, .int .i64 y2]; rw [World.size_alloc] at this; exact this, (((Chg.refl NoS wr).alloc _).alloc _).drew, ⟨by omega, by omega⟩⟩
        · go_wp2_with fail
          go_meet
          exact ⟨wr.heap.size + 1, wr.heap.size, rfl, rfl, by have := Blk.new (wr.alloc (.cells #[.int .i64 y1, .int .i64 y2] 55)) 55 #[.int .i64 x1, .int .i64 x2]; rw [World.size_alloc] at this; exact this, (Blk.new _ _ _).alloc _, (((Chg.refl NoS wr).alloc _).alloc _).drew, ⟨by omega, by omega⟩⟩
      case rest =>
        obtain ⟨gx, gy, rfl, rfl, HBX, HBY, HCX, HLX⟩ := hcut
        clear ax1 bx1 ax2 bx2 ay1 by1 ay2 by2 cx1 cx2 cy1 cy2 hw1 hw2
        have c0 := HBX.out.cell 0
        have c1 := HBX.out.cell 1
        simp at c0 c1
        obtain ⟨F', hF'⟩ : ∃ F', F' = (if okS bs.length (x1, x2) then putF (x1, x2) F else F) := ⟨_, rfl⟩
        have HF' := keepf hF'
        clear hF'
        have HST2 := keepf (HST.out.no HCX.out)
        go_upto_region 13 with fail
        go_cut [102] from 55 to 169 (fun v wz => ∃ S', v = .bool false ∧ Hid (StO w wz bs S' T g h (600 * k + 300) F' G) ∧ Hid (Blk wz gy 55 #[.int .i64 y1, .int .i64 y2]))
        case first =>
          cases hok : okS bs.length (x1, x2) with
          | true =>
            obtain ⟨k1, k2, k3⟩ := ok_le hok
            have hF2 : F' = putF (x1, x2) F := by rw [HF'.out, hok]; rfl
            simp only at k1 k2 k3
            rw [HL.out] at k3
            obtain ⟨u, rfl⟩ : ∃ u : Nat, x1 = (u : Int) := ⟨x1.toNat, by omega⟩
            obtain ⟨v, rfl⟩ : ∃ v : Nat, x2 = (v : Int) := ⟨x2.toNat, by omega⟩
            have hsl := fun W => midL A len cap u v (by omega) (by omega) W
            have hFl : F.length ≤ 1000 := by
              have h1 := ordF_len bs.length (by rw [HL.out]; omega) (xs.take k)
              rw [← HF.out] at h1
              have h2 := List.length_take_le k xs
              omega
            have hput := sv_put (HST2.out.no (Chg.refl NoS _).drew).s A cap u v (by rw [HL.out]; exact src_no HSrc.out (HST2.out.no (Chg.refl NoS _).drew).c) (by rw [HL.out]; exact hcap) (by rw [HL.out]; exact hlen) (by omega) hFl (by omega) (by rw [HL.out]; omega) (fun h0 ad e hi => by
              have h1 := HLow.out (by rw [← HL.out]; exact h0) ad e
              have h2 := HST2.out.lo _ hi
              omega)
            rw [← hF2] at hput
            have HPut := keepf hput
            have HSn := keepf (show ∀ i, S i → i ≠ gx ∧ i ≠ gy from fun i hi => by
              have h1 := HST.out.s.lt hi
              have h2 := HLX.out
              omega)
            have d1 : decide ((0 : Int) ≤ (u : Int)) = true := by simp
            have d2 : decide ((u : Int) ≤ (v : Int)) = true := by simp; omega
            have d3 : decide ((v : Int) ≤ (len : Int)) = true := by simp; omega
            have d4 : decide (u ≤ v) = true := by simp; omega
            have d5 : decide (v ≤ len) = true := by simp; omega
            clear hok hF2 hFl hput k1 k2 k3
            first
              | (go_loud (go_region_held3 (fun w' => w'.cell? ⟨gx, 0, none⟩ = some (.int .i64 (u : Nat)) ∧ w'.cell? ⟨gx, 1, none⟩ = some (.int .i64 (v : Nat)))
                  (first | (go_keep; done) | exact ⟨by assumption, by assumption⟩)
                  ((go_at_call 11; refine HPut.out.mono ?_; intro e w3 hp3; obtain rfl := hp3.1; have hcp := hp3.2.choose_spec.2.2; have hbx3 := HBX.out.drew.chg hcp (fun hi => (HSn.out _ hi).1 rfl); have f0 := hbx3.cell 0; have f1 := hbx3.cell 1; simp at f0 f1; have HB3 := keepf (HBY.out.drew.chg hcp (fun hi => (HSn.out _ hi).2 rfl)); have HP3 := keepf hp3; clear hp3 hcp hbx3))))
              | fail "region 13"
            go_wp2_with fail
            go_meet
            obtain ⟨S', hS'⟩ := (HST2.out.no (Chg.refl NoS _).drew).putS HP3.out
            exact ⟨S', rfl, hS', HB3.out⟩
          | false =>
            have hF2 : F' = F := by rw [HF'.out, hok]; rfl
            have HF2 := keepf hF2
            have hor : decide (0 ≤ x1) = false ∨ (decide (0 ≤ x1) = true ∧ decide (x1 ≤ x2) = false) ∨ (decide (0 ≤ x1) = true ∧ decide (x1 ≤ x2) = true ∧ decide (x2 ≤ (len : Int)) = false) := by
              simp [okS] at hok
              rw [HL.out] at hok
              by_cases h1 : 0 ≤ x1
              · by_cases h2 : x1 ≤ x2
                · exact .inr (.inr ⟨by simpa using h1, by simpa using h2, by simpa using hok h1 h2⟩)
                · exact .inr (.inl ⟨by simpa using h1, by simpa using h2⟩)
              · exact .inl (by simpa using h1)
            clear hok hF2
            rcases hor with h1 | ⟨h1, h2⟩ | ⟨h1, h2, h3⟩
            all_goals
              go_quiet (fail)
              go_wp2_with fail
              go_meet
              refine ⟨S, rfl, ?_, HBY.out.drewN _⟩
              show StO _ _ _ _ _ _ _ _ _ _
              rw [HF2.out]
              exact (HST2.out.no ((Chg.refl NoS _).drewN _)).mono (by omega)
        case rest =>
          obtain ⟨S', rfl, HST3, HBY3⟩ := hcut
          clear c0 c1
          have c0 := HBY3.out.cell 0
          have c1 := HBY3.out.cell 1
          simp at c0 c1
          obtain ⟨G', hG'⟩ : ∃ G', G' = (if okS bs.length (y1, y2) then putF (y1, y2) G else G) := ⟨_, rfl⟩
          have HG' := keepf hG'
          clear hG'
          go_upto_region 15 with fail
          go_cut [132] from 55 to 169 (fun v wz => ∃ T', v = .bool false ∧ Hid (StO w wz bs S' T' g h (600 * k + 600) F' G'))
          case first =>
            cases hok : okS bs.length (y1, y2) with
            | true =>
              obtain ⟨k1, k2, k3⟩ := ok_le hok
              have hF2 : G' = putF (y1, y2) G := by rw [HG'.out, hok]; rfl
              simp only at k1 k2 k3
              rw [HL.out] at k3
              obtain ⟨u, rfl⟩ : ∃ u : Nat, y1 = (u : Int) := ⟨y1.toNat, by omega⟩
              obtain ⟨v, rfl⟩ : ∃ v : Nat, y2 = (v : Int) := ⟨y2.toNat, by omega⟩
              have hsl := fun W => midL A len cap u v (by omega) (by omega) W
              have hFl : G.length ≤ 1000 := by
                have h1 := ordF_len bs.length (by rw [HL.out]; omega) (xs.reverse.take k)
                rw [← HG.out] at h1
                have h2 := List.length_take_le k xs.reverse
                omega
              have hput := sv_put (HST3.out.no (Chg.refl NoS _).drew).t A cap u v (by rw [HL.out]; exact src_no HSrc.out (HST3.out.no (Chg.refl NoS _).drew).c) (by rw [HL.out]; exact hcap) (by rw [HL.out]; exact hlen) (by omega) hFl (by omega) (by rw [HL.out]; omega) (fun h0 ad e hi => by
                have h1 := HLow.out (by rw [← HL.out]; exact h0) ad e
                have h2 := HST3.out.hi _ hi
                omega)
              rw [← hF2] at hput
              have HPut := keepf hput
              have HSn := keepf (show ¬ T gy from fun hi => by
                have h1 := HST.out.t.lt hi
                have h2 := HLX.out
                omega)
              have d1 : decide ((0 : Int) ≤ (u : Int)) = true := by simp
              have d2 : decide ((u : Int) ≤ (v : Int)) = true := by simp; omega
              have d3 : decide ((v : Int) ≤ (len : Int)) = true := by simp; omega
              have d4 : decide (u ≤ v) = true := by simp; omega
              have d5 : decide (v ≤ len) = true := by simp; omega
              clear hok hF2 hFl hput k1 k2 k3
              first
                | (go_loud (go_region_held3 (fun w' => w'.cell? ⟨gy, 0, none⟩ = some (.int .i64 (u : Nat)) ∧ w'.cell? ⟨gy, 1, none⟩ = some (.int .i64 (v : Nat)))
                    (first | (go_keep; done) | exact ⟨by assumption, by assumption⟩)
                    ((go_at_call 11; refine HPut.out.mono ?_; intro e w3 hp3; obtain rfl := hp3.1; have hcp := hp3.2.choose_spec.2.2; have hbx3 := HBY3.out.drew.chg hcp HSn.out; have f0 := hbx3.cell 0; have f1 := hbx3.cell 1; simp at f0 f1; have HP3 := keepf hp3; clear hp3 hcp hbx3))))
                | fail "region 15"
              go_wp2_with fail
              go_meet
              obtain ⟨T', hT'⟩ := (HST3.out.no (Chg.refl NoS _).drew).putT HP3.out
              exact ⟨T', rfl, hT'⟩
            | false =>
              have hF2 : G' = G := by rw [HG'.out, hok]; rfl
              have HF2 := keepf hF2
              have hor : decide (0 ≤ y1) = false ∨ (decide (0 ≤ y1) = true ∧ decide (y1 ≤ y2) = false) ∨ (decide (0 ≤ y1) = true ∧ decide (y1 ≤ y2) = true ∧ decide (y2 ≤ (len : Int)) = false) := by
                simp [okS] at hok
                rw [HL.out] at hok
                by_cases h1 : 0 ≤ y1
                · by_cases h2 : y1 ≤ y2
                  · exact .inr (.inr ⟨by simpa using h1, by simpa using h2, by simpa using hok h1 h2⟩)
                  · exact .inr (.inl ⟨by simpa using h1, by simpa using h2⟩)
                · exact .inl (by simpa using h1)
              clear hok hF2
              rcases hor with h1 | ⟨h1, h2⟩ | ⟨h1, h2, h3⟩
              all_goals
                go_quiet (fail)
                go_wp2_with fail
                go_meet
                refine ⟨T, rfl, ?_⟩
                show StO _ _ _ _ _ _ _ _ _ _
                rw [HF2.out]
                exact (HST3.out.no ((Chg.refl NoS _).drewN _)).mono (by omega)
          case rest =>
            obtain ⟨T', rfl, HST4⟩ := hcut
            clear c0 c1
            have hFk : F' = ordF bs.length (xs.take (k + 1)) := by
              rw [HF'.out, HF.out]
              cases hok : okS bs.length (x1, x2) with
              | true => rw [ordF_yes HXx.out hok]; rfl
              | false => rw [ordF_no HXx.out hok]; rfl
            have hGk : G' = ordF bs.length (xs.reverse.take (k + 1)) := by
              rw [HG'.out, HG.out]
              cases hok : okS bs.length (y1, y2) with
              | true => rw [ordF_yes (rev_atS HXL.out HQ.out HYy.out) hok]; rfl
              | false => rw [ordF_no (rev_atS HXL.out HQ.out HYy.out) hok]; rfl
            have hpl : p ≤ bs.length := by rw [HL.out]; exact hp2
            have hmon : rdK bs.length F p ≤ rdK bs.length F' p := by
              refine rdK_mono HST.out.s.form HST4.out.s.form hpl (fun q hq => ?_)
              rw [HF'.out]
              split
              · exact (putF_num HST.out.s.form _).2 (.inl hq)
              · exact hq
            obtain ⟨K0, hK0⟩ : ∃ K0, K0 = rdK bs.length F p := ⟨_, rfl⟩
            obtain ⟨K1, hK1⟩ : ∃ K1, K1 = rdK bs.length F' p := ⟨_, rfl⟩
            obtain ⟨X, hX⟩ : ∃ X, X = sb (rdS bs F p) := ⟨_, rfl⟩
            obtain ⟨Y, hY⟩ : ∃ Y, Y = sb (rdS bs F' p) := ⟨_, rfl⟩
            have hXs : X.size = K0 := by rw [hX, sb_size, rdS_len HST.out.s.form hpl, hK0]
            have hpre : sb ((rdS bs F' p).take K0) = X := by rw [hK0, rdS_pre hmon, hX]
            have hle1 := (rdK_le HST4.out.s.form hpl).1
            have hrd := sv_read HST4.out.s p (by rw [HL.out]; exact hlen) hpl
            rw [← hX]
            rw [← hK0, ← hK1] at hmon
            rw [← hK1] at hle1
            rw [HL.out] at hrd hle1
            obtain ⟨r1, hr1⟩ : ∃ r1, r1 = p + K1 := ⟨_, rfl⟩
            have HRd := keepf hrd
            have HK1 := keepf hK1
            have HY := keepf hY
            have HPre := keepf hpre
            have HFk := keepf hFk
            have HGk := keepf hGk
            have HR1 := keepf hr1
            have HMon := keepf hmon
            have hadd : IntKind.i64.wrap ((p : Int) + (K1 : Int)) = (r1 : Int) := by rw [IntKind.wrap_i64]; omega
            have hsl1 := fun (gr : Nat) W => toL (some ⟨gr, 0, none⟩) K1 K1 K0 (by omega) W
            have hsl2 := fun W => midL A len cap p r1 (by omega) (by omega) W
            have dlt : decide ((K1 : Int) < (K0 : Int)) = false := by simp; omega
            have dlt2 : decide (K1 < K0) = false := by simp; omega
            clear hrd hFk hGk hpl hmon hK0 hK1 hX hY hpre hle1 hr1
            go_upto_region 18 with (go_at_call 12; refine HRd.out.mono ?_; rintro e w5 ⟨gr, rfl, hr5, hc5⟩; have HR5 := keepf hr5; have HC5 := keepf hc5; clear hr5 hc5)
            have hr5 := HR5.out
            rw [← HK1.out] at hr5 ⊢
            obtain ⟨xs1, hxs1⟩ : ∃ xs1, xs1 = rdS bs F' p := ⟨_, rfl⟩
            have hYx := HY.out
            have hPx := HPre.out
            rw [← hxs1] at hr5 hYx hPx
            have hmn := HMon.out
            have hr1 := HR1.out
            have hxl1 : xs1.length = K1 := by have := hr5.1; simpa [lcells] using this
            have hc5 : Chg NoS w w5 := HST4.out.c.then_ HC5.out
            have hsA : Src w5 1 (some ⟨gr, 0, none⟩) K0 K1 (lcells (xs1.take K0)) := by
              have := src_cutL (lo := 0) (m := K0) hr5 (Nat.le_refl _) (by omega)
              rw [cutL_zero] at this
              simpa [lcells] using this
            have hsB : Src w5 1 (cutL A p cap) (r1 - p) (cap - p) (lcells xs1) := by
              have hll := HL.out
              have hle1 := (rdK_le (n := bs.length) HST4.out.s.form (p := p) (by omega)).1
              rw [← HK1.out] at hle1
              have := src_cutL (lo := p) (m := r1 - p) (src_no HSrc.out hc5) hcap (by omega)
              have e : (List.drop p (lcells bs)).take (r1 - p) = lcells xs1 := by
                rw [hxs1, rdS, ← HK1.out, hr1, show p + K1 - p = K1 from by omega]; simp [lcells]
              rw [e] at this
              exact this
            have hcvs : ∀ V, Chg NoS w5 V → (convert 30 9 (.slice (some ⟨gr, 0, none⟩) K0 K1)).run Try.prog V = .ok (.string X) V ∧ (convert 30 9 (.slice (some ⟨gr, 0, none⟩) K1 K1)).run Try.prog V = .ok (.string Y) V ∧ (convert 30 9 (.slice (cutL A p cap) (r1 - p) (cap - p))).run Try.prog V = .ok (.string Y) V := fun V hV => by
              have h1 := conv_l (src_no hsA hV)
              have h2 := conv_l (src_no hr5 hV)
              have h3 := conv_l (src_no hsB hV)
              rw [hPx] at h1
              rw [← hYx] at h2 h3
              exact ⟨h1, h2, h3⟩
            have hcv := hcvs w5.drew (Chg.refl _ _).drew
            obtain ⟨hcv1, hcv2, hcv3⟩ := hcv
            have HC55 := keepf hc5
            have hs1 := fun W => hsl1 gr W
            clear hcvs hr5 hYx hPx hmn hr1 hxl1 hc5 hsA hsB hxs1 hsl1
            first
              | (go_loud (go_region_held3 (fun w' => (convert 30 9 (.slice (some ⟨gr, 0, none⟩) K0 K1)).run Try.prog w' = .ok (.string X) w' ∧ (convert 30 9 (.slice (some ⟨gr, 0, none⟩) K1 K1)).run Try.prog w' = .ok (.string Y) w' ∧ (convert 30 9 (.slice (cutL A p cap) (r1 - p) (cap - p))).run Try.prog w' = .ok (.string Y) w')
                  (first | (go_keep; done) | exact ⟨by assumption, by assumption, by assumption⟩)
                  (fail)))
              | fail "region 18"
            go_wp2_with fail
            go_roundw
            case rel =>
              refine ⟨k + 1, S', T', by omega, ?_, by go_num, ?_⟩
              · rw [HY.out, HFk.out]
              · show StO _ _ _ _ _ _ _ _ _ _
                rw [← HFk.out, ← HGk.out, show 600 * (k + 1) = 600 * k + 600 from by omega]
                exact (HST4.out.no HC5.out).no (Chg.refl NoS _).drew
            case measure => simp [intOf]; omega
    · obtain rfl : k = nl := by omega
      have hxl := HXL.out
      have hFx : F = ordF bs.length xs := by rw [HF.out, List.take_of_length_le (by omega)]
      have hGx : G = F := by
        rw [hFx, HG.out, List.take_of_length_le (by rw [List.length_reverse]; omega), ordF_rev _ (by rw [HL.out]; omega)]
      subst hGx
      have hFl : G.length ≤ 100000000 := by
        have h1 := ordF_len bs.length (by rw [HL.out]; omega) xs
        rw [← hFx] at h1
        omega
      have hpl : p ≤ bs.length := by rw [HL.out]; exact hp2
      have hb3 : bs.length ≤ 300 := by rw [HL.out]; exact hlen
      have HRs := keepf (sv_read HST.out.s p hb3 hpl)
      have HRt := keepf (fun (V : World) (hV : Chg NoS wr V) => sv_read (HST.out.t.no hV) p hb3 hpl)
      have HKs := keepf (fun (V : World) (hV : Chg NoS wr V) => sv_known (HST.out.s.no hV) hFl)
      have HKt := keepf (fun (V : World) (hV : Chg NoS wr V) => sv_known (HST.out.t.no hV) hFl)
      have HFl := keepf hFl
      rw [HL.out] at HRs HRt
      clear hxl hFx hFl hpl hb3
      go_upto_region 23 with (go_at_call 12; first
        | ((with_reducible refine HRs.out.mono ?_); rintro e w3 ⟨gr, rfl, hr3, hc3⟩; have HR3 := keepf hr3; have HC3 := keepf hc3; clear hr3 hc3)
        | ((with_reducible refine (HRt.out w3 HC3.out).mono ?_); rintro e w4 ⟨gt, rfl, hr4, hc4⟩; have HR4 := keepf hr4; have HC4 := keepf hc4; clear hr4 hc4))
      have hcv1 := conv_l (src_no HR3.out HC4.out)
      have hcv2 := conv_l HR4.out
      obtain ⟨Y, hY⟩ : ∃ Y, Y = sb (rdS bs G p) := ⟨_, rfl⟩
      rw [← hY] at hcv1 hcv2
      obtain ⟨K, hK⟩ : ∃ K, K = rdK bs.length G p := ⟨_, rfl⟩
      rw [← hK] at hcv1 hcv2 ⊢
      obtain ⟨bb, hbb⟩ : ∃ bb, bb = decide (p + K = bs.length) := ⟨_, rfl⟩
      rw [← hbb]
      have HC34 := keepf (HC3.out.then_ HC4.out)
      clear hY hK hbb
      go_wp2_with (first
        | (go_at_call 17; first
            | ((with_reducible refine (HKs.out w4 HC34.out).mono ?_); rintro e w5 ⟨A5, c5, rfl, ho5, hc5, hn5⟩; have HO5 := keepf (src_own ho5); have HC5 := keepf hc5; clear ho5 hc5 hn5)
            | ((with_reducible refine (HKt.out w5 (HC34.out.then_ HC5.out)).mono ?_); rintro e w6 ⟨A6, c6, rfl, ho6, hc6, hn6⟩; have HO6 := keepf (src_own ho6); have HC6 := keepf hc6; clear ho6 hc6 hn6))
        | (go_at_call 16; refine (same_any A5 A6 G.length G.length c5 c6 G G w6 (src_no HO5.out HC6.out) HO6.out rfl rfl (by have := HFl.out; unfold maxLen; omega) (by have := HFl.out; unfold maxLen; omega)).mono ?_; rw [decide_eq_true rfl]; rintro e w7 ⟨rfl, hc7⟩; have HC7 := keepf hc7; clear hc7)
        | (go_at_call 9; refine (HW.out w7).mono ?_; rintro e w8 ⟨rfl, hc8⟩; have HC8 := keepf hc8; clear hc8))
      go_ret
      exact ⟨rfl, ((((HST.out.c.then_ HC34.out).then_ HC5.out).then_ HC6.out).then_ HC7.out).then_ HC8.out⟩

end Go.Proofs.Ytnbjigopgbjneaa
