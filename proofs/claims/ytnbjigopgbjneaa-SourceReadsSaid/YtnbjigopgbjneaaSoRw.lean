/- The walk of SourceReads. -/
import Derived.Test.YtnbjigopgbjneaaSoRt
import Derived.Deep.CutRange
import Derived.BigRegion
namespace Go.Proofs.Ytnbjigopgbjneaa
open Go.RowKit
set_option linter.unusedVariables false
set_option linter.unusedSimpArgs false

set_option maxHeartbeats 4000000 in
set_option maxRecDepth 100000 in
theorem reads_none (B : Option Addr) (nl cl : Nat) (n : Int) (w : World) (hn : n < 0 ∨ 2147483647 < n) :
    Calls Try.prog 3 #[.int .i64 n, .slice B nl cl] w (OnlyTo w (.bool true)) := by
  have HN := keepf (new_no n w hn)
  have HR := keepf (rnew16 n w)
  rw [rnew_no hn] at HR
  have HW := keepf (works16 w)
  clear hn
  go_enter Try.func3, Try.ntmps3
  go_wp2_with (first
    | (go_at_call 7; refine HN.out.mono ?_; rintro e w1 ⟨rfl, rfl⟩)
    | (go_at_call 8; refine HR.out.mono ?_; rintro e w1 ⟨rfl, rfl⟩)
    | (go_at_call 9; refine HW.out.mono ?_; rintro e w1 ⟨rfl, hc1⟩; have HC1 := keepf hc1; clear hc1))
  go_ret
  exact ⟨rfl, HC1.out⟩

set_option maxHeartbeats 4000000 in
set_option maxRecDepth 100000 in
theorem reads_great (B : Option Addr) (nl cl n : Nat) (w : World) (hn : n ≤ 2147483647) (hg : 200 < n ∨ 30 < nl) :
    Calls Try.prog 3 #[.int .i64 (n : Nat), .slice B nl cl] w (OnlyTo w (.bool true)) := by
  have HN := keepf (new_ok n w hn)
  have HR := keepf (fun V => rnew16 (n : Int) V)
  rw [rnew_ok n hn] at HR
  have HW := keepf (fun V => works16 V)
  rcases (by by_cases h1 : 200 < n; exact .inl h1; exact .inr ⟨by omega, by omega⟩ : 200 < n ∨ (n ≤ 200 ∧ 30 < nl)) with h1 | ⟨h1, h2⟩
  all_goals
    clear hg hn
    go_enter Try.func3, Try.ntmps3
    go_wp2_with (first
      | (go_at_call 7; refine HN.out.mono ?_; rintro e w1 ⟨g, S, rfl, hS1, hc1, hn1⟩; have HC1 := keepf hc1; clear hS1 hc1 hn1)
      | (go_at_call 8; refine (HR.out w1).mono ?_; rintro e w2 ⟨rfl, rfl⟩)
      | (go_at_call 9; refine (HW.out w1).mono ?_; rintro e w2 ⟨rfl, hc2⟩; have HC2 := keepf hc2; clear hc2))
    go_ret
    exact ⟨rfl, HC1.out.then_ HC2.out⟩

theorem info_pc : (Try.prog.info? 36).map (fun i => (i.zero, i.size, i.bytes)) = some (some (.agg #[.int .i64 0, .slice none 0 0]), 2, 32) := by kernel_rfl

set_option maxHeartbeats 8000000 in
set_option maxRecDepth 100000 in
theorem reads_ok (B : Option Addr) (nl cl n : Nat) (xs : List StS) (w : World) (hX : Src w 4 B nl cl (xs.flatMap encSt)) (hxl : xs.length = nl) (hxa : ∀ x ∈ xs, StAt w x) (hn : n ≤ 200) (hnl : nl ≤ 30) :
    Calls Try.prog 3 #[.int .i64 (n : Nat), .slice B nl cl] w (OnlyTo w (.bool true)) := by
  have HN := keepf (new_ok n w (by omega))
  have HR := keepf (fun V => rnew16 (n : Int) V)
  rw [rnew_ok n (by omega)] at HR
  have HW := keepf (fun V => works16 V)
  have HX := keepf hX
  have HXL := keepf hxl
  have HXA := keepf hxa
  obtain ⟨i0, hi, hz0, hz1, hz2⟩ := info_partsL info_pc
  clear hX hxl hxa
  go_enter Try.func3, Try.ntmps3
  go_wp2_with (first
    | (go_at_call 7; refine HN.out.mono ?_; rintro e w1 ⟨g, S, rfl, hS1, hc1, hn1⟩; have HS1 := keepf hS1; have HC1 := keepf hc1; have HN1 := keepf hn1; clear hS1 hc1 hn1)
    | (go_at_call 8; refine (HR.out w1).mono ?_; rintro e w2 ⟨rfl, rfl⟩))
  have HI0 := keepf (show SrI w w1 n g 0 S [] (.slice none 0 0) [] (fun _ => 0) from ⟨HS1.out, own_nil _ _ _ _, fun i h => by simp [Value.ownBlock] at h, fun x hx => (by cases hx), ⟨Form.nil, fun y hy => (by cases hy), fun q hq => absurd hq (num_nil _), fun q _ => rfl⟩, HC1.out, HN1.out⟩)
  clear HS1 HC1 HN1
  go_loopw [7, 8] (fun v7 v8 wr => ∃ (k : Nat) (S : Nat → Prop) (PL : List PcS) (A : Option Addr) (cp m : Nat) (F : List Sp) (c : Nat → Nat), k ≤ nl ∧ m = PL.length ∧ m ≤ k ∧ F.length ≤ k ∧ v7 = .slice A m cp ∧ v8 = .int .i64 k ∧ Hid (SrI w wr n g (100 * k) S PL (.slice A m cp) F c)) (fun _ v8 _ => nl - (intOf v8).toNat)
  case atStart => exact ⟨0, S, [], none, 0, 0, [], _, by omega, rfl, by omega, by simp, rfl, rfl, HI0.out⟩
  case round =>
    obtain ⟨k, S, PL, A, cp, m, F, c, hk, hml, hmk, hFk, rfl, rfl, HI⟩ := hrel
    clear HI0
    have HML := keepf hml
    have HFK := keepf hFk
    clear hml hFk
    by_cases hlt : k < nl
    · obtain ⟨b9, o9, rfl, ⟨p, D, dc, ds, fr, mo⟩, hx, cx0, cx1, cx2, cx3⟩ := st_cells (src_no HX.out HI.out.ch) HXL.out hlt
      simp only at cx0 cx1 cx2 cx3
      obtain ⟨dl, hdl⟩ : ∃ dl, dl = ds.length := ⟨_, rfl⟩
      have hst := HXA.out _ (List.mem_of_getElem? hx)
      have HST := keepf hst
      have HDL := keepf hdl
      rw [← hdl] at cx1
      have hdlb : dl ≤ 9223372036854775807 := by rw [hdl]; exact hst.len
      clear hx hst hdl
      go_upto_region 11 with fail
      obtain ⟨X, hXe⟩ : ∃ X, X = wr.heap.size := ⟨_, rfl⟩
      obtain ⟨W1, hW1⟩ : ∃ W1, W1 = wr.alloc (.cells #[.int .i64 p, .slice D dl dc, .int .i64 fr, .int .i64 mo] 32) := ⟨_, rfl⟩
      rw [← hXe, ← hW1]
      have hbx : Blk W1 X 32 #[.int .i64 p, .slice D dl dc, .int .i64 fr, .int .i64 mo] := by rw [hW1, hXe]; exact Blk.new _ _ _
      have hc1 : Chg NoS wr W1 := by rw [hW1]; exact (Chg.refl _ _).alloc _
      have HI1 := keepf (HI.out.no hc1)
      have HBX := keepf hbx
      have HXw := keepf hXe
      have c0 := hbx.cell 0
      have c1 := hbx.cell 1
      simp at c0 c1
      clear hXe hW1 hbx hc1 cx0 cx1 cx2 cx3
      by_cases h100 : 100 < dl
      · go_wp2_with (go_at_call 9; refine (HW.out W1).mono ?_; rintro e w2 ⟨rfl, hc2⟩; have HC2 := keepf hc2; clear hc2)
        go_ret
        exact ⟨rfl, HI1.out.ch.then_ HC2.out⟩
      · have hdl2 : dl ≤ 100 := by omega
        clear h100 hdlb
        obtain ⟨f, hf1, hf2⟩ := put_both HI1.out.so p D dl dc ds hn (by rw [HDL.out]; exact src_no HST.out.src HI1.out.ch) HDL.out.symm (by rw [HDL.out]; exact HST.out.cap) hdl2 (by omega) (by have := HFK.out; omega) (fun h0 ad e hi => by
          have h1 := src_low HST.out.src rfl (by have := HDL.out; simp only; omega) ad e
          have h2 := HI1.out.lo _ hi
          omega)
        have HF1 := keepf hf1
        have HF2 := keepf hf2
        clear hf1 hf2
        go_upto_if 67 with (first
          | (go_at_call 10; refine (HF1.out W1).mono ?_; rintro e w2 ⟨rfl, rfl⟩)
          | (go_at_call 11; refine HF2.out.mono ?_; intro e w2 hp2; obtain rfl := hp2.1; have HP2 := keepf hp2; clear hp2))
        go_cut [7] from 36 to 125 (fun v7 wx => ∃ (S' : Nat → Prop) (PL' : List PcS) (A' : Option Addr) (cp' m' : Nat) (F' : List Sp) (c' : Nat → Nat), m' = PL'.length ∧ m' ≤ k + 1 ∧ F'.length ≤ k + 1 ∧ v7 = .slice A' m' cp' ∧ Hid (SrI w wx n g (100 * k + 100) S' PL' (.slice A' m' cp') F' c') ∧ Hid (Blk wx X 32 #[.int .i64 p, .slice D dl dc, .int .i64 fr, .int .i64 mo]))
        case first =>
          rcases HP2.out.2 with ⟨hf0, rfl⟩ | ⟨rfl, u, rfl, hle, hsp⟩
          · have e1 : (f == 0) = false := by simpa using hf0
            clear hf0
            go_wp2_with fail
            go_meet
            exact ⟨S, PL, A, cp, m, F, c, HML.out, by omega, by have := HFK.out; omega, rfl, HI1.out.mono (by omega), HBX.out⟩
          · have hsp2 := hsp
            obtain ⟨_, _, _, _, _, _, _, _, hcs⟩ := hsp2
            have hnx : ¬ S X := fun h => by have := HI.out.so.lt h; have := HXw.out; omega
            have hrow2 : w2.ownsRow 0 36 2 (.slice A m cp) m (PL.flatMap encPc) := by
              have h1 := HI1.out.row
              rw [← HML.out] at h1
              exact own_chg h1 hcs (fun i hi hs => by
                obtain ⟨cs, hb⟩ := own_blk h1 hi
                exact HI1.out.so.noPc hs hb)
            have hbx2 := HBX.out.chg hcs hnx
            have b0 := hbx2.cell 0
            have b1 := hbx2.cell 1
            simp at b0 b1
            have HRow2 := keepf hrow2
            have HSp := keepf hsp
            have HLe := keepf hle
            have HBX2 := keepf hbx2
            clear hsp hcs hnx hrow2 hbx2 hle c0 c1
            go_wp2_with (first
              | (at_builtin; go_loud (refine wpList_append_src rfl (.tmp 68) (.tmp 74) 29 rfl 36 i0 (.agg #[.int .i64 0, .slice none 0 0]) 2 32 Try.underlying29 hi hz0 hz1 hz2 rfl (by decide) (.slice A m cp) _ _ rfl (own_chg (S := NoS) HRow2.out ((Chg.refl _ _).alloc _) (fun _ _ h => h)) _ _ _ [.int .i64 (u : Nat), .slice D dl dc] rfl (src_two_at (by simp)) (by intro v hv; simp at hv; rcases hv with rfl | rfl <;> rfl) (by unfold maxLen; omega) (by omega) ?_); intro V3 w3 hown3 hgr3 hat3; obtain ⟨A3, c3, rfl, _⟩ := own_slice hown3; have HG3 := keepf hgr3; have HO3 := keepf hown3; have HA3 := keepf hat3; clear hgr3 hown3 hat3))
            go_meet
            have hbx3 := (HBX2.out.alloc (.cells #[.int .i64 (u : Nat), .slice D dl dc] 36)).grown HG3.out (fun e => own_ne_blk HRow2.out HBX2.out (by decide) e.symm)
            have hpc : PcAt w ⟨u, D, dc, ds⟩ := ⟨HST.out.src, HST.out.cap, by have := HDL.out; simp only; omega, by have := HLe.out; simp only; omega⟩
            have hO3 := HO3.out
            have hI1 := HI1.out
            rw [HML.out] at hO3 hI1 HG3 HA3
            rw [HDL.out] at hO3 HG3 HA3
            obtain ⟨S', c', hI'⟩ := hI1.put (x := ⟨u, D, dc, ds⟩) hn HLe.out hpc HSp.out HG3.out hO3 HA3.out
            refine ⟨S', PL ++ [⟨u, D, dc, ds⟩], A3, c3, m + 1, putF ((u : Int), ((u + ds.length : Nat) : Int)) F, c', by simp; exact HML.out, by omega, ?_, rfl, ?_, hbx3⟩
            · exact Nat.le_trans (putF_len _ _ HI1.out.kn.form) (by have := HFK.out; omega)
            · show SrI _ _ _ _ _ _ _ _ _ _
              rw [HML.out]
              exact hI'
        case rest =>
          obtain ⟨S', PL', A', cp', m', F', c', hm', hmk', hFk', rfl, HI', HBX'⟩ := hcut
          clear c0 c1 HP2 HF1 HF2
          have c2 := HBX'.out.cell 2
          have c3 := HBX'.out.cell 3
          simp at c2 c3
          obtain ⟨Y, bb, hr1, hr2⟩ := read_both HI'.out hm' (by omega) hn fr mo HST.out.mo.2
          have hIx := HI'.out
          rw [hm'] at hIx
          have hrow' := hIx.prow (by omega)
          rw [← hm'] at hrow'
          have HR1 := keepf hr1
          have HR2 := keepf hr2
          have HFi := keepf (fun (V : World) (hV : Chg NoS wc V) => first_so (HI'.out.so.no hV) fr (by omega))
          have HRF := keepf (fun (V : World) (hV : Chg NoS wc V) => rfirst16 A' m' cp' n PL' F' c' fr V (hrow'.no hV) HI'.out.kn hn HST.out.fr.2)
          have HKn := keepf (fun (V : World) (hV : Chg NoS wc V) => known_so (HI'.out.so.no hV) (by omega))
          have HMa := keepf (fun (V : World) (hV : Chg NoS wc V) => rmarks16 A' m' cp' n PL' V (hrow'.no hV) hn)
          obtain ⟨Q, hQ⟩ : ∃ Q, Q = firstP n F' fr := ⟨_, rfl⟩
          rw [← hQ] at HFi HRF
          have HM' := keepf hm'
          have HFk' := keepf hFk'
          clear hr1 hr2 hrow' hIx hm' hFk' hQ
          go_upto_region 20 with (first
            | (go_at_call 12; refine (HR1.out wc (Chg.refl _ _)).mono ?_; rintro e w3 ⟨A3, m3, c3', rfl, hc3, hv3⟩; have b2 := (HBX'.out.chg hc3 (fun h => h)).cell 2; have b3 := (HBX'.out.chg hc3 (fun h => h)).cell 3; simp at b2 b3; have HC3 := keepf hc3; have HV3 := keepf hv3; clear hc3 hv3)
            | (go_at_call 13; refine (HR2.out w3 HC3.out).mono ?_; rintro e w4 ⟨rfl, hc4⟩; have HC4 := keepf hc4; clear hc4))
          have hb4 : ∀ V, Chg NoS w4 V → V.cell? ⟨X, 2, none⟩ = some (.int .i64 fr) ∧ (convert 30 9 (.slice A3 m3 c3')).run Try.prog V = .ok (.string Y) V := fun V hV => by
            have h1 := (HBX'.out.chg ((HC3.out.then_ HC4.out).then_ hV) (fun h => h)).cell 2
            exact ⟨by simpa using h1, HV3.out V (HC4.out.then_ hV)⟩
          obtain ⟨q4, v4⟩ := hb4 w4.drew (Chg.refl _ _).drew
          have HB4 := keepf hb4
          have HC34 := keepf (HC3.out.then_ HC4.out)
          clear hb4 b2 b3 c2 c3
          first
            | (go_loud (go_region_held3 (fun w' => w'.cell? ⟨X, 2, none⟩ = some (.int .i64 fr) ∧ (convert 30 9 (.slice A3 m3 c3')).run Try.prog w' = .ok (.string Y) w')
                (first | (go_keep; done) | exact ⟨by assumption, by assumption⟩)
                (first
                  | (go_at_call 14; refine (HFi.out w4.drew (HC34.out.drew)).mono ?_; rintro e w5 ⟨rfl, hc5⟩; have HD5 := keepf (show Chg NoS w4 w5 from (Chg.refl NoS w4).drew.then_ hc5); obtain ⟨q5, v5⟩ := HB4.out w5 HD5.out; clear hc5)
                  | (go_at_call 15; refine (HRF.out w5 (HC34.out.then_ HD5.out)).mono ?_; rintro e w6 ⟨rfl, hc6⟩; have HD6 := keepf (HD5.out.then_ hc6); obtain ⟨q6, v6⟩ := HB4.out w6 HD6.out; clear hc6)
                  | (go_at_call 17; refine (HKn.out w6 (HC34.out.then_ HD6.out)).mono ?_; rintro e w7 ⟨A7, c7, rfl, ho7, hc7, hn7⟩; have HO7 := keepf (src_own ho7); have HD7 := keepf (HD6.out.then_ hc7); obtain ⟨q7, v7⟩ := HB4.out w7 HD7.out; clear ho7 hc7 hn7)
                  | (go_at_call 19; refine (HMa.out w7 (HC34.out.then_ HD7.out)).mono ?_; rintro e w8 ⟨gm, cm, rfl, hm8, hc8, hn8⟩; have HM8 := keepf hm8; have HD8 := keepf (HD7.out.then_ hc8); have HD78 := keepf hc8; obtain ⟨q8, v8⟩ := HB4.out w8 HD8.out; clear hm8 hc8 hn8)
                  | (go_at_call 18; refine (spans_all gm n cm _ w8 HM8.out (by omega)).mono ?_; rintro e w9 ⟨L, ⟨hLf, hLn, hLl⟩, A9, c9, rfl, ho9, hc9, hn9⟩; obtain rfl := knows_spans HI'.out.kn hLf hLn; have HO9 := keepf (src_own ho9); have HD9 := keepf (HD8.out.then_ hc9); have HD79 := keepf (HD78.out.then_ hc9); obtain ⟨q9, v9⟩ := HB4.out w9 HD9.out; clear hLf hLn hLl ho9 hc9 hn9)
                  | (go_at_call 16; refine (same_any A7 A9 F'.length F'.length c7 c9 F' F' w9 (src_no HO7.out HD79.out) HO9.out rfl rfl (by have := HFk'.out; unfold maxLen; omega) (by have := HFk'.out; unfold maxLen; omega)).mono ?_; rw [decide_eq_true rfl]; rintro e w10 ⟨rfl, hc10⟩; have HD10 := keepf (HD9.out.then_ hc10); obtain ⟨q10, v10⟩ := HB4.out w10 HD10.out; clear hc10))))
            | fail "region 20"
          go_wp2_with fail
          go_roundw
          case rel => exact ⟨k + 1, S', PL', A', cp', m', F', c', by omega, HM'.out, hmk', HFk'.out, rfl, by go_num, by
            show SrI _ _ _ _ _ _ _ _ _ _
            rw [show 100 * (k + 1) = 100 * k + 100 from by omega]
            exact (HI'.out.no HC34.out).no HD10.out⟩
          case measure => simp [intOf]; omega
    · obtain rfl : k = nl := by omega
      have HTo := keepf (total_so HI.out.so)
      go_wp2_with (first
        | (go_at_call 20; refine HTo.out.mono ?_; rintro e w2 ⟨rfl, rfl⟩)
        | (go_at_call 9; refine (HW.out wr).mono ?_; rintro e w2 ⟨rfl, hc2⟩; have HC2 := keepf hc2; clear hc2))
      go_ret
      exact ⟨rfl, HI.out.ch.then_ HC2.out⟩

end Go.Proofs.Ytnbjigopgbjneaa
