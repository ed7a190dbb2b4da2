/- Merged by program: RefD. -/
import Derived.Test.YtmmilchmnimjoaaGreatN22
/- The document's own unpacking: a block by codes, walked. -/
namespace Go.Proofs.YtmmilchmnimjoaaGreat
open Go.RowKit
set_option linter.unusedVariables false
set_option linter.unusedSimpArgs false
set_option maxHeartbeats 4000000 in
set_option maxRecDepth 100000 in
theorem rcoded_ok (g a most last b : Nat) (bs out r : List Nat) (V So : Value) (w : World) (ls ds : List Int) (A B : Option Addr) (c d : Nat) (h : RS w g bs V a out So most) (hMl : May ls) (hMd : May ds)
    (hL : ∀ W, Chg (fun i => i = g ∨ So.ownBlock = some i) w W → LRow W A c ls) (hD : ∀ W, Chg (fun i => i = g ∨ So.ownBlock = some i) w W → LRow W B d ds)
    (hr : Runs bs most ⟨a, out, .coded ls ds last⟩ (.ok r b)) :
    Calls Tryz.prog 37 #[.pointer (some ⟨g, 0, none⟩), .slice A ls.length c, .slice B ds.length d] w (BlkTo w g bs V So most last r b a) := by
  have hbs : 0 < bs.length := by
    obtain ⟨s, m, ho, _⟩ := runs_coded hr
    have := out_le ho
    omega
  obtain ⟨AV, cV, rfl, _⟩ := own_slice h.bits
  have HML := keepf hMl
  have HMD := keepf hMd
  have HL := keepf hL
  have HD := keepf hD
  have HR := keepf hr
  have HC1 := keepf (rcodesR_ok g a most bs out _ So w ls A c h hMl (hL w (Chg.refl _ _)))
  have HC2 := keepf (fun (W : World) (h1 : RS W g bs (.slice AV (8 * bs.length) cV) a out So most) (h2 : RM g w So W So) => rcodesR_ok g a most bs out _ So W ds B d h1 hMd (hD W h2.1))
  have hlen := h.len
  obtain ⟨n1, hn1⟩ : ∃ n, n = ls.length := ⟨_, rfl⟩
  obtain ⟨n2, hn2⟩ : ∃ n, n = ds.length := ⟨_, rfl⟩
  have HN1 := keepf hn1
  have HN2 := keepf hn2
  obtain ⟨N, hN⟩ : ∃ N, N = 8 * bs.length := ⟨_, rfl⟩
  have HNN := keepf hN
  have hNb : N ≤ 800000 := by omega
  rw [← hn1] at HC1 ⊢
  rw [← hn2] at HC2 ⊢
  rw [← hN] at HC1 HC2 ⊢
  obtain ⟨i0, hi, hz0, hz1, hz2⟩ := info_parts info_ubyte
  clear h hMl hMd hL hD hr hn1 hn2 hN hlen
  go_enter Tryz.func37, Tryz.ntmps37
  go_upto_region 1 with (go_at_call 55; refine HC1.out.mono ?_; rintro e w1 ⟨A1, c1, rfl, ho1, hr1, hm1⟩; have HO1 := keepf ho1; have HR1 := keepf hr1; have HM1 := keepf hm1; clear ho1 hr1 hm1)
  go_upto_region 2 with (go_at_call 55; refine (HC2.out _ HR1.out HM1.out).mono ?_; rintro e w2 ⟨A2, c2, rfl, ho2, hr2, hm2⟩; have HO2 := keepf ho2; have HO3 := keepf (HR1.out.keep hm2 HO1.out (by decide) (by decide)); have HR2 := keepf hr2; have HM2 := keepf (HM1.out.trans hm2); clear ho2 hr2 hm2)
  clear HC1 HC2
  go_wp2_with fail
  go_loopw [8] (fun vk wr => ∃ (k a1 : Nat) (out1 : List Nat) (So1 : Value), k + a ≤ a1 ∧ a1 ≤ N ∧ vk = .int .i64 k ∧ Hid (RS wr g bs (.slice AV N cV) a1 out1 So1 most) ∧ Hid (RM g w2 So wr So1) ∧ Hid (Runs bs most ⟨a1, out1, .coded ls ds last⟩ (.ok r b))) (fun vk _ => 8 * N + 1 - (intOf vk).toNat)
  case atStart => exact ⟨0, a, out, So, by omega, by rw [HNN.out]; exact HR2.out.le, rfl, HR2.out, RM.refl _ _ _, HR.out⟩
  case round =>
    obtain ⟨k, a1, out1, So1, hk, ha1, rfl, HRW, HMW, HRN⟩ := hrel
    rename World => wo
    obtain ⟨Ao, co, rfl, _⟩ := own_slice HRW.out.own
    have e0 := HRW.out.blk.cell 0
    have e2 := HRW.out.blk.cell 2
    simp at e0 e2
    have dk : decide ((k : Int) ≤ 8 * N) = true := by simp; omega
    obtain ⟨s, m, hout, hcase⟩ := runs_coded HRN.out
    have hol := out_le hout
    have hs320 : s < 320 := by have := HML.out.2.1; omega
    have ha2 : a1 + m ≤ N := by rw [HNN.out]; exact hol.2.1
    have hm1 : 1 ≤ m := hol.1
    have HMA := keepf (HM2.out.trans HMW.out)
    have HSY := keepf (rsymbol_ok g a1 most s m bs out1 _ _ wo ls A A1 c c1 HRW.out HML.out (HL.out _ HMA.out.1) (by have h := src_own (HR2.out.keep HMW.out HO3.out (by decide) (by decide)); rw [HN1.out] at h; exact h) hout)
    rw [← HN1.out] at HSY
    have HCASE := keepf hcase
    clear hcase hout hol
    go_outline
    go_upto_region 6 with (go_at_call 56; refine HSY.out.mono ?_; rintro e w3 ⟨rfl, hr3, hm3⟩; have HR3 := keepf hr3; have HM3 := keepf (HMW.out.trans hm3); have e3 := hr3.blk.cell 2; clear hr3 hm3)
    simp at e3
    clear e0 e2 dk HSY
    rcases HCASE.out with ⟨h1, h2⟩ | ⟨h1, h2, h3⟩ | ⟨h1, x, n, h2, h3, h4⟩
    · subst h1
      have HE := keepf h2
      clear h2
      go_wp2_with fail
      go_end0
      exact ⟨a1 + m, out1, _, rfl, HR3.out, HM2.out.trans HM3.out, HE.out, by omega⟩
    · have u1 : ((s : Int) == 256) = false := by simp; omega
      have u2 : decide ((s : Int) < 256) = true := by simp; omega
      have HP := keepf (rput_ok g (a1 + m) s most bs out1 _ _ w3 HR3.out h1 h2)
      have HE := keepf h3
      clear h2 h3
      go_wp2_with (go_at_call 54; refine HP.out.mono ?_; rintro e w4 ⟨So4, rfl, hr4, hm4⟩; have HR4 := keepf hr4; have HM4 := keepf (HM3.out.trans hm4); clear hr4 hm4)
      go_roundw
      case rel => exact ⟨k + 1, a1 + m, out1 ++ [s], So4, by omega, ha2, by go_num, HR4.out, HM4.out, HE.out⟩
      case measure => simp [intOf]; omega
    · have u1 : ((s : Int) == 256) = false := by simp; omega
      have u2 : decide ((s : Int) < 256) = false := by simp; omega
      obtain ⟨s2, m2, y, n', ho2, hy, q1, q2, q3, q4⟩ := runs_dist h4
      obtain ⟨lx, ln, _, _⟩ := lenOf_le h2
      obtain ⟨dy1, dy2, dn⟩ := distOf_le hy
      have hol2 := out_le ho2
      have hnum1 := numAt_lt bs (a1 + m) n
      have hnum2 := numAt_lt bs (a1 + m + n + m2) n'
      have hp1 : 2 ^ n ≤ 2 ^ 6 := Nat.pow_le_pow_right (by decide) ln
      have hp2 : 2 ^ n' ≤ 2 ^ 14 := Nat.pow_le_pow_right (by decide) dn
      have HLE := keepf (rlength_ok s x n w3 h2)
      have HDI := keepf (fun (W : World) => rdistance_ok s2 y n' W hy)
      obtain ⟨k1, hk1⟩ : ∃ k1, k1 = numAt false bs (a1 + m) n := ⟨_, rfl⟩
      obtain ⟨k2, hk2⟩ : ∃ k2, k2 = numAt false bs (a1 + m + n + m2) n' := ⟨_, rfl⟩
      rw [← hk1] at q3 q4 hnum1
      rw [← hk2] at q2 q4 hnum2
      have HB1 := keepf (rnumber_any g (a1 + m) n most bs out1 _ _ w3 HR3.out (by omega) (by omega) hbs)
      rw [← hk1] at HB1
      have hb2 : a1 + m + n + m2 + n' ≤ N := by rw [HNN.out]; exact q1
      have HB2 := keepf (fun (W : World) (hW : RS W g bs (.slice AV N cV) (a1 + m + n + m2) out1 (.slice Ao out1.length co) most) => show Calls Tryz.prog 34 #[.pointer (some ⟨g, 0, none⟩), .int .i64 n'] W (RTo W g bs (.slice AV N cV) (a1 + m + n + m2 + n') out1 (.slice Ao out1.length co) most (.int .i64 k2)) by
        have h := rnumber_any g (a1 + m + n + m2) n' most bs out1 _ _ W hW q1 (by omega) hbs
        rw [← hk2] at h
        exact h)
      have HS2 := keepf (fun (W : World) (hW : RS W g bs (.slice AV N cV) (a1 + m + n) out1 (.slice Ao out1.length co) most) (hm : RM g w2 So W (.slice Ao out1.length co)) => show Calls Tryz.prog 56 #[.pointer (some ⟨g, 0, none⟩), .slice B n2 d, .slice A2 n2 c2] W (RTo W g bs (.slice AV N cV) (a1 + m + n + m2) out1 (.slice Ao out1.length co) most (.int .i64 s2)) by
        have h := rsymbol_ok g (a1 + m + n) most s2 m2 bs out1 _ _ W ds B A2 d c2 hW HMD.out (HD.out _ (HM2.out.trans hm).1) (by have h := src_own (HR2.out.keep hm HO2.out (by decide) (by decide)); rw [HN2.out] at h; exact h) ho2
        rw [← HN2.out] at h
        exact h)
      obtain ⟨X, hX⟩ : ∃ X, X = x + k1 := ⟨_, rfl⟩
      obtain ⟨Y, hY⟩ : ∃ Y, Y = y + k2 := ⟨_, rfl⟩
      rw [← hX] at q3 q4
      rw [← hY] at q2 q4
      have hX2 : (x : Int) + k1 = X := by omega
      have hY2 : (y : Int) + k2 = Y := by omega
      have hX3 : X ≤ 400 := by omega
      have hY3 : Y ≤ 60000 := by omega
      have hY1 : 1 ≤ Y := by omega
      have hmst := HR3.out.mst
      have hole := HR3.out.ole
      obtain ⟨mo, hmo⟩ : ∃ mo, mo = out1.length := ⟨_, rfl⟩
      have HMO := keepf hmo
      have HQ4 := keepf q4
      rw [← hmo] at q2 q3 hole HB2 HS2 HB1 HR3
      have HM3' := keepf (show RM g w2 So w3 (.slice Ao mo co) by rw [hmo]; exact HM3.out)
      clear h4 ho2 hy hol2 hnum1 hnum2 hp1 hp2 hk1 hk2 q4 q1 hX hY hmo h2
      go_upto_region 12 with (go_at_call 57; refine HLE.out.mono ?_; rintro e w' ⟨rfl, rfl⟩)
      go_upto_region 13 with (go_at_call 34; refine HB1.out.mono ?_; rintro e w4 ⟨rfl, hr4, hm4⟩; have HR4 := keepf hr4; have HM4 := keepf (HM3'.out.trans hm4); clear hr4 hm4)
      clear HB1 HLE
      go_upto_region 14 with (first
        | (go_at_call 56; refine (HS2.out _ HR4.out HM4.out).mono ?_; rintro e w5 ⟨rfl, hr5, hm5⟩; have HR5 := keepf hr5; have HM5 := keepf (HM4.out.trans hm5); have e5 := hr5.blk.cell 2; clear hr5 hm5)
        | (go_at_call 58; refine (HDI.out _).mono ?_; rintro e w' ⟨rfl, rfl⟩))
      simp at e5
      clear HS2 HDI e3
      go_upto_region 17 with (go_at_call 34; refine (HB2.out _ HR5.out).mono ?_; rintro e w6 ⟨rfl, hr6, hm6⟩; have HR6 := keepf hr6; have HM6 := keepf (HM5.out.trans hm6); have e6 := hr6.blk.cell 2; have e7 := hr6.blk.cell 3; have e8 := hr6.blk.cell 4; clear hr6 hm6)
      simp at e6 e7 e8
      clear HB2 e5
      have d3 : decide ((mo : Int) < Y) = false := by simp; omega
      have d3' : decide (mo < Y) = false := by simp; omega
      have d4 : decide ((most : Int) - mo < X) = false := by simp; omega
      have d5 : IntKind.i64.wrap ((most : Int) - mo) = (most : Int) - mo := by rw [IntKind.wrap_i64]; omega
      go_upto_region 20 with fail
      go_quiet (fail)
      go_wp2_with fail
      obtain ⟨a3, ha3⟩ : ∃ a3, a3 = a1 + m + n + m2 + n' := ⟨_, rfl⟩
      rw [← ha3] at hb2 HQ4
      have ha3k : k + 1 + a ≤ a3 := by omega
      have HR7 := keepf (show RS (w6.drewN nq) g bs (.slice AV N cV) a3 out1 (.slice Ao mo co) most by rw [ha3]; exact HR6.out.drewN nq)
      have HM7 := keepf (HM6.out.drewN nq)
      clear HR6 HM6 HR5 HM5 HR4 HM4 HM3' HR3 HM3 e6 e7 e8 d3 d3' d4 d5 ha3
      go_loopw [16] (fun vj wr => ∃ (j : Nat) (So3 : Value), j ≤ X ∧ vj = .int .i64 j ∧ Hid (RS wr g bs (.slice AV N cV) a3 (rep Y j out1) So3 most) ∧ Hid (RM g w2 So wr So3)) (fun vj _ => X - (intOf vj).toNat)
      case atStart => exact ⟨0, _, Nat.zero_le _, rfl, HR7.out, HM7.out⟩
      case round =>
        clear HR7 HM7
        obtain ⟨j, So3, hj, rfl, HI, HMJ⟩ := hrel
        by_cases hjx : j < X
        · have hPj := HI.out
          have hln := rep_len Y j out1
          obtain ⟨o, ho⟩ : ∃ o, o = rep Y j out1 := ⟨_, rfl⟩
          rw [← ho] at hPj hln
          rw [← HMO.out] at hln
          obtain ⟨gb, cap2, hSo, hcap1, hcap2⟩ := own_form hPj.own (by omega)
          subst hSo
          have e1 := hPj.blk.cell 3
          have q1 := hPj.blk.frozen 3
          simp at e1
          obtain ⟨q, hq⟩ : ∃ q, q = o.length - Y := ⟨_, rfl⟩
          have hql : q < o.length := by omega
          obtain ⟨z, hz⟩ : ∃ z, z = o.getD q 0 := ⟨_, rfl⟩
          have e2 := hPj.own.cellAt q (by omega)
          have hx2 : (ucells o)[q]? = some (.int .u8 (z : Nat)) := by
            rw [hz]
            simp [ucells, List.getD_eq_getElem?_getD, hql]
          rw [hx2] at e2
          have lb : gb < wr.heap.size := own_lt hPj.own rfl
          have lg : g < wr.heap.size := hPj.blk.lt
          have ng : g ≠ gb := fun e => own_ne_blk hPj.own hPj.blk (by decide) (by rw [e]; rfl)
          have HO := keepf ho
          have HZ := keepf hz
          have HQ := keepf hq
          have HPj := keepf hPj
          have HBK := keepf HPj.out.blk
          have HOW := keepf HPj.out.own
          have hNN : o.length ≤ 16777216 := by omega
          obtain ⟨n5, hn5⟩ : ∃ n, n = o.length := ⟨_, rfl⟩
          have HN5 := keepf hn5
          have HLT := keepf (show o.length < most by omega)
          rw [← hn5] at e1 hql hcap1 hNN hq HPj HOW
          have t0 : IntKind.i64.wrap ((n5 : Int) - Y) = (n5 : Int) - Y := by rw [IntKind.wrap_i64]; omega
          have t1 : (0 : Int) ≤ (n5 : Int) - Y := by omega
          have t2 : (n5 : Int) - Y < n5 := by omega
          have t3 : ((n5 : Int) - Y).toNat = q := by omega
          have t4 : Y ≤ n5 := by omega
          clear hPj ho hz hx2 hq hln hn5
          go_upto_region 25 with fail
          first
            | (go_loud (go_region_law
                (refine step_append_lies _ (by rfl) _ _ _ (by rfl) 0 5 i0 _ 1 1 Tryz.underlying22 hi hz0 hz1 hz2 rfl (by omega) (.slice (some ⟨gb, 0, none⟩) n5 cap2) n5 (ucells o) (by rfl) ((own_chg (S := NoS) HOW.out ((Chg.refl _ _).alloc _) (fun _ _ h => h)).drew)
                      ⟨wr.heap.size, 0, none⟩ 1 1 [.int .u8 (z : Nat)] (by rfl) (by rfl) (World.news_of_block (cs := #[.int .u8 (z : Nat)]) (t := 5) (fr := (0, 0)) (heap_alloc_new wr _)) (by intro u hu; simp at hu; subst hu; rfl)
                      (by omega) (by unfold maxLen; omega) (by omega) (Nat.zero_le _) (wr.heap.size + 1) (by simp) ?_; intro gg cap w1' hown1 hgrow hat hlt1; have hb1 := ((HBK.out.alloc _).drew).grown hgrow (by simp [Value.ownBlock]; omega); have q3 := hb1.frozen 3; have e3 := hb1.cell 3; clear hb1)))
            | fail "region"
          all_goals
            have hdone := rput_done (w := wr.drew) (x := z) (o := .cells #[.int .u8 (z : Nat)] 5) (HPj.out.no ((Chg.refl NoS _).drew)) HLT.out (by rw [← HN5.out]; exact hown1) hgrow (by
              rcases hat with h | h
              · exact .inl h.symm
              · exact .inr (by rw [h]; simp [Value.ownBlock]))
            have hrep : rep Y (j + 1) out1 = o ++ [z] := by rw [rep_snoc, ← HO.out, HZ.out, HQ.out]
            have HDN := keepf hdone
            have HRP := keepf hrep
            clear hdone hrep hown1 hgrow hat hlt1
            go_wp2_with fail
            go_roundw
            case rel => exact ⟨j + 1, .slice (some ⟨gg, 0, none⟩) (n5 + 1) cap, by omega, by go_num, by rw [HRP.out]; exact HDN.out.1, HMJ.out.trans ⟨HDN.out.2.1.undrewN (n := 1), HDN.out.2.2⟩⟩
            case measure => simp [intOf]; omega
        · obtain rfl : j = X := by omega
          go_wp2_with fail
          go_roundw
          case rel => exact ⟨k + 1, a3, rep Y j out1, So3, by omega, hb2, by go_num, HI.out, HMJ.out, HQ4.out⟩
          case measure => simp [intOf]; omega
end Go.Proofs.YtmmilchmnimjoaaGreat
