/- Merged by program: RLen In7. -/
import Derived.Test.YtlijfdflghepcaaGreatM00
import Derived.Test.YtlijfdflghepcaaGreatM05
import Derived.Test.YtlijfdflghepcaaGreatM12
import Derived.Test.YtlijfdflghepcaaGreatM13
import Derived.Test.YtlijfdflghepcaaGreatM17
import Derived.BigQuiet
import Derived.OpenShut
/- The document's own Lengths: what symbols of lengths tell (written by wip/tools/mkrlen.py). -/
namespace Go.Proofs.YtlijfdflghepcaaGreat
open Go.RowKit
set_option linter.unusedVariables false
set_option linter.unusedSimpArgs false

/-- A symbol adds so many times a number. -/
def rTimes (s v : Nat) : Nat := if s = 16 then 3 + v else if s = 17 then 3 + v else if s = 18 then 11 + v else 1
def rVal (l : List Int) (s : Nat) : Int := if s = 16 then l.getD (l.length - 1) 0 else if s = 17 then 0 else if s = 18 then 0 else s
theorem runAdds_rep (l : List Int) (s v : Nat) : runAdds l s v = l ++ List.replicate (rTimes s v) (rVal l s) := by
  unfold runAdds rTimes rVal
  split
  · rfl
  · split
    · rfl
    · split
      · rfl
      · rfl
theorem RunsOk.at_ : ∀ {R : List Rn} {l : List Int}, RunsOk l R → ∀ {k : Nat} {r : Rn}, R[k]? = some r → r.1 ≤ 18 ∧ r.2 < 2 ^ runBits r.1 ∧ (r.1 = 16 → adds l (R.take k) ≠ [])
  | [], _, _, k, r, h => by simp at h
  | x :: R, l, h, 0, r, hr => by
    simp only [List.getElem?_cons_zero, Option.some.injEq] at hr
    subst hr
    exact ⟨h.1, h.2.1, h.2.2.1⟩
  | x :: R, l, h, k + 1, r, hr => by
    simp only [List.getElem?_cons_succ] at hr
    exact RunsOk.at_ h.2.2.2 hr

set_option maxHeartbeats 1000000 in
set_option maxRecDepth 100000 in
theorem rlen_ok (R : List Rn) (A : Option Addr) (c : Nat) (w : World) (hS : Src w 2 A R.length c (xcells R)) (hR : RunsOk [] R) (hl : (adds [] R).length ≤ 1000) :
    Calls Tryz.prog 23 #[.slice A R.length c] w fun e w' => ∃ A2 c2, e = .returned (.tuple #[.slice A2 (adds [] R).length c2, .bool true]) ∧ w'.ownsRow 0 3 1 (.slice A2 (adds [] R).length c2) (adds [] R).length (icells (adds [] R)) ∧ Chg NoS w w' := by
  have HS := keepf hS
  have HR := keepf hR
  have HL := keepf hl
  have hRl : R.length ≤ 1000 := by have := adds_len R []; simp at this; omega
  obtain ⟨n, hn⟩ : ∃ n, n = R.length := ⟨_, rfl⟩
  rw [← hn] at HS hRl ⊢
  have HN := keepf hn
  obtain ⟨i0, hi, hz0, hz1, hz2⟩ := info_parts info_int
  clear hS hR hl hn
  go_enter Tryz.func23, Tryz.ntmps23
  go_wp2_with fail
  go_loopw [4, 5] (fun vo vi wr => ∃ (k : Nat) (l : List Int) (A2 : Option Addr) (c2 : Nat), k ≤ n ∧ vi = .int .i64 (k : Nat) ∧ vo = .slice A2 l.length c2 ∧ Hid (l = adds [] (R.take k)) ∧ Hid (wr.ownsRow 0 3 1 (.slice A2 l.length c2) l.length (icells l)) ∧ Hid (Chg NoS w wr) ∧ Hid (∀ a, A2 = some a → w.heap.size ≤ a.block)) (fun _ vi _ => n - (intOf vi).toNat)
  case atStart => exact ⟨0, [], none, 0, Nat.zero_le _, rfl, rfl, rfl, own_nil _ _ _ _, Chg.refl _ _, fun a h => by cases h⟩
  case round =>
    obtain ⟨k, l, A2, c2, hk, rfl, rfl, HLL, HO, HCH, HNEW⟩ := hrel
    by_cases hlt : k < n
    · obtain ⟨r, hr⟩ : ∃ r, R[k]? = some r := ⟨_, List.getElem?_eq_getElem (by have := HN.out; omega)⟩
      obtain ⟨hr1, hr2, hr3⟩ := HR.out.at_ hr
      rw [← HLL.out] at hr3
      have htk : R.take (k + 1) = R.take k ++ [r] := by rw [List.take_add_one, hr]; rfl
      have hadd : adds [] (R.take (k + 1)) = l ++ List.replicate (rTimes r.1 r.2) (rVal l r.1) := by
        rw [htk, adds_app, ← HLL.out]
        show runAdds l r.1 r.2 = _
        rw [runAdds_rep]
      have hlen : l.length + rTimes r.1 r.2 ≤ 1000 := by
        have h1 : adds [] R = adds (adds [] (R.take (k + 1))) (R.drop (k + 1)) := by rw [← adds_app, List.take_append_drop]
        have h2 := (adds_pre (R.drop (k + 1)) (adds [] (R.take (k + 1)))).length_le
        rw [← h1, hadd, List.length_append, List.length_replicate] at h2
        have := HL.out
        omega
      obtain ⟨b, off, rfl, hcell⟩ := (HS.out.below (w0 := w) HCH.out).plain (by rw [xcells_len, ← HN.out]; omega)
      have c0 := hcell _ _ (xcells_0 hr)
      have c1 := hcell _ _ (xcells_1 hr)
      rw [← Nat.add_assoc] at c1
      obtain ⟨s, v⟩ := r
      simp only at hr1 hr2 hr3 c0 c1 hadd hlen
      obtain ⟨q, hq⟩ : ∃ q, q = l.length := ⟨_, rfl⟩
      have HQ := keepf hq
      have HADD := keepf hadd
      rw [← hq] at hlen HO ⊢
      have ht1 : 1 ≤ rTimes s v := by
        unfold rTimes
        repeat' split
        all_goals omega
      have HT1 := keepf ht1
      have HLEN := keepf hlen
      have hvb : v ≤ 127 := by
        have h2 : 2 ^ runBits s ≤ 2 ^ 7 := Nat.pow_le_pow_right (by decide) (by
          unfold runBits
          repeat' split
          all_goals omega)
        omega
      clear hcell hr htk hadd hq hlen ht1
      rcases Nat.lt_or_ge s 16 with hs | hs
      ·
        have u1 : ((s : Int) == 16) = false := by simp; omega
        have u2 : ((s : Int) == 17) = false := by simp; omega
        have u3 : ((s : Int) == 18) = false := by simp; omega
        obtain rfl : v = 0 := by have : runBits s = 0 := by unfold runBits; rw [if_neg (by omega), if_neg (by omega), if_neg (by omega)]
                                 rw [this] at hr2; omega
        have u4 : decide ((s : Int) < 0) = false := by simp
        have u5 : decide ((15 : Int) < (s : Int)) = false := by simp; omega
        have u6 : decide (15 < s) = false := by simp; omega
        have HTM := keepf (show (1 : Nat) = rTimes s 0 by unfold rTimes; rw [if_neg (by omega), if_neg (by omega), if_neg (by omega)])
        have HXV := keepf (show (s : Int) = rVal l s by unfold rVal; rw [if_neg (by omega), if_neg (by omega), if_neg (by omega)])
        clear hr2 hr3
        go_upto_region 6 with fail
        go_quiet (fail)
        go_upto_region 27 with fail
        skip
        have htb : q + 1 ≤ 1000 := by have h1 := HLEN.out; have h2 := HTM.out; omega
        skip
        have HOQ := keepf (own_drewN HO.out nq)
        have HCQ := keepf (HCH.out.drewN nq)
        go_loopw [4, 10] (fun vo vj wr2 => ∃ (j : Nat) (A3 : Option Addr) (c3 : Nat), j ≤ 1 ∧ vj = .int .i64 (j : Nat) ∧ vo = .slice A3 (q + j) c3 ∧ Hid (wr2.ownsRow 0 3 1 (.slice A3 (q + j) c3) (q + j) (icells (l ++ List.replicate j ((s : Int))))) ∧ Hid (Chg NoS w wr2) ∧ Hid (∀ a, A3 = some a → w.heap.size ≤ a.block)) (fun _ vj _ => 1 - (intOf vj).toNat)
        case atStart => exact ⟨0, _, c2, Nat.zero_le _, rfl, rfl, by rw [List.replicate_zero, List.append_nil]; exact HOQ.out, HCQ.out, HNEW.out⟩
        case round =>
          obtain ⟨j, A3, c3, hj, rfl, rfl, HO3, HC3, HN3⟩ := hrel
          by_cases hlt2 : j < 1
          · go_wp2_with (at_builtin; refine wpList_append_src rfl (.tmp 85) (.tmp 87) 34 rfl 3 i0 (.int .i64 0) 1 8 Tryz.underlying34 hi hz0 hz1 hz2 rfl (by decide) (.slice A3 (q + j) c3) (q + j) _ rfl (own_chg (S := NoS) HO3.out ((Chg.refl _ _).alloc _) (fun _ _ h => h)) _ _ _ [.int .i64 (s : Int)] rfl (srcOneAt (by simp)) (by simp [Value.oneCell']) (by unfold maxLen; omega) (by omega) ?_; intro S4 w4 hown4 hgr4 hat4; obtain ⟨A4, c4, rfl, hA4⟩ := own_slice hown4; have HO4 := keepf hown4; have HG4 := keepf hgr4; have HA4 := keepf hat4; clear hown4 hgr4 hat4 hA4)
            go_roundw
            case rel =>
              refine ⟨j + 1, A4, c4, by omega, by go_num, rfl, ?_, grow_chg HC3.out HN3.out ((Chg.refl NoS _).alloc _) HG4.out, grow_new HN3.out (by have := HC3.out.size; simp; omega) HA4.out⟩
              have h := HO4.out
              have e : icells (l ++ List.replicate (j + 1) ((s : Int))) = icells (l ++ List.replicate j ((s : Int))) ++ [.int .i64 (s : Int)] := by rw [List.replicate_succ', ← List.append_assoc]; simp [icells]
              rw [e]
              exact h
            case measure => simp [intOf]; omega
          · obtain hjt : j = 1 := by omega
            subst hjt
            go_wp2_with fail
            go_roundw
            case rel =>
              refine ⟨k + 1, l ++ List.replicate 1 ((s : Int)), A3, c3, by omega, by go_num, by rw [List.length_append, List.length_replicate, ← HQ.out], ?_, by rw [List.length_append, List.length_replicate, ← HQ.out]; exact HO3.out, HC3.out, HN3.out⟩
              rw [HADD.out, ← HTM.out, ← HXV.out]
              exact rfl
            case measure => simp [intOf]; omega
      · rcases Nat.lt_or_ge s 17 with hs2 | hs2
        ·
          obtain rfl : s = 16 := by omega
          have hv : v < 4 := by simpa [runBits] using hr2
          have u4 : decide ((v : Int) < 0) = false := by simp
          have u5 : decide ((3 : Int) < (v : Int)) = false := by simp; omega
          have u6 : decide (3 < v) = false := by simp; omega
          have HTM0 := keepf (show 3 + v = rTimes 16 v from rfl)
          have hq0 : 1 ≤ q := by have h1 := hr3 rfl; have h2 := List.length_pos_iff.2 h1; have h3 := HQ.out; omega
          have u7 : ((q : Int) == 0) = false := by simp; omega
          obtain ⟨z, hz⟩ : ∃ z, l[q - 1]? = some z := ⟨_, List.getElem?_eq_getElem (by have := HQ.out; omega)⟩
          obtain ⟨b2, off2, rfl, hcell2⟩ := (src_own HO.out).plain (by rw [icells_len, ← HQ.out]; omega)
          have cz := hcell2 _ _ (icells_get hz)
          have HXV := keepf (show z = rVal l 16 by show z = l.getD (l.length - 1) 0; rw [← HQ.out, List.getD_eq_getElem?_getD, hz]; rfl)
          have hqb : q ≤ 1000 := by have := HLEN.out; omega
          obtain ⟨q9, hq9⟩ : ∃ q9, q9 = q - 1 := ⟨_, rfl⟩
          have hq6 : q9 ≤ 1000 := by omega
          rw [← hq9] at cz
          have hq8 : (q : Int) - 1 = (q9 : Int) := by omega
          have hq7 : (q9 : Int) < q := by omega
          clear hq9 hcell2 hz hr2 hr3
          go_upto_region 6 with fail
          go_quiet (fail)
          go_upto_region 27 with fail
          obtain ⟨T, hT⟩ : ∃ T, T = 3 + v := ⟨_, rfl⟩
          rw [show (3 : Int) + v = ((T : Nat) : Int) from by omega]
          have HTM := keepf (show T = rTimes 16 v by rw [hT]; exact HTM0.out)
          clear hT u4 u5 u6 hv
          have htb : q + T ≤ 1000 := by have h1 := HLEN.out; have h2 := HTM.out; omega
          skip
          have HOQ := keepf (own_drewN HO.out nq)
          have HCQ := keepf (HCH.out.drewN nq)
          go_loopw [4, 10] (fun vo vj wr2 => ∃ (j : Nat) (A3 : Option Addr) (c3 : Nat), j ≤ T ∧ vj = .int .i64 (j : Nat) ∧ vo = .slice A3 (q + j) c3 ∧ Hid (wr2.ownsRow 0 3 1 (.slice A3 (q + j) c3) (q + j) (icells (l ++ List.replicate j (z)))) ∧ Hid (Chg NoS w wr2) ∧ Hid (∀ a, A3 = some a → w.heap.size ≤ a.block)) (fun _ vj _ => T - (intOf vj).toNat)
          case atStart => exact ⟨0, _, c2, Nat.zero_le _, rfl, rfl, by rw [List.replicate_zero, List.append_nil]; exact HOQ.out, HCQ.out, HNEW.out⟩
          case round =>
            obtain ⟨j, A3, c3, hj, rfl, rfl, HO3, HC3, HN3⟩ := hrel
            by_cases hlt2 : j < T
            · go_wp2_with (at_builtin; refine wpList_append_src rfl (.tmp 85) (.tmp 87) 34 rfl 3 i0 (.int .i64 0) 1 8 Tryz.underlying34 hi hz0 hz1 hz2 rfl (by decide) (.slice A3 (q + j) c3) (q + j) _ rfl (own_chg (S := NoS) HO3.out ((Chg.refl _ _).alloc _) (fun _ _ h => h)) _ _ _ [.int .i64 z] rfl (srcOneAt (by simp)) (by simp [Value.oneCell']) (by unfold maxLen; omega) (by omega) ?_; intro S4 w4 hown4 hgr4 hat4; obtain ⟨A4, c4, rfl, hA4⟩ := own_slice hown4; have HO4 := keepf hown4; have HG4 := keepf hgr4; have HA4 := keepf hat4; clear hown4 hgr4 hat4 hA4)
              go_roundw
              case rel =>
                refine ⟨j + 1, A4, c4, by omega, by go_num, rfl, ?_, grow_chg HC3.out HN3.out ((Chg.refl NoS _).alloc _) HG4.out, grow_new HN3.out (by have := HC3.out.size; simp; omega) HA4.out⟩
                have h := HO4.out
                have e : icells (l ++ List.replicate (j + 1) (z)) = icells (l ++ List.replicate j (z)) ++ [.int .i64 z] := by rw [List.replicate_succ', ← List.append_assoc]; simp [icells]
                rw [e]
                exact h
              case measure => simp [intOf]; omega
            · obtain hjt : j = T := by omega
              subst hjt
              go_wp2_with fail
              go_roundw
              case rel =>
                refine ⟨k + 1, l ++ List.replicate j (z), A3, c3, by omega, by go_num, by rw [List.length_append, List.length_replicate, ← HQ.out], ?_, by rw [List.length_append, List.length_replicate, ← HQ.out]; exact HO3.out, HC3.out, HN3.out⟩
                rw [HADD.out, ← HTM.out, ← HXV.out]
                exact rfl
              case measure => simp [intOf]; omega
        · rcases Nat.lt_or_ge s 18 with hs3 | hs3
          ·
            obtain rfl : s = 17 := by omega
            have hv : v < 8 := by simpa [runBits] using hr2
            have u4 : decide ((v : Int) < 0) = false := by simp
            have u5 : decide ((7 : Int) < (v : Int)) = false := by simp; omega
            have u6 : decide (7 < v) = false := by simp; omega
            have HTM0 := keepf (show 3 + v = rTimes 17 v from rfl)
            have HXV := keepf (show (0 : Int) = rVal l 17 from rfl)
            clear hr2 hr3
            go_upto_region 6 with fail
            go_quiet (fail)
            go_upto_region 27 with fail
            obtain ⟨T, hT⟩ : ∃ T, T = 3 + v := ⟨_, rfl⟩
            rw [show (3 : Int) + v = ((T : Nat) : Int) from by omega]
            have HTM := keepf (show T = rTimes 17 v by rw [hT]; exact HTM0.out)
            clear hT u4 u5 u6 hv
            have htb : q + T ≤ 1000 := by have h1 := HLEN.out; have h2 := HTM.out; omega
            skip
            have HOQ := keepf (own_drewN HO.out nq)
            have HCQ := keepf (HCH.out.drewN nq)
            go_loopw [4, 10] (fun vo vj wr2 => ∃ (j : Nat) (A3 : Option Addr) (c3 : Nat), j ≤ T ∧ vj = .int .i64 (j : Nat) ∧ vo = .slice A3 (q + j) c3 ∧ Hid (wr2.ownsRow 0 3 1 (.slice A3 (q + j) c3) (q + j) (icells (l ++ List.replicate j ((0 : Int))))) ∧ Hid (Chg NoS w wr2) ∧ Hid (∀ a, A3 = some a → w.heap.size ≤ a.block)) (fun _ vj _ => T - (intOf vj).toNat)
            case atStart => exact ⟨0, _, c2, Nat.zero_le _, rfl, rfl, by rw [List.replicate_zero, List.append_nil]; exact HOQ.out, HCQ.out, HNEW.out⟩
            case round =>
              obtain ⟨j, A3, c3, hj, rfl, rfl, HO3, HC3, HN3⟩ := hrel
              by_cases hlt2 : j < T
              · go_wp2_with (at_builtin; refine wpList_append_src rfl (.tmp 85) (.tmp 87) 34 rfl 3 i0 (.int .i64 0) 1 8 Tryz.underlying34 hi hz0 hz1 hz2 rfl (by decide) (.slice A3 (q + j) c3) (q + j) _ rfl (own_chg (S := NoS) HO3.out ((Chg.refl _ _).alloc _) (fun _ _ h => h)) _ _ _ [.int .i64 (0 : Int)] rfl (srcOneAt (by simp)) (by simp [Value.oneCell']) (by unfold maxLen; omega) (by omega) ?_; intro S4 w4 hown4 hgr4 hat4; obtain ⟨A4, c4, rfl, hA4⟩ := own_slice hown4; have HO4 := keepf hown4; have HG4 := keepf hgr4; have HA4 := keepf hat4; clear hown4 hgr4 hat4 hA4)
                go_roundw
                case rel =>
                  refine ⟨j + 1, A4, c4, by omega, by go_num, rfl, ?_, grow_chg HC3.out HN3.out ((Chg.refl NoS _).alloc _) HG4.out, grow_new HN3.out (by have := HC3.out.size; simp; omega) HA4.out⟩
                  have h := HO4.out
                  have e : icells (l ++ List.replicate (j + 1) ((0 : Int))) = icells (l ++ List.replicate j ((0 : Int))) ++ [.int .i64 (0 : Int)] := by rw [List.replicate_succ', ← List.append_assoc]; simp [icells]
                  rw [e]
                  exact h
                case measure => simp [intOf]; omega
              · obtain hjt : j = T := by omega
                subst hjt
                go_wp2_with fail
                go_roundw
                case rel =>
                  refine ⟨k + 1, l ++ List.replicate j ((0 : Int)), A3, c3, by omega, by go_num, by rw [List.length_append, List.length_replicate, ← HQ.out], ?_, by rw [List.length_append, List.length_replicate, ← HQ.out]; exact HO3.out, HC3.out, HN3.out⟩
                  rw [HADD.out, ← HTM.out, ← HXV.out]
                  exact rfl
                case measure => simp [intOf]; omega
          ·
            obtain rfl : s = 18 := by omega
            have hv : v < 128 := by simpa [runBits] using hr2
            have u4 : decide ((v : Int) < 0) = false := by simp
            have u5 : decide ((127 : Int) < (v : Int)) = false := by simp; omega
            have u6 : decide (127 < v) = false := by simp; omega
            have HTM0 := keepf (show 11 + v = rTimes 18 v from rfl)
            have HXV := keepf (show (0 : Int) = rVal l 18 from rfl)
            clear hr2 hr3
            go_upto_region 6 with fail
            go_quiet (fail)
            go_upto_region 27 with fail
            obtain ⟨T, hT⟩ : ∃ T, T = 11 + v := ⟨_, rfl⟩
            rw [show (11 : Int) + v = ((T : Nat) : Int) from by omega]
            have HTM := keepf (show T = rTimes 18 v by rw [hT]; exact HTM0.out)
            clear hT u4 u5 u6 hv
            have htb : q + T ≤ 1000 := by have h1 := HLEN.out; have h2 := HTM.out; omega
            skip
            have HOQ := keepf (own_drewN HO.out nq)
            have HCQ := keepf (HCH.out.drewN nq)
            go_loopw [4, 10] (fun vo vj wr2 => ∃ (j : Nat) (A3 : Option Addr) (c3 : Nat), j ≤ T ∧ vj = .int .i64 (j : Nat) ∧ vo = .slice A3 (q + j) c3 ∧ Hid (wr2.ownsRow 0 3 1 (.slice A3 (q + j) c3) (q + j) (icells (l ++ List.replicate j ((0 : Int))))) ∧ Hid (Chg NoS w wr2) ∧ Hid (∀ a, A3 = some a → w.heap.size ≤ a.block)) (fun _ vj _ => T - (intOf vj).toNat)
            case atStart => exact ⟨0, _, c2, Nat.zero_le _, rfl, rfl, by rw [List.replicate_zero, List.append_nil]; exact HOQ.out, HCQ.out, HNEW.out⟩
            case round =>
              obtain ⟨j, A3, c3, hj, rfl, rfl, HO3, HC3, HN3⟩ := hrel
              by_cases hlt2 : j < T
              · go_wp2_with (at_builtin; refine wpList_append_src rfl (.tmp 85) (.tmp 87) 34 rfl 3 i0 (.int .i64 0) 1 8 Tryz.underlying34 hi hz0 hz1 hz2 rfl (by decide) (.slice A3 (q + j) c3) (q + j) _ rfl (own_chg (S := NoS) HO3.out ((Chg.refl _ _).alloc _) (fun _ _ h => h)) _ _ _ [.int .i64 (0 : Int)] rfl (srcOneAt (by simp)) (by simp [Value.oneCell']) (by unfold maxLen; omega) (by omega) ?_; intro S4 w4 hown4 hgr4 hat4; obtain ⟨A4, c4, rfl, hA4⟩ := own_slice hown4; have HO4 := keepf hown4; have HG4 := keepf hgr4; have HA4 := keepf hat4; clear hown4 hgr4 hat4 hA4)
                go_roundw
                case rel =>
                  refine ⟨j + 1, A4, c4, by omega, by go_num, rfl, ?_, grow_chg HC3.out HN3.out ((Chg.refl NoS _).alloc _) HG4.out, grow_new HN3.out (by have := HC3.out.size; simp; omega) HA4.out⟩
                  have h := HO4.out
                  have e : icells (l ++ List.replicate (j + 1) ((0 : Int))) = icells (l ++ List.replicate j ((0 : Int))) ++ [.int .i64 (0 : Int)] := by rw [List.replicate_succ', ← List.append_assoc]; simp [icells]
                  rw [e]
                  exact h
                case measure => simp [intOf]; omega
              · obtain hjt : j = T := by omega
                subst hjt
                go_wp2_with fail
                go_roundw
                case rel =>
                  refine ⟨k + 1, l ++ List.replicate j ((0 : Int)), A3, c3, by omega, by go_num, by rw [List.length_append, List.length_replicate, ← HQ.out], ?_, by rw [List.length_append, List.length_replicate, ← HQ.out]; exact HO3.out, HC3.out, HN3.out⟩
                  rw [HADD.out, ← HTM.out, ← HXV.out]
                  exact rfl
                case measure => simp [intOf]; omega
    · obtain rfl : k = n := by omega
      go_wp2_with fail
      go_ret2
      have e := HLL.out
      rw [List.take_of_length_le (by have := HN.out; omega)] at e
      rw [← e]
      exact ⟨A2, c2, rfl, HO.out, HCH.out⟩
end Go.Proofs.YtlijfdflghepcaaGreat

/- Lengths and bytes that come in (stage 7). -/
namespace Go.Proofs.YtlijfdflghepcaaGreat
open Go.RowKit Go.Deep Go.ChangeShapes Go.WideShapes
set_option linter.unusedVariables false

/-- A slice that came in is no longer than its block. -/
theorem open_cap {H : Type} {en : TypeId × Value → H} {P : Program} {w : World} {base fuel : Nat} {spare : Nat → Bool} {held : Bool} {t e : TypeId} {A : Option Addr} {len cap : Nat} {x : DataW H × List MemPlace}
    (ht : P.underlying t = some (.slice e)) (h : DataW.trod en P w base spare held fuel t [.slice A len cap] = some x) : len ≤ cap := by
  rcases open_slice ht h with ⟨h0, _⟩ | ⟨a, len', cap', m, n, D, Pl, hcs, hb, hl, _⟩
  · simp only [List.cons.injEq, Value.slice.injEq, and_true] at h0
    omega
  · simp only [List.cons.injEq, Value.slice.injEq, and_true] at hcs
    omega

def encI (z : Int) : List Value := [.int .i64 z]
def goodI (z : Int) : Prop := -9223372036854775808 ≤ z ∧ z ≤ 9223372036854775807
theorem int_el {H : Type} {en : TypeId × Value → H} {w : World} {base n : Nat} {spare : Nat → Bool} {held : Bool} {cs : List Value} {y : DataW H × List MemPlace}
    (h : DataW.trod en Tryz.prog w base spare held n 3 cs = some y) : ∃ p : Int, cs = encI p ∧ goodI p := by
  obtain ⟨z, rfl, hz⟩ := el_int Tryz.underlying3 h
  exact ⟨z, rfl, bounds_i64 hz⟩
theorem flat_ints (ls : List Int) : ls.flatMap encI = icells ls := by
  induction ls with
  | nil => rfl
  | cons b bs ih => rw [List.flatMap_cons, ih]; rfl
def encU (b : Nat) : List Value := [.int .u8 (b : Nat)]
theorem byte_elU {H : Type} {en : TypeId × Value → H} {w : World} {base n : Nat} {spare : Nat → Bool} {held : Bool} {cs : List Value} {y : DataW H × List MemPlace}
    (h : DataW.trod en Tryz.prog w base spare held n 5 cs = some y) : ∃ p : Nat, cs = encU p ∧ p < 256 := by
  obtain ⟨z, rfl, hz⟩ := el_int Tryz.underlying5 h
  have b0 := bounds_u8 hz
  exact ⟨z.toNat, by simp [encU]; omega, by omega⟩
theorem flat_bytesU (bs : List Nat) : bs.flatMap encU = ucells bs := by
  induction bs with
  | nil => rfl
  | cons b bs ih => rw [List.flatMap_cons, ih]; rfl
end Go.Proofs.YtlijfdflghepcaaGreat

