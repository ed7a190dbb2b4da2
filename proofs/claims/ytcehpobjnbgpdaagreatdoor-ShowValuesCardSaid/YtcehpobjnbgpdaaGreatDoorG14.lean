/- Merged by program: NPrt FVal FFrm. -/
import Derived.Test.YtcehpobjnbgpdaaGreatDoorG04
import Derived.Test.YtcehpobjnbgpdaaGreatDoorG08
import Derived.Test.YtcehpobjnbgpdaaGreatDoorG12
import Derived.Test.YtcehpobjnbgpdaaGreatDoorG13
import Derived.BigQuiet
import Derived.Test.YtcehpobjnbgpdaaGreatDoorShelf
/- The program's Print. -/
namespace Go.Proofs.YtcehpobjnbgpdaaGreatDoor
open Go.RowKit
set_option linter.unusedVariables false
set_option linter.unusedSimpArgs false

theorem txt6 (p : Nat) (h : p < 1000000) : ∃ c m, txt p 6 = c :: m ∧ m.length = 5 := by
  have h1 := dn_len (n := p) (k := 6) (by omega)
  have hl : (txt p 6).length = 6 := by rw [txt_len]; omega
  rcases hx : txt p 6 with _ | ⟨c, m⟩
  · rw [hx] at hl; simp at hl
  · rw [hx] at hl; exact ⟨c, m, rfl, by simpa using hl⟩

theorem trimZ_le (p : Nat) (h : p < 1000000) : (trimZ 5 (txt p 6)).length ≤ 6 := by
  obtain ⟨c, m, e, hm⟩ := txt6 p h
  have := trimR_len m
  rw [e, trimZ_R c 5 m hm, List.length_cons]
  omega

theorem sb_ne (t : ByteArray) : (ByteArray.mk #[] ++ t) = t := by
  obtain ⟨⟨l⟩⟩ := t
  rfl

theorem short_any (p : Nat) (h : p < 1000000) (w : World) :
    Calls Tryz.prog 120 #[.string (sb (txt p 6))] w fun e w' => e = .returned (.string (sb (trimZ 5 (txt p 6)))) ∧ Chg NoS w w' := by
  have hd := dig_lt (txt_dig p 6)
  obtain ⟨c, m, e, hm⟩ := txt6 p h
  rw [e] at hd ⊢
  exact shortest_any c m hd hm w

set_option maxHeartbeats 4000000 in
theorem print_any (k n : Int) (s : ByteArray) (A : Option Addr) (len cap : Nat) (w : World) (hL : LibOk w) :
    Calls Tryz.prog 85 #[.agg #[.int .i64 k, .int .i64 n, .string s, .slice A len cap]] w (PrTo w k n s.size len) := by
  have HL := keepf hL
  have HCH := keepf (fun W => chk_any k n s A len cap W)
  have HB := keepf (Blk.new w 24 #[.int .i64 k, .int .i64 n, .string s, .slice A len cap])
  have HA := keepf ((Chg.refl NoS w).alloc (.cells #[.int .i64 k, .int .i64 n, .string s, .slice A len cap] 24))
  obtain ⟨W, hW⟩ : ∃ W, W = w.alloc (.cells #[.int .i64 k, .int .i64 n, .string s, .slice A len cap] 24) := ⟨_, rfl⟩
  obtain ⟨g, hg⟩ : ∃ g, g = w.heap.size := ⟨_, rfl⟩
  rw [← hW] at HB HA
  rw [← hg] at HB
  by_cases hc : chkOf k n s.size len = 0
  · have hm := hc
    unfold chkOf at hm
    split at hm
    · rename_i h
      obtain ⟨h1, h2, h3⟩ := h
      obtain rfl := str_nil h1
      subst h2
      have HC : Hid (∀ W, Calls Tryz.prog 80 #[.agg #[.int .i64 k, .int .i64 n, .string ⟨#[]⟩, .slice A 0 cap]] W fun e w' => e = .returned (.int .i64 0) ∧ Chg NoS W w') := fun W => by
        have h := HCH.out W
        rw [hc] at h
        exact h
      have HP : Hid (∀ l : List Nat, (if k = 2 then intTxt n else realTxt n) = l → prOf k n (ByteArray.mk #[]).size 0 = (l, 0)) := fun l hl => by
        unfold prOf
        rw [if_pos hc, hl]
      clear hc hm h1 HCH hL
      rcases h3 with ⟨hk, b1, b2⟩ | ⟨hk, b1, b2⟩
      · obtain rfl : k = 2 := hk
        by_cases hn : n < 0
        · obtain ⟨m, rfl⟩ : ∃ m : Nat, n = -(m : Int) := ⟨n.natAbs, by omega⟩
          have d1 : decide (-(m : Int) < 0) = true := by simpa using hn
          have d2 : decide (0 < (m : Int)) = true := by simp; omega
          have d3 : decide (0 < m) = true := by simp; omega
          have hm9 : m ≤ 2147483647000000 := by omega
          have HI := keepf (fun W h => itoa_any m (by omega) W h)
          obtain ⟨t, ht⟩ : ∃ t, sb (txt m 1) = t := ⟨_, rfl⟩
          obtain ⟨L, hLn⟩ : ∃ L, t.size = L := ⟨_, rfl⟩
          have hL20 : L ≤ 100 := by
            have h1 : (dn m).length ≤ 19 := dn_len (by omega)
            rw [← hLn, ← ht, sb_size, txt_len]
            omega
          rw [ht] at HI
          have i1 : ¬ 9223372036854775807 < 1 + L := by omega
          have i2 : 1 + L ≤ 9223372036854775807 := by omega
          have i3 : ¬ 9223372036854775807 < L := by omega
          have i4 : L ≤ 9223372036854775807 := by omega
          have HE : Hid (ByteArray.mk #[45] ++ t = sb (intTxt (-(m : Int)))) := by
            show _ = _
            rw [← ht, show ByteArray.mk #[45] = sb [45] from rfl, sb_app, intTxt, signL, if_pos (by omega), show (-(m : Int)).natAbs = m from by omega]
          have HPP := keepf (HP.out _ rfl)
          rw [if_pos rfl] at HPP
          clear ht HP b1 b2 hn
          go_enter Tryz.func85, Tryz.ntmps85
          go_upto_region 1 with fail
          rw [← hW, ← hg]
          clear hW hg
          have q0 := HB.out.cell 0
          have q1 := HB.out.cell 1
          have q2 := HB.out.cell 2
          have q3 := HB.out.cell 3
          simp at q0 q1 q2 q3
          go_upto_region 2 with (go_at_call 80; refine (HC.out _).mono ?_; rintro e w2 ⟨rfl, hc2⟩; have HB2 := keepf (HB.out.chg hc2 (fun h => h)); have HC2 := keepf (HA.out.trans hc2 (fun _ _ h => h)); clear hc2)
          clear q0 q1 q2 q3
          have q0 := HB2.out.cell 0
          have q1 := HB2.out.cell 1
          simp at q0 q1
          go_upto_region 4 with fail
          go_quiet (fail)
          have HL2 := keepf ((HL.out.chg HC2.out).chg ((Chg.refl NoS _).drewN nq))
          have HC3 := keepf (HC2.out.drewN nq)
          go_wp2_with (go_at_call 119; refine (HI.out _ HL2.out).mono ?_; rintro e w5 ⟨rfl, hc5⟩; have HC5 := keepf (HC3.out.trans hc5 (fun _ _ h => h)); clear hc5)
          go_ret2
          refine PrTo.of HPP.out ?_ HC5.out
          rw [← HE.out]
          first | done | rfl | exact sb_ne _
        · obtain ⟨m, rfl⟩ : ∃ m : Nat, n = (m : Int) := ⟨n.natAbs, by omega⟩
          have d1 : decide ((m : Int) < 0) = false := by simp
          clear hn
          have HI := keepf (fun W h => itoa_any m (by omega) W h)
          obtain ⟨t, ht⟩ : ∃ t, sb (txt m 1) = t := ⟨_, rfl⟩
          obtain ⟨L, hLn⟩ : ∃ L, t.size = L := ⟨_, rfl⟩
          have hL20 : L ≤ 100 := by
            have h1 : (dn m).length ≤ 19 := dn_len (by omega)
            rw [← hLn, ← ht, sb_size, txt_len]
            omega
          rw [ht] at HI
          have i1 : ¬ 9223372036854775807 < 1 + L := by omega
          have i2 : 1 + L ≤ 9223372036854775807 := by omega
          have i3 : ¬ 9223372036854775807 < L := by omega
          have i4 : L ≤ 9223372036854775807 := by omega
          have HE : Hid (t = sb (intTxt ((m : Int)))) := by
            show _ = _
            rw [← ht, intTxt, signL, if_neg (by omega), show (m : Int).natAbs = m from by omega]
            rfl
          have HPP := keepf (HP.out _ rfl)
          rw [if_pos rfl] at HPP
          clear ht HP b1 b2
          go_enter Tryz.func85, Tryz.ntmps85
          go_upto_region 1 with fail
          rw [← hW, ← hg]
          clear hW hg
          have q0 := HB.out.cell 0
          have q1 := HB.out.cell 1
          have q2 := HB.out.cell 2
          have q3 := HB.out.cell 3
          simp at q0 q1 q2 q3
          go_upto_region 2 with (go_at_call 80; refine (HC.out _).mono ?_; rintro e w2 ⟨rfl, hc2⟩; have HB2 := keepf (HB.out.chg hc2 (fun h => h)); have HC2 := keepf (HA.out.trans hc2 (fun _ _ h => h)); clear hc2)
          clear q0 q1 q2 q3
          have q0 := HB2.out.cell 0
          have q1 := HB2.out.cell 1
          simp at q0 q1
          go_upto_region 4 with fail
          go_quiet (fail)
          have HL2 := keepf ((HL.out.chg HC2.out).chg ((Chg.refl NoS _).drewN nq))
          have HC3 := keepf (HC2.out.drewN nq)
          go_wp2_with (go_at_call 119; refine (HI.out _ HL2.out).mono ?_; rintro e w5 ⟨rfl, hc5⟩; have HC5 := keepf (HC3.out.trans hc5 (fun _ _ h => h)); clear hc5)
          go_ret2
          refine PrTo.of HPP.out ?_ HC5.out
          rw [← HE.out]
          first | done | rfl | exact sb_ne _
      · obtain rfl : k = 3 := hk
        by_cases hn : n < 0
        · obtain ⟨m, rfl⟩ : ∃ m : Nat, n = -(m : Int) := ⟨n.natAbs, by omega⟩
          have d1 : decide (-(m : Int) < 0) = true := by simpa using hn
          have d2 : decide (0 < (m : Int)) = true := by simp; omega
          have d3 : decide (0 < m) = true := by simp; omega
          have hm9 : m ≤ 2147483647000000 := by omega
          obtain ⟨q, hq⟩ : ∃ q : Nat, m / 1000000 = q := ⟨_, rfl⟩
          obtain ⟨p, hp⟩ : ∃ p : Nat, m % 1000000 = p := ⟨_, rfl⟩
          have hp6 : p < 1000000 := by omega
          have hq9 : q ≤ 2147483647 := by omega
          have HI := keepf (fun W h => itoa_any q (by omega) W h)
          have HD := keepf (fun W h => padded_any p 6 (by omega) ⟨by omega, by omega⟩ W h)
          have HS := keepf (fun W => short_any p hp6 W)
          obtain ⟨t, ht⟩ : ∃ t, sb (txt q 1) = t := ⟨_, rfl⟩
          obtain ⟨L, hLn⟩ : ∃ L, t.size = L := ⟨_, rfl⟩
          have hL20 : L ≤ 100 := by
            have h1 : (dn q).length ≤ 19 := dn_len (by omega)
            rw [← hLn, ← ht, sb_size, txt_len]
            omega
          obtain ⟨u, hu⟩ : ∃ u, sb (trimZ 5 (txt p 6)) = u := ⟨_, rfl⟩
          obtain ⟨M, hMn⟩ : ∃ M, u.size = M := ⟨_, rfl⟩
          have hM20 : M ≤ 100 := by
            have h1 := trimZ_le p hp6
            rw [← hMn, ← hu, sb_size]
            omega
          obtain ⟨v, hv⟩ : ∃ v, sb (txt p 6) = v := ⟨_, rfl⟩
          rw [ht] at HI
          rw [hu, hv] at HS
          rw [hv] at HD
          have i1 : ¬ 9223372036854775807 < 1 + L := by omega
          have i2 : 1 + L ≤ 9223372036854775807 := by omega
          have i3 : ¬ 9223372036854775807 < L := by omega
          have i4 : L ≤ 9223372036854775807 := by omega
          have i5 : ¬ 9223372036854775807 < 1 + L + 1 := by omega
          have i6 : 1 + L + 1 ≤ 9223372036854775807 := by omega
          have i7 : ¬ 9223372036854775807 < L + 1 := by omega
          have i8 : L + 1 ≤ 9223372036854775807 := by omega
          have i9 : ¬ 9223372036854775807 < 1 + L + 1 + M := by omega
          have i10 : 1 + L + 1 + M ≤ 9223372036854775807 := by omega
          have i11 : ¬ 9223372036854775807 < L + 1 + M := by omega
          have i12 : L + 1 + M ≤ 9223372036854775807 := by omega
          have t1 : (m : Int).tdiv 1000000 = (q : Int) := by rw [Int.tdiv_eq_ediv_of_nonneg (by omega)]; omega
          have t2 : (m : Int).tmod 1000000 = (p : Int) := by rw [Int.tmod_eq_emod_of_nonneg (by omega)]; omega
          have t3 : (m : Int) / 1000000 = (q : Int) := by omega
          have t4 : (m : Int) % 1000000 = (p : Int) := by omega
          have HE : Hid (ByteArray.mk #[45] ++ t ++ ByteArray.mk #[46] ++ u = sb (realTxt (-(m : Int)))) := by
            show _ = _
            rw [← ht, ← hu, show ByteArray.mk #[45] = sb [45] from rfl, show ByteArray.mk #[46] = sb [46] from rfl, sb_app, sb_app, sb_app, realTxt, signL, if_pos (by omega), show (-(m : Int)).natAbs = m from by omega, hq, hp]
            simp
          have HPP := keepf (HP.out _ rfl)
          rw [if_neg (by decide)] at HPP
          clear ht hu hv hq hp HP b1 b2 hn
          go_enter Tryz.func85, Tryz.ntmps85
          go_upto_region 1 with fail
          rw [← hW, ← hg]
          clear hW hg
          have q0 := HB.out.cell 0
          have q1 := HB.out.cell 1
          have q2 := HB.out.cell 2
          have q3 := HB.out.cell 3
          simp at q0 q1 q2 q3
          go_upto_region 2 with (go_at_call 80; refine (HC.out _).mono ?_; rintro e w2 ⟨rfl, hc2⟩; have HB2 := keepf (HB.out.chg hc2 (fun h => h)); have HC2 := keepf (HA.out.trans hc2 (fun _ _ h => h)); clear hc2)
          clear q0 q1 q2 q3
          have q0 := HB2.out.cell 0
          have q1 := HB2.out.cell 1
          simp at q0 q1
          go_upto_region 4 with fail
          go_quiet (fail)
          have HL2 := keepf ((HL.out.chg HC2.out).chg ((Chg.refl NoS _).drewN nq))
          have HC3 := keepf (HC2.out.drewN nq)
          go_wp2_with first | (go_at_call 119; refine (HI.out _ HL2.out).mono ?_; rintro e w5 ⟨rfl, hc5⟩; have HL5 := keepf (HL2.out.chg hc5); have HC5 := keepf (HC3.out.trans hc5 (fun _ _ h => h)); clear hc5) | (go_at_call 121; refine (HD.out _ HL5.out).mono ?_; rintro e w6 ⟨rfl, hc6⟩; have HC6 := keepf (HC5.out.trans hc6 (fun _ _ h => h)); clear hc6) | (go_at_call 120; refine (HS.out _).mono ?_; rintro e w7 ⟨rfl, hc7⟩; have HC7 := keepf (HC6.out.trans hc7 (fun _ _ h => h)); clear hc7)
          go_ret2
          refine PrTo.of HPP.out ?_ HC7.out
          rw [← HE.out]
          first | done | rfl | (rw [sb_ne]; rfl) | simp [sb_ne]
        · obtain ⟨m, rfl⟩ : ∃ m : Nat, n = (m : Int) := ⟨n.natAbs, by omega⟩
          have d1 : decide ((m : Int) < 0) = false := by simp
          clear hn
          obtain ⟨q, hq⟩ : ∃ q : Nat, m / 1000000 = q := ⟨_, rfl⟩
          obtain ⟨p, hp⟩ : ∃ p : Nat, m % 1000000 = p := ⟨_, rfl⟩
          have hp6 : p < 1000000 := by omega
          have hq9 : q ≤ 2147483647 := by omega
          have HI := keepf (fun W h => itoa_any q (by omega) W h)
          have HD := keepf (fun W h => padded_any p 6 (by omega) ⟨by omega, by omega⟩ W h)
          have HS := keepf (fun W => short_any p hp6 W)
          obtain ⟨t, ht⟩ : ∃ t, sb (txt q 1) = t := ⟨_, rfl⟩
          obtain ⟨L, hLn⟩ : ∃ L, t.size = L := ⟨_, rfl⟩
          have hL20 : L ≤ 100 := by
            have h1 : (dn q).length ≤ 19 := dn_len (by omega)
            rw [← hLn, ← ht, sb_size, txt_len]
            omega
          obtain ⟨u, hu⟩ : ∃ u, sb (trimZ 5 (txt p 6)) = u := ⟨_, rfl⟩
          obtain ⟨M, hMn⟩ : ∃ M, u.size = M := ⟨_, rfl⟩
          have hM20 : M ≤ 100 := by
            have h1 := trimZ_le p hp6
            rw [← hMn, ← hu, sb_size]
            omega
          obtain ⟨v, hv⟩ : ∃ v, sb (txt p 6) = v := ⟨_, rfl⟩
          rw [ht] at HI
          rw [hu, hv] at HS
          rw [hv] at HD
          have i1 : ¬ 9223372036854775807 < 1 + L := by omega
          have i2 : 1 + L ≤ 9223372036854775807 := by omega
          have i3 : ¬ 9223372036854775807 < L := by omega
          have i4 : L ≤ 9223372036854775807 := by omega
          have i5 : ¬ 9223372036854775807 < 1 + L + 1 := by omega
          have i6 : 1 + L + 1 ≤ 9223372036854775807 := by omega
          have i7 : ¬ 9223372036854775807 < L + 1 := by omega
          have i8 : L + 1 ≤ 9223372036854775807 := by omega
          have i9 : ¬ 9223372036854775807 < 1 + L + 1 + M := by omega
          have i10 : 1 + L + 1 + M ≤ 9223372036854775807 := by omega
          have i11 : ¬ 9223372036854775807 < L + 1 + M := by omega
          have i12 : L + 1 + M ≤ 9223372036854775807 := by omega
          have t1 : (m : Int).tdiv 1000000 = (q : Int) := by rw [Int.tdiv_eq_ediv_of_nonneg (by omega)]; omega
          have t2 : (m : Int).tmod 1000000 = (p : Int) := by rw [Int.tmod_eq_emod_of_nonneg (by omega)]; omega
          have t3 : (m : Int) / 1000000 = (q : Int) := by omega
          have t4 : (m : Int) % 1000000 = (p : Int) := by omega
          have HE : Hid (t ++ ByteArray.mk #[46] ++ u = sb (realTxt ((m : Int)))) := by
            show _ = _
            rw [← ht, ← hu, show ByteArray.mk #[46] = sb [46] from rfl, sb_app, sb_app, realTxt, signL, if_neg (by omega), show (m : Int).natAbs = m from by omega, hq, hp]
            simp
          have HPP := keepf (HP.out _ rfl)
          rw [if_neg (by decide)] at HPP
          clear ht hu hv hq hp HP b1 b2
          go_enter Tryz.func85, Tryz.ntmps85
          go_upto_region 1 with fail
          rw [← hW, ← hg]
          clear hW hg
          have q0 := HB.out.cell 0
          have q1 := HB.out.cell 1
          have q2 := HB.out.cell 2
          have q3 := HB.out.cell 3
          simp at q0 q1 q2 q3
          go_upto_region 2 with (go_at_call 80; refine (HC.out _).mono ?_; rintro e w2 ⟨rfl, hc2⟩; have HB2 := keepf (HB.out.chg hc2 (fun h => h)); have HC2 := keepf (HA.out.trans hc2 (fun _ _ h => h)); clear hc2)
          clear q0 q1 q2 q3
          have q0 := HB2.out.cell 0
          have q1 := HB2.out.cell 1
          simp at q0 q1
          go_upto_region 4 with fail
          go_quiet (fail)
          have HL2 := keepf ((HL.out.chg HC2.out).chg ((Chg.refl NoS _).drewN nq))
          have HC3 := keepf (HC2.out.drewN nq)
          go_wp2_with first | (go_at_call 119; refine (HI.out _ HL2.out).mono ?_; rintro e w5 ⟨rfl, hc5⟩; have HL5 := keepf (HL2.out.chg hc5); have HC5 := keepf (HC3.out.trans hc5 (fun _ _ h => h)); clear hc5) | (go_at_call 121; refine (HD.out _ HL5.out).mono ?_; rintro e w6 ⟨rfl, hc6⟩; have HC6 := keepf (HC5.out.trans hc6 (fun _ _ h => h)); clear hc6) | (go_at_call 120; refine (HS.out _).mono ?_; rintro e w7 ⟨rfl, hc7⟩; have HC7 := keepf (HC6.out.trans hc7 (fun _ _ h => h)); clear hc7)
          go_ret2
          refine PrTo.of HPP.out ?_ HC7.out
          rw [← HE.out]
          first | done | rfl | (rw [sb_ne]; rfl) | simp [sb_ne]
    · cases hm
  · have h2 : chkOf k n s.size len = 2 := by
      unfold chkOf at hc ⊢
      split
      · rename_i h; rw [if_pos h] at hc; exact absurd rfl hc
      · rfl
    have HPP : Hid (prOf k n s.size len = ([], 2)) := if_neg hc
    have HC : Hid (∀ W, Calls Tryz.prog 80 #[.agg #[.int .i64 k, .int .i64 n, .string s, .slice A len cap]] W fun e w' => e = .returned (.int .i64 2) ∧ Chg NoS W w') := fun W => by
      have h := HCH.out W
      rw [h2] at h
      exact h
    clear hc h2 HCH hL HL
    go_enter Tryz.func85, Tryz.ntmps85
    go_upto_region 1 with fail
    rw [← hW, ← hg]
    clear hW hg
    have q0 := HB.out.cell 0
    have q1 := HB.out.cell 1
    have q2 := HB.out.cell 2
    have q3 := HB.out.cell 3
    simp at q0 q1 q2 q3
    go_wp2_with (go_at_call 80; refine (HC.out _).mono ?_; rintro e w2 ⟨rfl, hc2⟩; have HC2 := keepf (HA.out.trans hc2 (fun _ _ h => h)); clear hc2)
    go_ret2
    exact PrTo.of HPP.out rfl HC2.out

end Go.Proofs.YtcehpobjnbgpdaaGreatDoor

/- Show's values: the form of a value that may be is put to the form. -/
namespace Go.Proofs.YtcehpobjnbgpdaaGreatDoor
open Go.RowKit
set_option linter.unusedVariables false
set_option linter.unusedSimpArgs false

theorem KF.blk {R g : Nat} {V W : World} {T : TypeId} {cs : Array Value} (h : KF R V W) (hg : g ≠ R) (hT : T ≠ 5) (hb : Blk V g T cs) : Blk W g T cs :=
  h g _ hg (fun cs' e => hT (Obj.cells.inj e).2.1) hb

theorem isd_lt {l : List Nat} (h : ∀ d ∈ l, isD d ∨ d = 45 ∨ d = 46) : ∀ d ∈ l, d < 256 := by
  intro d hd
  have hk := h d hd
  unfold isD at hk
  omega

/-- A number's form. -/
def numF (k n : Int) : List Nat := if k = 2 then intTxt n else realTxt n

theorem numF_lt (k n : Int) : ∀ d ∈ numF k n, d < 256 := by
  unfold numF
  split
  · exact isd_lt (int_b n)
  · exact isd_lt (real_b n)

set_option maxHeartbeats 2000000 in
set_option maxRecDepth 100000 in
theorem fnum_any {V w W : World} {R : Nat} {out : List Nat} (h : FB V w W R out) (hL : LibOk w) (k n : Int) (s : ByteArray) (A : Option Addr) (len cap : Nat) (hc : chkOf k n s.size len = 0) (hl : out.length + (numF k n).length ≤ 400000) :
    Calls Tryz.prog 50 #[.pointer (some ⟨R, 0, none⟩), .agg #[.int .i64 k, .int .i64 n, .string s, .slice A len cap]] W fun e W' => e = .returned (.tuple #[]) ∧ FB V w W' R (out ++ numF k n) := by
  have HP := keepf (fun X (hX : LibOk X) => print_any k n s A len cap X hX)
  have hpr : prOf k n s.size len = (numF k n, 0) := by unfold prOf numF; rw [if_pos hc]
  have HPR := keepf hpr
  have HW := keepf (fun X (hX : FB V w X R out) => fpwstr_any hX (numF k n) (numF_lt k n) (by omega) (by omega))
  obtain ⟨L, hLn⟩ : ∃ L, L = sb (numF k n) := ⟨_, rfl⟩
  have HP2 : Hid (∀ X, LibOk X → Calls Tryz.prog 85 #[.agg #[.int .i64 k, .int .i64 n, .string s, .slice A len cap]] X fun e w' => e = .returned (.tuple #[.string L, .int .i64 0]) ∧ Chg NoS X w') := fun X hX => by
    refine (HP.out X hX).mono fun e w' h => ?_
    unfold PrTo at h
    rw [HPR.out, ← hLn] at h
    exact h
  rw [← hLn] at HW
  have HF := keepf (h.alloc (.cells #[.int .i64 k, .int .i64 n, .string s, .slice A len cap] 24))
  have HB := keepf (Blk.new W 24 #[.int .i64 k, .int .i64 n, .string s, .slice A len cap])
  have HLib := keepf hL
  obtain ⟨W1, hW1⟩ : ∃ W1, W1 = W.alloc (.cells #[.int .i64 k, .int .i64 n, .string s, .slice A len cap] 24) := ⟨_, rfl⟩
  obtain ⟨g, hg⟩ : ∃ g, g = W.heap.size := ⟨_, rfl⟩
  rw [← hW1] at HF HB
  rw [← hg] at HB
  clear h hL hc hpr HPR HP hLn
  go_enter Tryz.func50, Tryz.ntmps50
  go_upto_region 1 with fail
  rw [← hg, ← hW1]
  clear hg hW1
  have q0 := HB.out.cell 0
  have q1 := HB.out.cell 1
  have q2 := HB.out.cell 2
  have q3 := HB.out.cell 3
  simp at q0 q1 q2 q3
  go_wp2_with first
    | (go_at_call 85; refine (HP2.out _ (HLib.out.chg HF.out.chg)).mono ?_; rintro e w2 ⟨rfl, h2⟩; have HF2 := keepf (HF.out.call h2); clear h2)
    | (go_at_call 48; refine (HW.out _ HF2.out).mono ?_; rintro e w3 ⟨rfl, h3⟩; have HF3 := keepf h3; clear h3)
  go_end0
  exact ⟨rfl, HF3.out⟩

theorem formL_app : ∀ (j : Nat) (a b : List VT), formL j (a ++ b) = formL j a ++ formL (if a = [] then j else 1) b := by
  intro j a
  induction a generalizing j with
  | nil => intro b; rw [formL_nil, if_pos rfl]; rfl
  | cons t a ih =>
    intro b
    rw [List.cons_append, formL_cons, formL_cons, ih 1 b, if_neg (List.cons_ne_nil _ _)]
    simp only [List.append_assoc, ite_self]

theorem formL_snoc {l : List VT} {k : Nat} {t : VT} (h : l[k]? = some t) : formL 0 (l.take (k + 1)) = formL 0 (l.take k) ++ (List.replicate (if k = 0 then 0 else 1) 32 ++ formT t) := by
  have e : l.take (k + 1) = l.take k ++ [t] := by rw [List.take_add_one, h]; rfl
  have hk := (List.getElem?_eq_some_iff.1 h).1
  have h0 : (l.take k = []) = (k = 0) := by
    apply propext
    constructor
    · intro h1
      have h2 := congrArg List.length h1
      rw [List.length_take] at h2
      simp only [List.length_nil] at h2
      omega
    · rintro rfl; rfl
  rw [e, formL_app, formL_cons, formL_nil, List.append_nil]
  simp only [h0]

theorem formL_le (l : List VT) (k : Nat) : (formL 0 (l.take k)).length ≤ (formL 0 l).length := by
  have e : formL 0 l = formL 0 (l.take k ++ l.drop k) := by rw [List.take_append_drop]
  rw [e, formL_app, List.length_append]
  omega

/-- A value's form is put to the form. -/
def PV (t : VT) : Prop := ∀ (c : VC) (V w W : World) (R : Nat) (out : List Nat), LibOk w → ValIs w t c → FB V w W R out → out.length + (formT t).length ≤ 400000 →
  Calls Tryz.prog 26 #[.pointer (some ⟨R, 0, none⟩), c.val] W fun e W' => e = .returned (.tuple #[]) ∧ FB V w W' R (out ++ formT t)

set_option maxHeartbeats 4000000 in
set_option maxRecDepth 100000 in
theorem flist_any (l : List VT) (hP : ∀ t ∈ l, PV t) (A : Option Addr) (len cap : Nat) {V w W : World} {R : Nat} {out : List Nat} (hL : LibOk w) (hl : l.length = len) (hr : RowIs w A 0 l) (hm : len ≤ 9223372036854775807) (h : FB V w W R out) (hb : out.length + (formL 0 l).length ≤ 400000) :
    Calls Tryz.prog 52 #[.pointer (some ⟨R, 0, none⟩), .slice A len cap] W fun e W' => e = .returned (.tuple #[]) ∧ FB V w W' R (out ++ formL 0 l) := by
  have HW := keepf (fun V X o x (hX : FB V w X R o) (ho : o.length ≤ 1000000) => fpwbyte_any hX x ho)
  have HP := keepf hP
  have HLib := keepf hL
  have HL := keepf hl
  have HR := keepf hr
  have HF := keepf h
  have HBL := keepf hb
  clear hP hL hl hr h hb
  go_enter Tryz.func52, Tryz.ntmps52
  go_upto_region 1 with fail
  go_loopw [8] (fun vk wr => ∃ k : Nat, k ≤ len ∧ vk = .int .i64 (k : Nat) ∧ Hid (FB V w wr R (out ++ formL 0 (l.take k))) ∧ Hid (RowIs w A k (l.drop k))) (fun vk _ => len - (intOf vk).toNat)
  case atStart => exact ⟨0, by omega, rfl, by rw [List.take_zero, formL_nil, List.append_nil]; exact HF.out, by rw [List.drop_zero]; exact HR.out⟩
  case round =>
    obtain ⟨k, hk, rfl, HT, HRW⟩ := hrel
    obtain ⟨o, ho⟩ : ∃ o, o = out ++ formL 0 (l.take k) := ⟨_, rfl⟩
    rw [← ho] at HT
    have HO := keepf ho
    clear ho
    by_cases hlt : k < len
    · obtain ⟨t', ht', hdd⟩ := drop_vt (l := l) (k := k) (by rw [HL.out]; exact hlt)
      obtain ⟨b, off, rfl⟩ : ∃ b off, A = some ⟨b, off, none⟩ := by
        have h := HR.out
        cases hll : l with
        | nil => rw [hll] at ht'; simp at ht'
        | cons t0 l0 => rw [hll] at h; exact h.start
      have hrw := HRW.out
      rw [hdd] at hrw
      obtain ⟨ek, en, es, eA, el, ec, c0, c1, c2, c3, hv', hr'⟩ := hrw.at0 HT.out.chg
      have HRN := keepf hr'
      have HV := keepf (show out ++ formL 0 (l.take (k + 1)) = o ++ (List.replicate (if k = 0 then 0 else 1) 32 ++ formT t') from by rw [HO.out, formL_snoc ht', List.append_assoc])
      have hlen : o.length + (if k = 0 then 0 else 1) + (formT t').length ≤ 400000 := by
        have h1 := formL_le l (k + 1)
        have h2 := congrArg List.length HV.out
        have h3 := HBL.out
        simp only [List.length_append, List.length_replicate] at h2
        omega
      have HX := keepf (fun X o2 (hX : FB (wr.alloc (.cells #[.int .i64 ek, .int .i64 en, .string es, .slice eA el ec] 24)) w X R o2) (ho2 : o2.length + (formT t').length ≤ 400000) => HP.out t' (List.mem_of_getElem? ht') ⟨ek, en, es, eA, el, ec⟩ _ w X R o2 HLib.out hv' hX ho2)
      unfold VC.val at HX
      simp only [] at HX
      have HBX := keepf (Blk.new wr 24 #[.int .i64 ek, .int .i64 en, .string es, .slice eA el ec])
      have hgR : wr.heap.size ≠ R := fun e => absurd HT.out.lt (by omega)
      have HFX := keepf ((HT.out.alloc (.cells #[.int .i64 ek, .int .i64 en, .string es, .slice eA el ec] 24)).here)
      have HKX := keepf ((HT.out.alloc (.cells #[.int .i64 ek, .int .i64 en, .string es, .slice eA el ec] 24)).kf)
      clear hrw hv' hr' hdd ht'
      obtain ⟨W1, hW1⟩ : ∃ W1, W1 = wr.alloc (.cells #[.int .i64 ek, .int .i64 en, .string es, .slice eA el ec] 24) := ⟨_, rfl⟩
      obtain ⟨g, hg⟩ : ∃ g, g = wr.heap.size := ⟨_, rfl⟩
      rw [← hW1] at HX HBX HFX HKX
      rw [← hg] at HBX hgR
      by_cases h0 : k = 0
      · subst h0
        simp only [if_true, Nat.add_zero] at hlen
        have HVV := keepf (show o ++ (List.replicate (if 0 = 0 then 0 else 1) 32 ++ formT t') = o ++ formT t' from rfl)
        simp only [Nat.zero_mul, Nat.add_zero] at c0 c1 c2 c3
        go_upto_region 3 with fail
        rw [← hg, ← hW1]
        clear hg hW1
        have q0 := HBX.out.cell 0
        have q1 := HBX.out.cell 1
        have q2 := HBX.out.cell 2
        have q3 := HBX.out.cell 3
        simp at q0 q1 q2 q3
        go_wp2_with (go_at_call 26; refine (HX.out _ _ HFX.out hlen).mono ?_; rintro e w3 ⟨rfl, h3⟩; have HT3 := keepf h3; clear h3)
        go_roundw
        case rel => exact ⟨1, by omega, by go_num, by rw [HV.out, HVV.out]; exact HT3.out.base (HKX.out.trans HT3.out.kf), HRN.out⟩
        case measure => simp [intOf]; omega
      · rw [if_neg h0] at hlen
        have HVV := keepf (show o ++ (List.replicate (if k = 0 then 0 else 1) 32 ++ formT t') = o ++ [32] ++ formT t' from by rw [if_neg h0]; simp)
        have hl2 : (o ++ [32]).length + (formT t').length ≤ 400000 := by simp only [List.length_append, List.length_cons, List.length_nil]; omega
        have d0 : decide ((0 : Int) < (k : Int)) = true := by simp; omega
        have d0' : decide (0 < k) = true := by simp; omega
        clear h0
        go_upto_region 3 with fail
        rw [← hg, ← hW1]
        clear hg hW1
        go_upto_region 5 with (go_at_call 86; refine (HW.out _ _ _ 32 HFX.out (by omega)).mono ?_; rintro e w2 ⟨rfl, h2⟩; have HT2 := keepf h2; clear h2)
        have HBY := keepf (HT2.out.kf.blk hgR (by decide) HBX.out)
        have q0 := HBY.out.cell 0
        have q1 := HBY.out.cell 1
        have q2 := HBY.out.cell 2
        have q3 := HBY.out.cell 3
        simp at q0 q1 q2 q3
        go_wp2_with (go_at_call 26; refine (HX.out _ _ HT2.out hl2).mono ?_; rintro e w3 ⟨rfl, h3⟩; have HT3 := keepf h3; clear h3)
        go_roundw
        case rel => exact ⟨k + 1, by omega, by go_num, by rw [HV.out, HVV.out]; exact HT3.out.base (HKX.out.trans HT3.out.kf), HRN.out⟩
        case measure => simp [intOf]; omega
    · obtain rfl : k = len := by omega
      have HV := keepf (show out ++ formL 0 l = o from by rw [HO.out, List.take_of_length_le (by rw [HL.out]; exact Nat.le_refl _)])
      go_wp2_with fail
      go_end0
      exact ⟨rfl, by rw [HV.out]; exact HT.out⟩

end Go.Proofs.YtcehpobjnbgpdaaGreatDoor

/- Show's form of a value that may be, kind by kind. -/
namespace Go.Proofs.YtcehpobjnbgpdaaGreatDoor
open Go.RowKit
set_option linter.unusedVariables false
set_option linter.unusedSimpArgs false

theorem fb_true : (⟨(Lib.formatBool true).toArray⟩ : ByteArray) = sb [116, 114, 117, 101] := by rfl

theorem fb_false : (⟨(Lib.formatBool false).toArray⟩ : ByteArray) = sb [102, 97, 108, 115, 101] := by rfl

/-- A value's box, ahead of its first step. -/
structure FV (V w W1 : World) (R g : Nat) (out : List Nat) (k n : Int) (s : ByteArray) (A : Option Addr) (len cap : Nat) : Prop where
  blk : Blk W1 g 24 #[.int .i64 k, .int .i64 n, .string s, .slice A len cap]
  ne : g ≠ R
  fb : FB W1 w W1 R out
  kf : KF R V W1

theorem FV.of {V w W : World} {R : Nat} {out : List Nat} (h : FB V w W R out) (k n : Int) (s : ByteArray) (A : Option Addr) (len cap : Nat) :
    FV V w (W.alloc (.cells #[.int .i64 k, .int .i64 n, .string s, .slice A len cap] 24)) R W.heap.size out k n s A len cap :=
  ⟨Blk.new _ _ _, fun e => absurd h.lt (by omega), (h.alloc _).here, (h.alloc _).kf⟩

theorem FV.at_ {V w W1 X : World} {R g : Nat} {out o2 : List Nat} {k n : Int} {s : ByteArray} {A : Option Addr} {len cap : Nat} (h : FV V w W1 R g out k n s A len cap) (hX : FB W1 w X R o2) : Blk X g 24 #[.int .i64 k, .int .i64 n, .string s, .slice A len cap] :=
  hX.kf.blk h.ne (by decide) h.blk

theorem FV.end_ {V w W1 X : World} {R g : Nat} {out o2 : List Nat} {k n : Int} {s : ByteArray} {A : Option Addr} {len cap : Nat} (h : FV V w W1 R g out k n s A len cap) (hX : FB W1 w X R o2) : FB V w X R o2 := hX.base (h.kf.trans hX.kf)

set_option maxHeartbeats 4000000 in
set_option maxRecDepth 100000 in
theorem fval_null {V w W : World} {R : Nat} {out : List Nat} (h : FB V w W R out) (hL : LibOk w) (n : Int) (s : ByteArray) (A : Option Addr) (len cap : Nat) (hl : out.length + ([110, 117, 108, 108]).length ≤ 400000) :
    Calls Tryz.prog 26 #[.pointer (some ⟨R, 0, none⟩), .agg #[.int .i64 0, .int .i64 n, .string s, .slice A len cap]] W fun e W' => e = .returned (.tuple #[]) ∧ FB V w W' R (out ++ ([110, 117, 108, 108])) := by
  have HLib := keepf hL
  have HFV := keepf (FV.of h 0 n s A len cap)
  obtain ⟨W1, hW1⟩ : ∃ W1, W1 = W.alloc (.cells #[.int .i64 0, .int .i64 n, .string s, .slice A len cap] 24) := ⟨_, rfl⟩
  obtain ⟨g, hg⟩ : ∃ g, g = W.heap.size := ⟨_, rfl⟩
  rw [← hW1, ← hg] at HFV
  have HW0 := keepf (fun X o (hX : FB W1 w X R o) (ho : o.length ≤ 1000000) => (show Calls Tryz.prog 48 #[.pointer (some ⟨R, 0, none⟩), .string ⟨#[110, 117, 108, 108]⟩] X fun e W' => e = .returned (.tuple #[.int .i64 (4 : Nat), .nilIface]) ∧ FB W1 w W' R (o ++ [110, 117, 108, 108]) from fpwstr_any hX [110, 117, 108, 108] (by decide) ho (by decide)))
  clear h hL
  go_enter Tryz.func26, Tryz.ntmps26
  go_upto_region 1 with fail
  rw [← hg, ← hW1]
  clear hg hW1
  have q0 := HFV.out.blk.cell 0
  have q1 := HFV.out.blk.cell 1
  have q2 := HFV.out.blk.cell 2
  have q3 := HFV.out.blk.cell 3
  simp at q0 q1 q2 q3
  go_wp2_with (go_at_call 48; refine (HW0.out _ _ HFV.out.fb (by omega)).mono ?_; rintro e w3 ⟨rfl, h3⟩; have HT3 := keepf h3; clear h3)
  go_end0
  exact ⟨rfl, HFV.out.end_ HT3.out⟩

set_option maxHeartbeats 4000000 in
set_option maxRecDepth 100000 in
theorem fval_true {V w W : World} {R : Nat} {out : List Nat} (h : FB V w W R out) (hL : LibOk w) (s : ByteArray) (A : Option Addr) (len cap : Nat) (hl : out.length + ([116, 114, 117, 101]).length ≤ 400000) :
    Calls Tryz.prog 26 #[.pointer (some ⟨R, 0, none⟩), .agg #[.int .i64 1, .int .i64 1, .string s, .slice A len cap]] W fun e W' => e = .returned (.tuple #[]) ∧ FB V w W' R (out ++ ([116, 114, 117, 101])) := by
  have HLib := keepf hL
  have HFV := keepf (FV.of h 1 1 s A len cap)
  obtain ⟨W1, hW1⟩ : ∃ W1, W1 = W.alloc (.cells #[.int .i64 1, .int .i64 1, .string s, .slice A len cap] 24) := ⟨_, rfl⟩
  obtain ⟨g, hg⟩ : ∃ g, g = W.heap.size := ⟨_, rfl⟩
  rw [← hW1, ← hg] at HFV
  have HW0 := keepf (fun X o (hX : FB W1 w X R o) (ho : o.length ≤ 1000000) => (show Calls Tryz.prog 48 #[.pointer (some ⟨R, 0, none⟩), .string ⟨#[116, 114, 117, 101]⟩] X fun e W' => e = .returned (.tuple #[.int .i64 (4 : Nat), .nilIface]) ∧ FB W1 w W' R (o ++ [116, 114, 117, 101]) from fpwstr_any hX [116, 114, 117, 101] (by decide) ho (by decide)))
  have HFM := keepf (fun X => (show Calls Tryz.prog 49 #[.bool true] X fun e w' => e = .returned (.string ⟨#[116, 114, 117, 101]⟩) ∧ w' = X from by have h1 := Go.Proofs.Tryz.strconv_FormatBool true X; rw [fb_true] at h1; exact h1))
  clear h hL
  go_enter Tryz.func26, Tryz.ntmps26
  go_upto_region 1 with fail
  rw [← hg, ← hW1]
  clear hg hW1
  have q0 := HFV.out.blk.cell 0
  have q1 := HFV.out.blk.cell 1
  have q2 := HFV.out.blk.cell 2
  have q3 := HFV.out.blk.cell 3
  simp at q0 q1 q2 q3
  go_upto_region 5 with fail
  first
    | (go_loud (go_region_held3 (fun w' => w'.cell? ⟨g, 1, none⟩ = some (.int .i64 1))
        (first | (go_keep; done) | assumption)
        (first
          | (go_at_call 49; refine (HFM.out _).mono ?_; rintro e w5 ⟨rfl, rfl⟩)
          | (go_at_call 48; refine (HW0.out _ _ HFV.out.fb.drew (by omega)).mono ?_; rintro e w3 ⟨rfl, h3⟩; have hb3 := HFV.out.at_ h3; have d1 := hb3.cell 1; simp at d1; have HT3 := keepf h3; clear h3 hb3))))
    | fail "region"
  go_wp2_with fail
  go_end0
  exact ⟨rfl, HFV.out.end_ HT3.out⟩

set_option maxHeartbeats 4000000 in
set_option maxRecDepth 100000 in
theorem fval_false {V w W : World} {R : Nat} {out : List Nat} (h : FB V w W R out) (hL : LibOk w) (s : ByteArray) (A : Option Addr) (len cap : Nat) (hl : out.length + ([102, 97, 108, 115, 101]).length ≤ 400000) :
    Calls Tryz.prog 26 #[.pointer (some ⟨R, 0, none⟩), .agg #[.int .i64 1, .int .i64 0, .string s, .slice A len cap]] W fun e W' => e = .returned (.tuple #[]) ∧ FB V w W' R (out ++ ([102, 97, 108, 115, 101])) := by
  have HLib := keepf hL
  have HFV := keepf (FV.of h 1 0 s A len cap)
  obtain ⟨W1, hW1⟩ : ∃ W1, W1 = W.alloc (.cells #[.int .i64 1, .int .i64 0, .string s, .slice A len cap] 24) := ⟨_, rfl⟩
  obtain ⟨g, hg⟩ : ∃ g, g = W.heap.size := ⟨_, rfl⟩
  rw [← hW1, ← hg] at HFV
  have HW0 := keepf (fun X o (hX : FB W1 w X R o) (ho : o.length ≤ 1000000) => (show Calls Tryz.prog 48 #[.pointer (some ⟨R, 0, none⟩), .string ⟨#[102, 97, 108, 115, 101]⟩] X fun e W' => e = .returned (.tuple #[.int .i64 (5 : Nat), .nilIface]) ∧ FB W1 w W' R (o ++ [102, 97, 108, 115, 101]) from fpwstr_any hX [102, 97, 108, 115, 101] (by decide) ho (by decide)))
  have HFM := keepf (fun X => (show Calls Tryz.prog 49 #[.bool false] X fun e w' => e = .returned (.string ⟨#[102, 97, 108, 115, 101]⟩) ∧ w' = X from by have h1 := Go.Proofs.Tryz.strconv_FormatBool false X; rw [fb_false] at h1; exact h1))
  clear h hL
  go_enter Tryz.func26, Tryz.ntmps26
  go_upto_region 1 with fail
  rw [← hg, ← hW1]
  clear hg hW1
  have q0 := HFV.out.blk.cell 0
  have q1 := HFV.out.blk.cell 1
  have q2 := HFV.out.blk.cell 2
  have q3 := HFV.out.blk.cell 3
  simp at q0 q1 q2 q3
  go_upto_region 5 with fail
  first
    | (go_loud (go_region_held3 (fun w' => w'.cell? ⟨g, 1, none⟩ = some (.int .i64 0))
        (first | (go_keep; done) | assumption)
        (first
          | (go_at_call 49; refine (HFM.out _).mono ?_; rintro e w5 ⟨rfl, rfl⟩)
          | (go_at_call 48; refine (HW0.out _ _ HFV.out.fb.drew (by omega)).mono ?_; rintro e w3 ⟨rfl, h3⟩; have hb3 := HFV.out.at_ h3; have d1 := hb3.cell 1; simp at d1; have HT3 := keepf h3; clear h3 hb3))))
    | fail "region"
  go_wp2_with fail
  go_end0
  exact ⟨rfl, HFV.out.end_ HT3.out⟩

set_option maxHeartbeats 4000000 in
set_option maxRecDepth 100000 in
theorem fval_int {V w W : World} {R : Nat} {out : List Nat} (h : FB V w W R out) (hL : LibOk w) (n : Int) (s : ByteArray) (A : Option Addr) (len cap : Nat) (hc : chkOf 2 n s.size len = 0) (hl : out.length + (numF 2 n).length ≤ 400000) :
    Calls Tryz.prog 26 #[.pointer (some ⟨R, 0, none⟩), .agg #[.int .i64 2, .int .i64 n, .string s, .slice A len cap]] W fun e W' => e = .returned (.tuple #[]) ∧ FB V w W' R (out ++ (numF 2 n)) := by
  have HLib := keepf hL
  have HFV := keepf (FV.of h 2 n s A len cap)
  obtain ⟨W1, hW1⟩ : ∃ W1, W1 = W.alloc (.cells #[.int .i64 2, .int .i64 n, .string s, .slice A len cap] 24) := ⟨_, rfl⟩
  obtain ⟨g, hg⟩ : ∃ g, g = W.heap.size := ⟨_, rfl⟩
  rw [← hW1, ← hg] at HFV
  have HN := keepf (fun X (hX : FB W1 w X R out) => fnum_any hX HLib.out 2 n s A len cap hc hl)
  clear hc
  clear h hL
  go_enter Tryz.func26, Tryz.ntmps26
  go_upto_region 1 with fail
  rw [← hg, ← hW1]
  clear hg hW1
  have q0 := HFV.out.blk.cell 0
  have q1 := HFV.out.blk.cell 1
  have q2 := HFV.out.blk.cell 2
  have q3 := HFV.out.blk.cell 3
  simp at q0 q1 q2 q3
  go_wp2_with (go_at_call 50; refine (HN.out _ HFV.out.fb).mono ?_; rintro e w3 ⟨rfl, h3⟩; have HT3 := keepf h3; clear h3)
  go_end0
  exact ⟨rfl, HFV.out.end_ HT3.out⟩

set_option maxHeartbeats 4000000 in
set_option maxRecDepth 100000 in
theorem fval_real {V w W : World} {R : Nat} {out : List Nat} (h : FB V w W R out) (hL : LibOk w) (n : Int) (s : ByteArray) (A : Option Addr) (len cap : Nat) (hc : chkOf 3 n s.size len = 0) (hl : out.length + (numF 3 n).length ≤ 400000) :
    Calls Tryz.prog 26 #[.pointer (some ⟨R, 0, none⟩), .agg #[.int .i64 3, .int .i64 n, .string s, .slice A len cap]] W fun e W' => e = .returned (.tuple #[]) ∧ FB V w W' R (out ++ (numF 3 n)) := by
  have HLib := keepf hL
  have HFV := keepf (FV.of h 3 n s A len cap)
  obtain ⟨W1, hW1⟩ : ∃ W1, W1 = W.alloc (.cells #[.int .i64 3, .int .i64 n, .string s, .slice A len cap] 24) := ⟨_, rfl⟩
  obtain ⟨g, hg⟩ : ∃ g, g = W.heap.size := ⟨_, rfl⟩
  rw [← hW1, ← hg] at HFV
  have HN := keepf (fun X (hX : FB W1 w X R out) => fnum_any hX HLib.out 3 n s A len cap hc hl)
  clear hc
  clear h hL
  go_enter Tryz.func26, Tryz.ntmps26
  go_upto_region 1 with fail
  rw [← hg, ← hW1]
  clear hg hW1
  have q0 := HFV.out.blk.cell 0
  have q1 := HFV.out.blk.cell 1
  have q2 := HFV.out.blk.cell 2
  have q3 := HFV.out.blk.cell 3
  simp at q0 q1 q2 q3
  go_wp2_with (go_at_call 50; refine (HN.out _ HFV.out.fb).mono ?_; rintro e w3 ⟨rfl, h3⟩; have HT3 := keepf h3; clear h3)
  go_end0
  exact ⟨rfl, HFV.out.end_ HT3.out⟩

set_option maxHeartbeats 4000000 in
set_option maxRecDepth 100000 in
theorem fval_text {V w W : World} {R : Nat} {out : List Nat} (h : FB V w W R out) (hL : LibOk w) (n : Int) (s : ByteArray) (A : Option Addr) (len cap : Nat) (hl : out.length + (txF (sl s)).length ≤ 400000) :
    Calls Tryz.prog 26 #[.pointer (some ⟨R, 0, none⟩), .agg #[.int .i64 4, .int .i64 n, .string s, .slice A len cap]] W fun e W' => e = .returned (.tuple #[]) ∧ FB V w W' R (out ++ (txF (sl s))) := by
  have HLib := keepf hL
  have HFV := keepf (FV.of h 4 n s A len cap)
  obtain ⟨W1, hW1⟩ : ∃ W1, W1 = W.alloc (.cells #[.int .i64 4, .int .i64 n, .string s, .slice A len cap] 24) := ⟨_, rfl⟩
  obtain ⟨g, hg⟩ : ∃ g, g = W.heap.size := ⟨_, rfl⟩
  rw [← hW1, ← hg] at HFV
  have HN := keepf (fun X (hX : FB W1 w X R out) => ftext_any hX s hl)
  clear h hL
  go_enter Tryz.func26, Tryz.ntmps26
  go_upto_region 1 with fail
  rw [← hg, ← hW1]
  clear hg hW1
  have q0 := HFV.out.blk.cell 0
  have q1 := HFV.out.blk.cell 1
  have q2 := HFV.out.blk.cell 2
  have q3 := HFV.out.blk.cell 3
  simp at q0 q1 q2 q3
  go_wp2_with (go_at_call 33; refine (HN.out _ HFV.out.fb).mono ?_; rintro e w3 ⟨rfl, h3⟩; have HT3 := keepf h3; clear h3)
  go_end0
  exact ⟨rfl, HFV.out.end_ HT3.out⟩

set_option maxHeartbeats 4000000 in
set_option maxRecDepth 100000 in
theorem fval_name {V w W : World} {R : Nat} {out : List Nat} (h : FB V w W R out) (hL : LibOk w) (n : Int) (s : ByteArray) (A : Option Addr) (len cap : Nat) (hl : out.length + (nmF (sl s)).length ≤ 400000) :
    Calls Tryz.prog 26 #[.pointer (some ⟨R, 0, none⟩), .agg #[.int .i64 5, .int .i64 n, .string s, .slice A len cap]] W fun e W' => e = .returned (.tuple #[]) ∧ FB V w W' R (out ++ (nmF (sl s))) := by
  have HLib := keepf hL
  have HFV := keepf (FV.of h 5 n s A len cap)
  obtain ⟨W1, hW1⟩ : ∃ W1, W1 = W.alloc (.cells #[.int .i64 5, .int .i64 n, .string s, .slice A len cap] 24) := ⟨_, rfl⟩
  obtain ⟨g, hg⟩ : ∃ g, g = W.heap.size := ⟨_, rfl⟩
  rw [← hW1, ← hg] at HFV
  have HN := keepf (fun X (hX : FB W1 w X R out) => fname_any hX s hl)
  clear h hL
  go_enter Tryz.func26, Tryz.ntmps26
  go_upto_region 1 with fail
  rw [← hg, ← hW1]
  clear hg hW1
  have q0 := HFV.out.blk.cell 0
  have q1 := HFV.out.blk.cell 1
  have q2 := HFV.out.blk.cell 2
  have q3 := HFV.out.blk.cell 3
  simp at q0 q1 q2 q3
  go_wp2_with (go_at_call 51; refine (HN.out _ HFV.out.fb).mono ?_; rintro e w3 ⟨rfl, h3⟩; have HT3 := keepf h3; clear h3)
  go_end0
  exact ⟨rfl, HFV.out.end_ HT3.out⟩

set_option maxHeartbeats 4000000 in
set_option maxRecDepth 100000 in
theorem fval_array {V w W : World} {R : Nat} {out : List Nat} (h : FB V w W R out) (hL : LibOk w) (n : Int) (s : ByteArray) (A : Option Addr) (len cap : Nat) (l : List VT) (hP : ∀ t ∈ l, PV t) (hll : l.length = len) (hr : RowIs w A 0 l) (hm : len ≤ 9223372036854775807) (hl : out.length + ([91] ++ formL 0 l ++ [93]).length ≤ 400000) :
    Calls Tryz.prog 26 #[.pointer (some ⟨R, 0, none⟩), .agg #[.int .i64 6, .int .i64 n, .string s, .slice A len cap]] W fun e W' => e = .returned (.tuple #[]) ∧ FB V w W' R (out ++ ([91] ++ formL 0 l ++ [93])) := by
  have HLib := keepf hL
  have HFV := keepf (FV.of h 6 n s A len cap)
  obtain ⟨W1, hW1⟩ : ∃ W1, W1 = W.alloc (.cells #[.int .i64 6, .int .i64 n, .string s, .slice A len cap] 24) := ⟨_, rfl⟩
  obtain ⟨g, hg⟩ : ∃ g, g = W.heap.size := ⟨_, rfl⟩
  rw [← hW1, ← hg] at HFV
  have HW0 := keepf (fun X o (hX : FB W1 w X R o) (ho : o.length ≤ 1000000) => (show Calls Tryz.prog 48 #[.pointer (some ⟨R, 0, none⟩), .string ⟨#[91]⟩] X fun e W' => e = .returned (.tuple #[.int .i64 (1 : Nat), .nilIface]) ∧ FB W1 w W' R (o ++ [91]) from fpwstr_any hX [91] (by decide) ho (by decide)))
  have HW1 := keepf (fun X o (hX : FB W1 w X R o) (ho : o.length ≤ 1000000) => (show Calls Tryz.prog 48 #[.pointer (some ⟨R, 0, none⟩), .string ⟨#[93]⟩] X fun e W' => e = .returned (.tuple #[.int .i64 (1 : Nat), .nilIface]) ∧ FB W1 w W' R (o ++ [93]) from fpwstr_any hX [93] (by decide) ho (by decide)))
  have hl2 : (out ++ [91]).length + (formL 0 l).length ≤ 400000 := by simp only [List.length_append, List.length_cons, List.length_nil] at hl ⊢; omega
  have hl3 : (out ++ [91] ++ formL 0 l).length ≤ 1000000 := by rw [List.length_append]; omega
  have HLS := keepf (fun X (hX : FB W1 w X R (out ++ [91])) => flist_any l hP A len cap HLib.out hll hr hm hX hl2)
  have HE := keepf (show out ++ ([91] ++ formL 0 l ++ [93]) = out ++ [91] ++ formL 0 l ++ [93] from by simp only [List.append_assoc])
  clear hP hll hr
  clear h hL
  go_enter Tryz.func26, Tryz.ntmps26
  go_upto_region 1 with fail
  rw [← hg, ← hW1]
  clear hg hW1
  have q0 := HFV.out.blk.cell 0
  have q1 := HFV.out.blk.cell 1
  have q2 := HFV.out.blk.cell 2
  have q3 := HFV.out.blk.cell 3
  simp at q0 q1 q2 q3
  go_upto_region 15 with (go_at_call 48; refine (HW0.out _ _ HFV.out.fb (by omega)).mono ?_; rintro e w2 ⟨rfl, h2⟩; have HT2 := keepf h2; clear h2)
  have hb2 := HFV.out.at_ HT2.out
  have p3 := hb2.cell 3
  simp at p3
  clear hb2
  go_upto_region 16 with (go_at_call 52; refine (HLS.out _ HT2.out).mono ?_; rintro e w3 ⟨rfl, h3⟩; have HT3 := keepf h3; clear h3)
  go_wp2_with (go_at_call 48; refine (HW1.out _ _ HT3.out hl3).mono ?_; rintro e w4 ⟨rfl, h4⟩; have HT4 := keepf h4; clear h4)
  go_end0
  exact ⟨rfl, by have h5 := HFV.out.end_ HT4.out; rw [← HE.out] at h5; exact h5⟩

set_option maxHeartbeats 4000000 in
set_option maxRecDepth 100000 in
theorem fval_dict {V w W : World} {R : Nat} {out : List Nat} (h : FB V w W R out) (hL : LibOk w) (n : Int) (s : ByteArray) (A : Option Addr) (len cap : Nat) (l : List VT) (hP : ∀ t ∈ l, PV t) (hll : l.length = len) (hr : RowIs w A 0 l) (hm : len ≤ 9223372036854775807) (hl : out.length + ([60, 60] ++ formL 0 l ++ [62, 62]).length ≤ 400000) :
    Calls Tryz.prog 26 #[.pointer (some ⟨R, 0, none⟩), .agg #[.int .i64 7, .int .i64 n, .string s, .slice A len cap]] W fun e W' => e = .returned (.tuple #[]) ∧ FB V w W' R (out ++ ([60, 60] ++ formL 0 l ++ [62, 62])) := by
  have HLib := keepf hL
  have HFV := keepf (FV.of h 7 n s A len cap)
  obtain ⟨W1, hW1⟩ : ∃ W1, W1 = W.alloc (.cells #[.int .i64 7, .int .i64 n, .string s, .slice A len cap] 24) := ⟨_, rfl⟩
  obtain ⟨g, hg⟩ : ∃ g, g = W.heap.size := ⟨_, rfl⟩
  rw [← hW1, ← hg] at HFV
  have HW0 := keepf (fun X o (hX : FB W1 w X R o) (ho : o.length ≤ 1000000) => (show Calls Tryz.prog 48 #[.pointer (some ⟨R, 0, none⟩), .string ⟨#[60, 60]⟩] X fun e W' => e = .returned (.tuple #[.int .i64 (2 : Nat), .nilIface]) ∧ FB W1 w W' R (o ++ [60, 60]) from fpwstr_any hX [60, 60] (by decide) ho (by decide)))
  have HW1 := keepf (fun X o (hX : FB W1 w X R o) (ho : o.length ≤ 1000000) => (show Calls Tryz.prog 48 #[.pointer (some ⟨R, 0, none⟩), .string ⟨#[62, 62]⟩] X fun e W' => e = .returned (.tuple #[.int .i64 (2 : Nat), .nilIface]) ∧ FB W1 w W' R (o ++ [62, 62]) from fpwstr_any hX [62, 62] (by decide) ho (by decide)))
  have hl2 : (out ++ [60, 60]).length + (formL 0 l).length ≤ 400000 := by simp only [List.length_append, List.length_cons, List.length_nil] at hl ⊢; omega
  have hl3 : (out ++ [60, 60] ++ formL 0 l).length ≤ 1000000 := by rw [List.length_append]; omega
  have HLS := keepf (fun X (hX : FB W1 w X R (out ++ [60, 60])) => flist_any l hP A len cap HLib.out hll hr hm hX hl2)
  have HE := keepf (show out ++ ([60, 60] ++ formL 0 l ++ [62, 62]) = out ++ [60, 60] ++ formL 0 l ++ [62, 62] from by simp only [List.append_assoc])
  clear hP hll hr
  clear h hL
  go_enter Tryz.func26, Tryz.ntmps26
  go_upto_region 1 with fail
  rw [← hg, ← hW1]
  clear hg hW1
  have q0 := HFV.out.blk.cell 0
  have q1 := HFV.out.blk.cell 1
  have q2 := HFV.out.blk.cell 2
  have q3 := HFV.out.blk.cell 3
  simp at q0 q1 q2 q3
  go_upto_region 19 with (go_at_call 48; refine (HW0.out _ _ HFV.out.fb (by omega)).mono ?_; rintro e w2 ⟨rfl, h2⟩; have HT2 := keepf h2; clear h2)
  have hb2 := HFV.out.at_ HT2.out
  have p3 := hb2.cell 3
  simp at p3
  clear hb2
  go_upto_region 20 with (go_at_call 52; refine (HLS.out _ HT2.out).mono ?_; rintro e w3 ⟨rfl, h3⟩; have HT3 := keepf h3; clear h3)
  go_wp2_with (go_at_call 48; refine (HW1.out _ _ HT3.out hl3).mono ?_; rintro e w4 ⟨rfl, h4⟩; have HT4 := keepf h4; clear h4)
  go_end0
  exact ⟨rfl, by have h5 := HFV.out.end_ HT4.out; rw [← HE.out] at h5; exact h5⟩

set_option maxHeartbeats 4000000 in
set_option maxRecDepth 100000 in
theorem fval_ref {V w W : World} {R : Nat} {out : List Nat} (h : FB V w W R out) (hL : LibOk w) (n : Int) (s : ByteArray) (A : Option Addr) (len cap : Nat) (hn1 : 1 ≤ n) (hn2 : n ≤ 4096) (hl : out.length + (intTxt n ++ [32, 48, 32, 82]).length ≤ 400000) :
    Calls Tryz.prog 26 #[.pointer (some ⟨R, 0, none⟩), .agg #[.int .i64 8, .int .i64 n, .string s, .slice A len cap]] W fun e W' => e = .returned (.tuple #[]) ∧ FB V w W' R (out ++ (intTxt n ++ [32, 48, 32, 82])) := by
  have HLib := keepf hL
  have HFV := keepf (FV.of h 8 n s A len cap)
  obtain ⟨W1, hW1⟩ : ∃ W1, W1 = W.alloc (.cells #[.int .i64 8, .int .i64 n, .string s, .slice A len cap] 24) := ⟨_, rfl⟩
  obtain ⟨g, hg⟩ : ∃ g, g = W.heap.size := ⟨_, rfl⟩
  rw [← hW1, ← hg] at HFV
  have HW0 := keepf (fun X o (hX : FB W1 w X R o) (ho : o.length ≤ 1000000) => (show Calls Tryz.prog 48 #[.pointer (some ⟨R, 0, none⟩), .string ⟨#[32, 48, 32, 82]⟩] X fun e W' => e = .returned (.tuple #[.int .i64 (4 : Nat), .nilIface]) ∧ FB W1 w W' R (o ++ [32, 48, 32, 82]) from fpwstr_any hX [32, 48, 32, 82] (by decide) ho (by decide)))
  have hl2 : out.length + (numF 2 n).length ≤ 400000 := by rw [List.length_append] at hl; show out.length + (intTxt n).length ≤ _; omega
  have hl3 : (out ++ numF 2 n).length ≤ 1000000 := by rw [List.length_append]; omega
  have HN := keepf (fun X (hX : FB W1 w X R out) => fnum_any hX HLib.out 2 n ⟨#[]⟩ none 0 0 (by unfold chkOf; rw [if_pos ⟨rfl, rfl, .inl ⟨rfl, by omega, by omega⟩⟩]) hl2)
  have HIO := keepf (fun X => intOf_any n X)
  have HE := keepf (show out ++ (intTxt n ++ [32, 48, 32, 82]) = out ++ numF 2 n ++ [32, 48, 32, 82] from by rw [List.append_assoc]; rfl)
  clear hn1 hn2
  clear h hL
  go_enter Tryz.func26, Tryz.ntmps26
  go_upto_region 1 with fail
  rw [← hg, ← hW1]
  clear hg hW1
  have q0 := HFV.out.blk.cell 0
  have q1 := HFV.out.blk.cell 1
  have q2 := HFV.out.blk.cell 2
  have q3 := HFV.out.blk.cell 3
  simp at q0 q1 q2 q3
  go_upto_region 23 with first
    | (go_at_call 23; refine (HIO.out _).mono ?_; rintro e w2 ⟨rfl, h2⟩; have HT2 := keepf (HFV.out.fb.call h2); clear h2)
    | (go_at_call 50; refine (HN.out _ HT2.out).mono ?_; rintro e w3 ⟨rfl, h3⟩; have HT3 := keepf h3; clear h3)
  go_wp2_with (go_at_call 48; refine (HW0.out _ _ HT3.out hl3).mono ?_; rintro e w4 ⟨rfl, h4⟩; have HT4 := keepf h4; clear h4)
  go_end0
  exact ⟨rfl, by have h5 := HFV.out.end_ HT4.out; rw [← HE.out] at h5; exact h5⟩

/-- A value that may be is put to the form. -/
theorem pv_any : ∀ (N : Nat) (t : VT), sizT t ≤ N → firstT t = 0 → PV t := by
  intro N
  induction N using Nat.strongRecOn with
  | _ N ih =>
    intro t hN hf c V w W R out hL hv h hl
    obtain ⟨k, n, s, l⟩ := t
    rw [sizT_mk] at hN
    obtain ⟨ck, cn, cs, A, len, cap⟩ := c
    obtain ⟨e1, e2, e3, hg, hll, hr⟩ := hv.inv
    simp only [] at e1 e2 e3 hll hr
    subst e1 e2 e3
    have hlm := hg.len
    simp only [] at hlm
    unfold maxLen at hlm
    have hin : ck = 6 ∨ ck = 7 → ∀ x ∈ l, PV x := fun hk x hx => by
      have hfx := first_in hk hf x hx
      obtain ⟨i, hi, rfl⟩ := List.mem_iff_getElem.1 hx
      have := sizL_at (List.getElem?_eq_getElem hi)
      exact ih (N - 1) (by omega) _ (by omega) hfx
    have ho := own_zero hf
    unfold VC.val
    simp only []
    rcases kind_of ho with rfl | rfl | rfl | rfl | rfl | rfl | rfl | rfl | rfl
    · rw [form_0] at hl ⊢
      exact fval_null h hL cn cs A len cap hl
    · rw [own_1] at ho
      split at ho
      · next hh =>
        rcases hh.2.2 with rfl | rfl
        · rw [form_1, if_neg (by decide)] at hl ⊢
          exact fval_false h hL cs A len cap hl
        · rw [form_1, if_pos rfl] at hl ⊢
          exact fval_true h hL cs A len cap hl
      · cases ho
    · rw [own_2, hll] at ho
      rw [form_2] at hl ⊢
      exact fval_int h hL cn cs A len cap ho hl
    · rw [own_3, hll] at ho
      rw [form_3] at hl ⊢
      exact fval_real h hL cn cs A len cap ho hl
    · rw [form_4] at hl ⊢
      exact fval_text h hL cn cs A len cap hl
    · rw [form_5] at hl ⊢
      exact fval_name h hL cn cs A len cap hl
    · have e : formT (.mk 6 cn cs l) = [91] ++ formL 0 l ++ [93] := by rw [form_6]; rfl
      rw [e] at hl ⊢
      exact fval_array h hL cn cs A len cap l (hin (.inl rfl)) hll hr hlm hl
    · have e : formT (.mk 7 cn cs l) = [60, 60] ++ formL 0 l ++ [62, 62] := by rw [form_7]; rfl
      rw [e] at hl ⊢
      exact fval_dict h hL cn cs A len cap l (hin (.inr rfl)) hll hr hlm hl
    · rw [own_8] at ho
      split at ho
      · next hh =>
        rw [form_8] at hl ⊢
        exact fval_ref h hL cn cs A len cap hh.2.2.1 hh.2.2.2 hl
      · cases ho

end Go.Proofs.YtcehpobjnbgpdaaGreatDoor

