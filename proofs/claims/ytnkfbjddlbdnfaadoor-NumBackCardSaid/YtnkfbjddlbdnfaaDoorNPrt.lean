/- The program's Print. -/
import Derived.Test.YtnkfbjddlbdnfaaDoorNPad
import Derived.Test.YtnkfbjddlbdnfaaDoorNChk
import Derived.BigQuiet
namespace Go.Proofs.YtnkfbjddlbdnfaaDoor
open Go.RowKit
set_option linter.unusedVariables false
set_option linter.unusedSimpArgs false

theorem txt6 (p : Nat) (h : p < 1000000) : ∃ c m, txt p 6 = c :: m ∧ m.length = 5 := by
  have h1 := dn_len (n := p) (k := 6) (by omega)
  have hl : (txt p 6).length = 6 := by rw [txt_len]; omega
  rcases hx : txt p 6 with _ | ⟨c, m⟩
  · rw [hx] at hl; simp at hl
  · rw [hx] at hl; exact ⟨c, m, rfl, by simpa using hl⟩
theorem trimZ_le (p : Nat) (h : p < 1000000) : (trimZ 5 (txt p 6)).length ≤ 6 := by
  obtain ⟨c, m, e, hm⟩ := txt6 p h
  have := trimR_len m
  rw [e, trimZ_R c 5 m hm, List.length_cons]
  omega
theorem sb_ne (t : ByteArray) : (ByteArray.mk #[] ++ t) = t := by
  obtain ⟨⟨l⟩⟩ := t
  rfl
theorem short_any (p : Nat) (h : p < 1000000) (w : World) :
    Calls Tryd.prog 25 #[.string (sb (txt p 6))] w fun e w' => e = .returned (.string (sb (trimZ 5 (txt p 6)))) ∧ Chg NoS w w' := by
  have hd := dig_lt (txt_dig p 6)
  obtain ⟨c, m, e, hm⟩ := txt6 p h
  rw [e] at hd ⊢
  exact shortest_any c m hd hm w

set_option maxHeartbeats 4000000 in
theorem print_any (k n : Int) (s : ByteArray) (A : Option Addr) (len cap : Nat) (w : World) (hL : LibOk w) :
    Calls Tryd.prog 13 #[.agg #[.int .i64 k, .int .i64 n, .string s, .slice A len cap]] w (PrTo w k n s.size len) := by
  have HL := keepf hL
  have HCH := keepf (fun W => chk_any k n s A len cap W)
  have HB := keepf (Blk.new w 25 #[.int .i64 k, .int .i64 n, .string s, .slice A len cap])
  have HA := keepf ((Chg.refl NoS w).alloc (.cells #[.int .i64 k, .int .i64 n, .string s, .slice A len cap] 25))
  obtain ⟨W, hW⟩ : ∃ W, W = w.alloc (.cells #[.int .i64 k, .int .i64 n, .string s, .slice A len cap] 25) := ⟨_, rfl⟩
  obtain ⟨g, hg⟩ : ∃ g, g = w.heap.size := ⟨_, rfl⟩
  rw [← hW] at HB HA
  rw [← hg] at HB
  by_cases hc : chkOf k n s.size len = 0
  · have hm := hc
    unfold chkOf at hm
    split at hm
    · rename_i h
      obtain ⟨h1, h2, h3⟩ := h
      obtain rfl := str_nil h1
      subst h2
      have HC : Hid (∀ W, Calls Tryd.prog 17 #[.agg #[.int .i64 k, .int .i64 n, .string ⟨#[]⟩, .slice A 0 cap]] W fun e w' => e = .returned (.int .i64 0) ∧ Chg NoS W w') := fun W => by
        have h := HCH.out W
        rw [hc] at h
        exact h
      have HP : Hid (∀ l : List Nat, (if k = 2 then intTxt n else realTxt n) = l → prOf k n (ByteArray.mk #[]).size 0 = (l, 0)) := fun l hl => by
        unfold prOf
        rw [if_pos hc, hl]
      clear hc hm h1 HCH hL
      rcases h3 with ⟨hk, b1, b2⟩ | ⟨hk, b1, b2⟩
      · obtain rfl : k = 2 := hk
        by_cases hn : n < 0
        · obtain ⟨m, rfl⟩ : ∃ m : Nat, n = -(m : Int) := ⟨n.natAbs, by omega⟩
          have d1 : decide (-(m : Int) < 0) = true := by simpa using hn
          have d2 : decide (0 < (m : Int)) = true := by simp; omega
          have d3 : decide (0 < m) = true := by simp; omega
          have hm9 : m ≤ 2147483647000000 := by omega
          have HI := keepf (fun W h => itoa_any m (by omega) W h)
          obtain ⟨t, ht⟩ : ∃ t, sb (txt m 1) = t := ⟨_, rfl⟩
          obtain ⟨L, hLn⟩ : ∃ L, t.size = L := ⟨_, rfl⟩
          have hL20 : L ≤ 100 := by
            have h1 : (dn m).length ≤ 19 := dn_len (by omega)
            rw [← hLn, ← ht, sb_size, txt_len]
            omega
          rw [ht] at HI
          have i1 : ¬ 9223372036854775807 < 1 + L := by omega
          have i2 : 1 + L ≤ 9223372036854775807 := by omega
          have i3 : ¬ 9223372036854775807 < L := by omega
          have i4 : L ≤ 9223372036854775807 := by omega
          have HE : Hid (ByteArray.mk #[45] ++ t = sb (intTxt (-(m : Int)))) := by
            show _ = _
            rw [← ht, show ByteArray.mk #[45] = sb [45] from rfl, sb_app, intTxt, signL, if_pos (by omega), show (-(m : Int)).natAbs = m from by omega]
          have HPP := keepf (HP.out _ rfl)
          rw [if_pos rfl] at HPP
          clear ht HP b1 b2 hn
          go_enter Tryd.func13, Tryd.ntmps13
          go_upto_region 1 with fail
          rw [← hW, ← hg]
          clear hW hg
          have q0 := HB.out.cell 0
          have q1 := HB.out.cell 1
          have q2 := HB.out.cell 2
          have q3 := HB.out.cell 3
          simp at q0 q1 q2 q3
          go_upto_region 2 with (go_at_call 17; refine (HC.out _).mono ?_; rintro e w2 ⟨rfl, hc2⟩; have HB2 := keepf (HB.out.chg hc2 (fun h => h)); have HC2 := keepf (HA.out.trans hc2 (fun _ _ h => h)); clear hc2)
          clear q0 q1 q2 q3
          have q0 := HB2.out.cell 0
          have q1 := HB2.out.cell 1
          simp at q0 q1
          go_upto_region 4 with fail
          go_quiet (fail)
          have HL2 := keepf ((HL.out.chg HC2.out).chg ((Chg.refl NoS _).drewN nq))
          have HC3 := keepf (HC2.out.drewN nq)
          go_wp2_with (go_at_call 24; refine (HI.out _ HL2.out).mono ?_; rintro e w5 ⟨rfl, hc5⟩; have HC5 := keepf (HC3.out.trans hc5 (fun _ _ h => h)); clear hc5)
          go_ret2
          refine PrTo.of HPP.out ?_ HC5.out
          rw [← HE.out]
          first | done | rfl | exact sb_ne _
        · obtain ⟨m, rfl⟩ : ∃ m : Nat, n = (m : Int) := ⟨n.natAbs, by omega⟩
          have d1 : decide ((m : Int) < 0) = false := by simp
          clear hn
          have HI := keepf (fun W h => itoa_any m (by omega) W h)
          obtain ⟨t, ht⟩ : ∃ t, sb (txt m 1) = t := ⟨_, rfl⟩
          obtain ⟨L, hLn⟩ : ∃ L, t.size = L := ⟨_, rfl⟩
          have hL20 : L ≤ 100 := by
            have h1 : (dn m).length ≤ 19 := dn_len (by omega)
            rw [← hLn, ← ht, sb_size, txt_len]
            omega
          rw [ht] at HI
          have i1 : ¬ 9223372036854775807 < 1 + L := by omega
          have i2 : 1 + L ≤ 9223372036854775807 := by omega
          have i3 : ¬ 9223372036854775807 < L := by omega
          have i4 : L ≤ 9223372036854775807 := by omega
          have HE : Hid (t = sb (intTxt ((m : Int)))) := by
            show _ = _
            rw [← ht, intTxt, signL, if_neg (by omega), show (m : Int).natAbs = m from by omega]
            rfl
          have HPP := keepf (HP.out _ rfl)
          rw [if_pos rfl] at HPP
          clear ht HP b1 b2
          go_enter Tryd.func13, Tryd.ntmps13
          go_upto_region 1 with fail
          rw [← hW, ← hg]
          clear hW hg
          have q0 := HB.out.cell 0
          have q1 := HB.out.cell 1
          have q2 := HB.out.cell 2
          have q3 := HB.out.cell 3
          simp at q0 q1 q2 q3
          go_upto_region 2 with (go_at_call 17; refine (HC.out _).mono ?_; rintro e w2 ⟨rfl, hc2⟩; have HB2 := keepf (HB.out.chg hc2 (fun h => h)); have HC2 := keepf (HA.out.trans hc2 (fun _ _ h => h)); clear hc2)
          clear q0 q1 q2 q3
          have q0 := HB2.out.cell 0
          have q1 := HB2.out.cell 1
          simp at q0 q1
          go_upto_region 4 with fail
          go_quiet (fail)
          have HL2 := keepf ((HL.out.chg HC2.out).chg ((Chg.refl NoS _).drewN nq))
          have HC3 := keepf (HC2.out.drewN nq)
          go_wp2_with (go_at_call 24; refine (HI.out _ HL2.out).mono ?_; rintro e w5 ⟨rfl, hc5⟩; have HC5 := keepf (HC3.out.trans hc5 (fun _ _ h => h)); clear hc5)
          go_ret2
          refine PrTo.of HPP.out ?_ HC5.out
          rw [← HE.out]
          first | done | rfl | exact sb_ne _
      · obtain rfl : k = 3 := hk
        by_cases hn : n < 0
        · obtain ⟨m, rfl⟩ : ∃ m : Nat, n = -(m : Int) := ⟨n.natAbs, by omega⟩
          have d1 : decide (-(m : Int) < 0) = true := by simpa using hn
          have d2 : decide (0 < (m : Int)) = true := by simp; omega
          have d3 : decide (0 < m) = true := by simp; omega
          have hm9 : m ≤ 2147483647000000 := by omega
          obtain ⟨q, hq⟩ : ∃ q : Nat, m / 1000000 = q := ⟨_, rfl⟩
          obtain ⟨p, hp⟩ : ∃ p : Nat, m % 1000000 = p := ⟨_, rfl⟩
          have hp6 : p < 1000000 := by omega
          have hq9 : q ≤ 2147483647 := by omega
          have HI := keepf (fun W h => itoa_any q (by omega) W h)
          have HD := keepf (fun W h => padded_any p 6 (by omega) ⟨by omega, by omega⟩ W h)
          have HS := keepf (fun W => short_any p hp6 W)
          obtain ⟨t, ht⟩ : ∃ t, sb (txt q 1) = t := ⟨_, rfl⟩
          obtain ⟨L, hLn⟩ : ∃ L, t.size = L := ⟨_, rfl⟩
          have hL20 : L ≤ 100 := by
            have h1 : (dn q).length ≤ 19 := dn_len (by omega)
            rw [← hLn, ← ht, sb_size, txt_len]
            omega
          obtain ⟨u, hu⟩ : ∃ u, sb (trimZ 5 (txt p 6)) = u := ⟨_, rfl⟩
          obtain ⟨M, hMn⟩ : ∃ M, u.size = M := ⟨_, rfl⟩
          have hM20 : M ≤ 100 := by
            have h1 := trimZ_le p hp6
            rw [← hMn, ← hu, sb_size]
            omega
          obtain ⟨v, hv⟩ : ∃ v, sb (txt p 6) = v := ⟨_, rfl⟩
          rw [ht] at HI
          rw [hu, hv] at HS
          rw [hv] at HD
          have i1 : ¬ 9223372036854775807 < 1 + L := by omega
          have i2 : 1 + L ≤ 9223372036854775807 := by omega
          have i3 : ¬ 9223372036854775807 < L := by omega
          have i4 : L ≤ 9223372036854775807 := by omega
          have i5 : ¬ 9223372036854775807 < 1 + L + 1 := by omega
          have i6 : 1 + L + 1 ≤ 9223372036854775807 := by omega
          have i7 : ¬ 9223372036854775807 < L + 1 := by omega
          have i8 : L + 1 ≤ 9223372036854775807 := by omega
          have i9 : ¬ 9223372036854775807 < 1 + L + 1 + M := by omega
          have i10 : 1 + L + 1 + M ≤ 9223372036854775807 := by omega
          have i11 : ¬ 9223372036854775807 < L + 1 + M := by omega
          have i12 : L + 1 + M ≤ 9223372036854775807 := by omega
          have t1 : (m : Int).tdiv 1000000 = (q : Int) := by rw [Int.tdiv_eq_ediv_of_nonneg (by omega)]; omega
          have t2 : (m : Int).tmod 1000000 = (p : Int) := by rw [Int.tmod_eq_emod_of_nonneg (by omega)]; omega
          have t3 : (m : Int) / 1000000 = (q : Int) := by omega
          have t4 : (m : Int) % 1000000 = (p : Int) := by omega
          have HE : Hid (ByteArray.mk #[45] ++ t ++ ByteArray.mk #[46] ++ u = sb (realTxt (-(m : Int)))) := by
            show _ = _
            rw [← ht, ← hu, show ByteArray.mk #[45] = sb [45] from rfl, show ByteArray.mk #[46] = sb [46] from rfl, sb_app, sb_app, sb_app, realTxt, signL, if_pos (by omega), show (-(m : Int)).natAbs = m from by omega, hq, hp]
            simp
          have HPP := keepf (HP.out _ rfl)
          rw [if_neg (by decide)] at HPP
          clear ht hu hv hq hp HP b1 b2 hn
          go_enter Tryd.func13, Tryd.ntmps13
          go_upto_region 1 with fail
          rw [← hW, ← hg]
          clear hW hg
          have q0 := HB.out.cell 0
          have q1 := HB.out.cell 1
          have q2 := HB.out.cell 2
          have q3 := HB.out.cell 3
          simp at q0 q1 q2 q3
          go_upto_region 2 with (go_at_call 17; refine (HC.out _).mono ?_; rintro e w2 ⟨rfl, hc2⟩; have HB2 := keepf (HB.out.chg hc2 (fun h => h)); have HC2 := keepf (HA.out.trans hc2 (fun _ _ h => h)); clear hc2)
          clear q0 q1 q2 q3
          have q0 := HB2.out.cell 0
          have q1 := HB2.out.cell 1
          simp at q0 q1
          go_upto_region 4 with fail
          go_quiet (fail)
          have HL2 := keepf ((HL.out.chg HC2.out).chg ((Chg.refl NoS _).drewN nq))
          have HC3 := keepf (HC2.out.drewN nq)
          go_wp2_with first | (go_at_call 24; refine (HI.out _ HL2.out).mono ?_; rintro e w5 ⟨rfl, hc5⟩; have HL5 := keepf (HL2.out.chg hc5); have HC5 := keepf (HC3.out.trans hc5 (fun _ _ h => h)); clear hc5) | (go_at_call 26; refine (HD.out _ HL5.out).mono ?_; rintro e w6 ⟨rfl, hc6⟩; have HC6 := keepf (HC5.out.trans hc6 (fun _ _ h => h)); clear hc6) | (go_at_call 25; refine (HS.out _).mono ?_; rintro e w7 ⟨rfl, hc7⟩; have HC7 := keepf (HC6.out.trans hc7 (fun _ _ h => h)); clear hc7)
          go_ret2
          refine PrTo.of HPP.out ?_ HC7.out
          rw [← HE.out]
          first | done | rfl | (rw [sb_ne]; rfl) | simp [sb_ne]
        · obtain ⟨m, rfl⟩ : ∃ m : Nat, n = (m : Int) := ⟨n.natAbs, by omega⟩
          have d1 : decide ((m : Int) < 0) = false := by simp
          clear hn
          obtain ⟨q, hq⟩ : ∃ q : Nat, m / 1000000 = q := ⟨_, rfl⟩
          obtain ⟨p, hp⟩ : ∃ p : Nat, m % 1000000 = p := ⟨_, rfl⟩
          have hp6 : p < 1000000 := by omega
          have hq9 : q ≤ 2147483647 := by omega
          have HI := keepf (fun W h => itoa_any q (by omega) W h)
          have HD := keepf (fun W h => padded_any p 6 (by omega) ⟨by omega, by omega⟩ W h)
          have HS := keepf (fun W => short_any p hp6 W)
          obtain ⟨t, ht⟩ : ∃ t, sb (txt q 1) = t := ⟨_, rfl⟩
          obtain ⟨L, hLn⟩ : ∃ L, t.size = L := ⟨_, rfl⟩
          have hL20 : L ≤ 100 := by
            have h1 : (dn q).length ≤ 19 := dn_len (by omega)
            rw [← hLn, ← ht, sb_size, txt_len]
            omega
          obtain ⟨u, hu⟩ : ∃ u, sb (trimZ 5 (txt p 6)) = u := ⟨_, rfl⟩
          obtain ⟨M, hMn⟩ : ∃ M, u.size = M := ⟨_, rfl⟩
          have hM20 : M ≤ 100 := by
            have h1 := trimZ_le p hp6
            rw [← hMn, ← hu, sb_size]
            omega
          obtain ⟨v, hv⟩ : ∃ v, sb (txt p 6) = v := ⟨_, rfl⟩
          rw [ht] at HI
          rw [hu, hv] at HS
          rw [hv] at HD
          have i1 : ¬ 9223372036854775807 < 1 + L := by omega
          have i2 : 1 + L ≤ 9223372036854775807 := by omega
          have i3 : ¬ 9223372036854775807 < L := by omega
          have i4 : L ≤ 9223372036854775807 := by omega
          have i5 : ¬ 9223372036854775807 < 1 + L + 1 := by omega
          have i6 : 1 + L + 1 ≤ 9223372036854775807 := by omega
          have i7 : ¬ 9223372036854775807 < L + 1 := by omega
          have i8 : L + 1 ≤ 9223372036854775807 := by omega
          have i9 : ¬ 9223372036854775807 < 1 + L + 1 + M := by omega
          have i10 : 1 + L + 1 + M ≤ 9223372036854775807 := by omega
          have i11 : ¬ 9223372036854775807 < L + 1 + M := by omega
          have i12 : L + 1 + M ≤ 9223372036854775807 := by omega
          have t1 : (m : Int).tdiv 1000000 = (q : Int) := by rw [Int.tdiv_eq_ediv_of_nonneg (by omega)]; omega
          have t2 : (m : Int).tmod 1000000 = (p : Int) := by rw [Int.tmod_eq_emod_of_nonneg (by omega)]; omega
          have t3 : (m : Int) / 1000000 = (q : Int) := by omega
          have t4 : (m : Int) % 1000000 = (p : Int) := by omega
          have HE : Hid (t ++ ByteArray.mk #[46] ++ u = sb (realTxt ((m : Int)))) := by
            show _ = _
            rw [← ht, ← hu, show ByteArray.mk #[46] = sb [46] from rfl, sb_app, sb_app, realTxt, signL, if_neg (by omega), show (m : Int).natAbs = m from by omega, hq, hp]
            simp
          have HPP := keepf (HP.out _ rfl)
          rw [if_neg (by decide)] at HPP
          clear ht hu hv hq hp HP b1 b2
          go_enter Tryd.func13, Tryd.ntmps13
          go_upto_region 1 with fail
          rw [← hW, ← hg]
          clear hW hg
          have q0 := HB.out.cell 0
          have q1 := HB.out.cell 1
          have q2 := HB.out.cell 2
          have q3 := HB.out.cell 3
          simp at q0 q1 q2 q3
          go_upto_region 2 with (go_at_call 17; refine (HC.out _).mono ?_; rintro e w2 ⟨rfl, hc2⟩; have HB2 := keepf (HB.out.chg hc2 (fun h => h)); have HC2 := keepf (HA.out.trans hc2 (fun _ _ h => h)); clear hc2)
          clear q0 q1 q2 q3
          have q0 := HB2.out.cell 0
          have q1 := HB2.out.cell 1
          simp at q0 q1
          go_upto_region 4 with fail
          go_quiet (fail)
          have HL2 := keepf ((HL.out.chg HC2.out).chg ((Chg.refl NoS _).drewN nq))
          have HC3 := keepf (HC2.out.drewN nq)
          go_wp2_with first | (go_at_call 24; refine (HI.out _ HL2.out).mono ?_; rintro e w5 ⟨rfl, hc5⟩; have HL5 := keepf (HL2.out.chg hc5); have HC5 := keepf (HC3.out.trans hc5 (fun _ _ h => h)); clear hc5) | (go_at_call 26; refine (HD.out _ HL5.out).mono ?_; rintro e w6 ⟨rfl, hc6⟩; have HC6 := keepf (HC5.out.trans hc6 (fun _ _ h => h)); clear hc6) | (go_at_call 25; refine (HS.out _).mono ?_; rintro e w7 ⟨rfl, hc7⟩; have HC7 := keepf (HC6.out.trans hc7 (fun _ _ h => h)); clear hc7)
          go_ret2
          refine PrTo.of HPP.out ?_ HC7.out
          rw [← HE.out]
          first | done | rfl | (rw [sb_ne]; rfl) | simp [sb_ne]
    · cases hm
  · have h2 : chkOf k n s.size len = 2 := by
      unfold chkOf at hc ⊢
      split
      · rename_i h; rw [if_pos h] at hc; exact absurd rfl hc
      · rfl
    have HPP : Hid (prOf k n s.size len = ([], 2)) := if_neg hc
    have HC : Hid (∀ W, Calls Tryd.prog 17 #[.agg #[.int .i64 k, .int .i64 n, .string s, .slice A len cap]] W fun e w' => e = .returned (.int .i64 2) ∧ Chg NoS W w') := fun W => by
      have h := HCH.out W
      rw [h2] at h
      exact h
    clear hc h2 HCH hL HL
    go_enter Tryd.func13, Tryd.ntmps13
    go_upto_region 1 with fail
    rw [← hW, ← hg]
    clear hW hg
    have q0 := HB.out.cell 0
    have q1 := HB.out.cell 1
    have q2 := HB.out.cell 2
    have q3 := HB.out.cell 3
    simp at q0 q1 q2 q3
    go_wp2_with (go_at_call 17; refine (HC.out _).mono ?_; rintro e w2 ⟨rfl, hc2⟩; have HC2 := keepf (HA.out.trans hc2 (fun _ _ h => h)); clear hc2)
    go_ret2
    exact PrTo.of HPP.out rfl HC2.out
end Go.Proofs.YtnkfbjddlbdnfaaDoor
