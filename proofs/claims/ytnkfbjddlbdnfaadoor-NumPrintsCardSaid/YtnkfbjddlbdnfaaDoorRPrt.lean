/- The document's own Print of a number. -/
import Derived.Test.YtnkfbjddlbdnfaaDoorRChk
namespace Go.Proofs.YtnkfbjddlbdnfaaDoor
open Go.RowKit
set_option linter.unusedVariables false
set_option linter.unusedSimpArgs false

/-- A number's text, and the error. -/
def prOf (k n : Int) (sz len : Nat) : List Nat × Int := if chkOf k n sz len = 0 then (if k = 2 then intTxt n else realTxt n, 0) else ([], 2)
theorem sb_at {l : List Nat} (hb : ∀ d ∈ l, d < 256) (k : Nat) (h : k < (sb l).size) : ((sb l)[k]'h).toNat = l.getD k 0 := by
  rw [sl_at, sl_sb l hb]
theorem sb_take (l : List Nat) (m : Nat) : (sb l).extract 0 m = sb (l.take m) := by
  unfold sb
  apply ByteArray.ext
  rw [ByteArray.data_extract]
  simp [List.map_take]
theorem last_at {l : List Nat} {n x : Nat} (hn : l.length = n + 1) (hx : l.getD n 0 = x) : l.getLast? = some x := by
  rw [List.getLast?_eq_getElem?, hn, Nat.add_sub_cancel]
  rw [List.getD_eq_getElem?_getD, List.getElem?_eq_getElem (by omega)] at hx
  rw [List.getElem?_eq_getElem (by omega)]
  exact congrArg some hx
theorem trimZ_yes {k n : Nat} {l : List Nat} (hn : l.length = n + 1) (hx : l.getD n 0 = 48) : trimZ (k + 1) l = trimZ k (l.take n) := by
  rw [trimZ, if_pos (last_at hn hx), List.dropLast_eq_take, hn, Nat.add_sub_cancel]
theorem trimZ_no {k n : Nat} {l : List Nat} (hn : l.length = n + 1) (hx : l.getD n 0 ≠ 48) : trimZ k l = l := by
  rcases k with _ | k
  · rfl
  · rw [trimZ, if_neg]
    intro h
    have h2 := last_at hn rfl
    rw [h] at h2
    injection h2 with h2
    exact hx h2.symm
theorem dig_lt {l : List Nat} (h : ∀ d ∈ l, isD d) : ∀ d ∈ l, d < 256 := fun d hd => by
  have := h d hd
  unfold isD at this
  omega

/-- Behind Print. -/
def PrTo (w : World) (k n : Int) (sz len : Nat) (e : Ending) (w' : World) : Prop := e = .returned (.tuple #[.string (sb (prOf k n sz len).1), .int .i64 (prOf k n sz len).2]) ∧ Chg NoS w w'
theorem PrTo.of {w w' : World} {k n : Int} {sz len : Nat} {l : List Nat} {z : Int} {t : ByteArray} (h : prOf k n sz len = (l, z)) (ht : t = sb l) (hc : Chg NoS w w') : PrTo w k n sz len (.returned (.tuple #[.string t, .int .i64 z])) w' := by
  unfold PrTo
  rw [h, ht]
  exact ⟨rfl, hc⟩

set_option maxHeartbeats 2000000 in
set_option maxRecDepth 100000 in
theorem rprint_any (k n : Int) (s : ByteArray) (A : Option Addr) (len cap : Nat) (w : World) :
    Calls Tryd.prog 14 #[.agg #[.int .i64 k, .int .i64 n, .string s, .slice A len cap]] w (PrTo w k n s.size len) := by
  have HK := keepf (fun W => rchk_any k n s A len cap W)
  have HB := keepf (Blk.new w 25 #[.int .i64 k, .int .i64 n, .string s, .slice A len cap])
  have HA := keepf ((Chg.refl NoS w).alloc (.cells #[.int .i64 k, .int .i64 n, .string s, .slice A len cap] 25))
  by_cases hc : chkOf k n s.size len = 0
  · have hmay : mayN k n := by
      unfold chkOf at hc
      split at hc
      · rename_i h
        exact h.2.2
      · cases hc
    have HP : Hid (prOf k n s.size len = (if k = 2 then intTxt n else realTxt n, 0)) := if_pos hc
    rw [hc] at HK
    obtain ⟨sz, hsz⟩ : ∃ sz, sz = s.size := ⟨_, rfl⟩
    rw [← hsz] at HP ⊢
    obtain ⟨q, hq⟩ : ∃ q, q = n.natAbs := ⟨_, rfl⟩
    have hq2 : q ≤ 2147483647000000 := by unfold mayN at hmay; omega
    have HQ := keepf hq
    have HT1 := keepf (fun (W : World) => rtext_any q 1 W (by omega) (by omega) (by decide))
    obtain ⟨s1, hs1⟩ : ∃ s1, s1 = sb (txt q 1) := ⟨_, rfl⟩
    have hl1 : s1.size ≤ 20 := by
      rw [hs1, sb_size, txt_len]
      have := dn_len (n := q) (k := 20) (by omega)
      omega
    rw [← hs1] at HT1
    have HS1 := keepf hs1
    obtain ⟨l1, hll1⟩ : ∃ l1, s1.size = l1 := ⟨_, rfl⟩
    rw [hll1] at hl1
    -- the whole part, and the millionths
    obtain ⟨r, hr⟩ : ∃ r, r = q / 1000000 := ⟨_, rfl⟩
    obtain ⟨m, hm⟩ : ∃ m, m = q % 1000000 := ⟨_, rfl⟩
    have er : (q : Int) / 1000000 = (r : Int) := by omega
    have em : (q : Int) % 1000000 = (m : Int) := by omega
    have HRM := keepf (⟨hr, hm⟩ : r = q / 1000000 ∧ m = q % 1000000)
    have hmm : m < 1000000 := by omega
    have hrr : r ≤ 2147483647 := by omega
    have HT6 := keepf (fun (W : World) => rtext_any m 6 W (by omega) (by omega) (by decide))
    have HTR := keepf (fun (W : World) => rtext_any r 1 W (by omega) (by omega) (by decide))
    obtain ⟨s2, hs2⟩ : ∃ s2, s2 = sb (txt r 1) := ⟨_, rfl⟩
    have hl2 : s2.size ≤ 20 := by
      rw [hs2, sb_size, txt_len]
      have := dn_len (n := r) (k := 20) (by omega)
      omega
    rw [← hs2] at HTR
    have HS2 := keepf hs2
    obtain ⟨l2, hll2⟩ : ∃ l2, s2.size = l2 := ⟨_, rfl⟩
    rw [hll2] at hl2
    obtain ⟨s6, hs6⟩ : ∃ s6, s6 = sb (txt m 6) := ⟨_, rfl⟩
    rw [← hs6] at HT6
    have HS6 := keepf hs6
    have h66 : (txt m 6).length = 6 := by
      rw [txt_len]
      have := dn_len (n := m) (k := 6) (by omega)
      omega
    have H66 := keepf h66
    clear hc hsz hq hs1 hr hm hs2 hs6 h66
    have HMAY := keepf hmay
    by_cases hn : n < 0
    · have d1 : decide (n < 0) = true := by simpa using hn
      have en : 0 - n = (q : Int) := by have := HQ.out; omega
      have en2 : -n = (q : Int) := by have := HQ.out; omega
      have HSG : Hid (signL n = [45]) := if_pos hn
      clear hmay hn
      by_cases h2 : k = 2
      · subst h2
        rw [if_pos rfl] at HP
        have HFIN : Hid ((ByteArray.mk #[45]) ++ s1 = sb (intTxt n)) := by
          show _ = _
          rw [HS1.out, intTxt, HSG.out, ← HQ.out, ← sb_app]
          rfl
        go_enter Tryd.func14, Tryd.ntmps14
        go_wp2_with (first
          | (go_at_call 18; refine (HK.out _).mono ?_; rintro e w2 ⟨rfl, hc2⟩; have hb := HB.out.chg hc2 (fun e => e); have c0 := hb.cell 0; have c1 := hb.cell 1; simp at c0 c1; have HC2 := keepf (HA.out.trans hc2 (fun _ _ e => e)); clear hc2 hb)
          | (go_at_call 27; refine (HT1.out _).mono ?_; rintro e w' ⟨rfl, rfl⟩))
        go_ret2
        exact PrTo.of HP.out HFIN.out HC2.out
      · have u2 : (k == 2) = false := by simpa using h2
        rw [if_neg h2] at HP
        clear h2
        have HFIN := keepf (fun (t : ByteArray) (S : List Nat) (h1 : t = sb S) (h2 : trimZ 5 (txt m 6) = S) => (show ((ByteArray.mk #[45] ++ s2) ++ ByteArray.mk #[46]) ++ t = sb (realTxt n) by
          rw [h1, HS2.out, realTxt, HSG.out, ← HQ.out, ← HRM.out.1, ← HRM.out.2, h2]
          rw [show (ByteArray.mk #[46]) = sb [46] from rfl, show (ByteArray.mk #[45]) = sb [45] from rfl, sb_app, sb_app, sb_app]
          simp))
        go_enter Tryd.func14, Tryd.ntmps14
        go_wp2_with (first
          | (go_at_call 18; refine (HK.out _).mono ?_; rintro e w2 ⟨rfl, hc2⟩; have hb := HB.out.chg hc2 (fun e => e); have c0 := hb.cell 0; have c1 := hb.cell 1; simp at c0 c1; have HC2 := keepf (HA.out.trans hc2 (fun _ _ e => e)); clear hc2 hb)
          | (go_at_call 27; refine (HT6.out _).mono ?_; rintro e w' ⟨rfl, rfl⟩))
        go_loop [6, 7] (fun vs vk => ∃ (j g h : Nat) (t : ByteArray), j ≤ 5 ∧ g ≤ 6 ∧ t.size = g ∧ vs = .string t ∧ vk = .int .i64 (j : Nat) ∧ Hid (g = h + 1 ∧ h = 5 - j ∧ ∃ S : List Nat, t = sb S ∧ (∀ d ∈ S, isD d) ∧ trimZ 5 (txt m 6) = trimZ (5 - j) S)) (fun _ vk => 5 - (intOf vk).toNat)
        case atStart => exact ⟨0, 6, 5, s6, by omega, by omega, by rw [HS6.out, sb_size, H66.out], rfl, by go_num, ⟨rfl, rfl, txt m 6, HS6.out, txt_dig m 6, rfl⟩⟩
        case round =>
          obtain ⟨j, g, h, t, hj, hg6, hg, rfl, rfl, HT⟩ := hrel
          have eg : (g : Int) - 1 = (h : Int) := by have := HT.out.1; omega
          have hgh : h < g := by have := HT.out.1; omega
          have hih : (h : Int) < g := by omega
          obtain ⟨x, hx⟩ : ∃ x : Nat, ∀ hh : h < t.size, (t[h]'hh).toNat = x := ⟨(t[h]'(by omega)).toNat, fun _ => rfl⟩
          have HX : Hid (∀ S : List Nat, t = sb S → (∀ d ∈ S, isD d) → S.length = h + 1 ∧ S.getD h 0 = x) := by
            intro S h1 h3
            subst h1
            have h4 := hx (by omega)
            rw [sb_at (dig_lt h3)] at h4
            rw [sb_size] at hg
            exact ⟨by rw [hg]; exact HT.out.1, h4⟩
          have HEX : Hid (∀ S : List Nat, t = sb S → t.extract 0 h = sb (S.take h)) := fun S h1 => by rw [h1, sb_take]
          by_cases h5 : j < 5
          · by_cases h48 : x = 48
            · subst h48
              have HNX : Hid (∃ S : List Nat, t.extract 0 h = sb S ∧ (∀ d ∈ S, isD d) ∧ S.length = h ∧ trimZ 5 (txt m 6) = trimZ (5 - (j + 1)) S) := by
                obtain ⟨_, _, S, h1, h3, h4⟩ := HT.out
                obtain ⟨h6, h7⟩ := HX.out S h1 h3
                refine ⟨S.take h, HEX.out S h1, fun d hd => h3 d (List.mem_of_mem_take hd), by rw [List.length_take]; omega, ?_⟩
                rw [h4, show 5 - j = 5 - (j + 1) + 1 from by omega, trimZ_yes h6 h7]
              go_wp2_with fail
              go_round
              case rel =>
                obtain ⟨S, h1, h3, h4, h6⟩ := HNX.out
                have h7 := HT.out.2.1
                exact ⟨j + 1, h, h - 1, t.extract 0 h, by omega, by omega, by rw [h1, sb_size, h4], rfl, by go_num, ⟨by omega, by omega, S, h1, h3, h6⟩⟩
              case measure => simp [intOf]; omega
            · have u48 : ((x : Int) == 48) = false := by simp; omega
              have HEND : Hid (((ByteArray.mk #[45] ++ s2) ++ ByteArray.mk #[46]) ++ t = sb (realTxt n)) := by
                obtain ⟨_, _, S, h1, h3, h4⟩ := HT.out
                obtain ⟨h6, h7⟩ := HX.out S h1 h3
                exact HFIN.out t S h1 (by rw [h4]; exact trimZ_no h6 (by rw [h7]; exact h48))
              clear h48
              go_wp2_with (go_at_call 27; refine (HTR.out _).mono ?_; rintro e w' ⟨rfl, rfl⟩)
              go_ret2
              exact PrTo.of HP.out HEND.out HC2.out
          · have HEND : Hid (((ByteArray.mk #[45] ++ s2) ++ ByteArray.mk #[46]) ++ t = sb (realTxt n)) := by
              obtain ⟨_, _, S, h1, h3, h4⟩ := HT.out
              exact HFIN.out t S h1 (by rw [h4, show 5 - j = 0 from by omega]; rfl)
            have d5 : decide ((j : Int) < 5) = false := by simp; omega
            have d5' : decide (j < 5) = false := by simp; omega
            go_wp2_with (go_at_call 27; refine (HTR.out _).mono ?_; rintro e w' ⟨rfl, rfl⟩)
            go_ret2
            exact PrTo.of HP.out HEND.out HC2.out
    · obtain rfl : n = (q : Int) := by have := HQ.out; omega
      have d1 : decide ((q : Int) < 0) = false := by simp
      have HSG : Hid (signL (q : Nat) = []) := if_neg hn
      clear hmay hn
      by_cases h2 : k = 2
      · subst h2
        rw [if_pos rfl] at HP
        have HFIN : Hid ((ByteArray.mk #[]) ++ s1 = sb (intTxt (q : Nat))) := by
          show _ = _
          rw [HS1.out, intTxt, HSG.out, ← HQ.out, ← sb_app]
          rfl
        go_enter Tryd.func14, Tryd.ntmps14
        go_wp2_with (first
          | (go_at_call 18; refine (HK.out _).mono ?_; rintro e w2 ⟨rfl, hc2⟩; have hb := HB.out.chg hc2 (fun e => e); have c0 := hb.cell 0; have c1 := hb.cell 1; simp at c0 c1; have HC2 := keepf (HA.out.trans hc2 (fun _ _ e => e)); clear hc2 hb)
          | (go_at_call 27; refine (HT1.out _).mono ?_; rintro e w' ⟨rfl, rfl⟩))
        go_ret2
        exact PrTo.of HP.out HFIN.out HC2.out
      · have u2 : (k == 2) = false := by simpa using h2
        rw [if_neg h2] at HP
        clear h2
        have HFIN := keepf (fun (t : ByteArray) (S : List Nat) (h1 : t = sb S) (h2 : trimZ 5 (txt m 6) = S) => (show ((ByteArray.mk #[] ++ s2) ++ ByteArray.mk #[46]) ++ t = sb (realTxt (q : Nat)) by
          rw [h1, HS2.out, realTxt, HSG.out, ← HQ.out, ← HRM.out.1, ← HRM.out.2, h2]
          rw [show (ByteArray.mk #[46]) = sb [46] from rfl, show (ByteArray.mk #[]) = sb [] from rfl, sb_app, sb_app, sb_app]
          simp))
        go_enter Tryd.func14, Tryd.ntmps14
        go_wp2_with (first
          | (go_at_call 18; refine (HK.out _).mono ?_; rintro e w2 ⟨rfl, hc2⟩; have hb := HB.out.chg hc2 (fun e => e); have c0 := hb.cell 0; have c1 := hb.cell 1; simp at c0 c1; have HC2 := keepf (HA.out.trans hc2 (fun _ _ e => e)); clear hc2 hb)
          | (go_at_call 27; refine (HT6.out _).mono ?_; rintro e w' ⟨rfl, rfl⟩))
        go_loop [6, 7] (fun vs vk => ∃ (j g h : Nat) (t : ByteArray), j ≤ 5 ∧ g ≤ 6 ∧ t.size = g ∧ vs = .string t ∧ vk = .int .i64 (j : Nat) ∧ Hid (g = h + 1 ∧ h = 5 - j ∧ ∃ S : List Nat, t = sb S ∧ (∀ d ∈ S, isD d) ∧ trimZ 5 (txt m 6) = trimZ (5 - j) S)) (fun _ vk => 5 - (intOf vk).toNat)
        case atStart => exact ⟨0, 6, 5, s6, by omega, by omega, by rw [HS6.out, sb_size, H66.out], rfl, by go_num, ⟨rfl, rfl, txt m 6, HS6.out, txt_dig m 6, rfl⟩⟩
        case round =>
          obtain ⟨j, g, h, t, hj, hg6, hg, rfl, rfl, HT⟩ := hrel
          have eg : (g : Int) - 1 = (h : Int) := by have := HT.out.1; omega
          have hgh : h < g := by have := HT.out.1; omega
          have hih : (h : Int) < g := by omega
          obtain ⟨x, hx⟩ : ∃ x : Nat, ∀ hh : h < t.size, (t[h]'hh).toNat = x := ⟨(t[h]'(by omega)).toNat, fun _ => rfl⟩
          have HX : Hid (∀ S : List Nat, t = sb S → (∀ d ∈ S, isD d) → S.length = h + 1 ∧ S.getD h 0 = x) := by
            intro S h1 h3
            subst h1
            have h4 := hx (by omega)
            rw [sb_at (dig_lt h3)] at h4
            rw [sb_size] at hg
            exact ⟨by rw [hg]; exact HT.out.1, h4⟩
          have HEX : Hid (∀ S : List Nat, t = sb S → t.extract 0 h = sb (S.take h)) := fun S h1 => by rw [h1, sb_take]
          by_cases h5 : j < 5
          · by_cases h48 : x = 48
            · subst h48
              have HNX : Hid (∃ S : List Nat, t.extract 0 h = sb S ∧ (∀ d ∈ S, isD d) ∧ S.length = h ∧ trimZ 5 (txt m 6) = trimZ (5 - (j + 1)) S) := by
                obtain ⟨_, _, S, h1, h3, h4⟩ := HT.out
                obtain ⟨h6, h7⟩ := HX.out S h1 h3
                refine ⟨S.take h, HEX.out S h1, fun d hd => h3 d (List.mem_of_mem_take hd), by rw [List.length_take]; omega, ?_⟩
                rw [h4, show 5 - j = 5 - (j + 1) + 1 from by omega, trimZ_yes h6 h7]
              go_wp2_with fail
              go_round
              case rel =>
                obtain ⟨S, h1, h3, h4, h6⟩ := HNX.out
                have h7 := HT.out.2.1
                exact ⟨j + 1, h, h - 1, t.extract 0 h, by omega, by omega, by rw [h1, sb_size, h4], rfl, by go_num, ⟨by omega, by omega, S, h1, h3, h6⟩⟩
              case measure => simp [intOf]; omega
            · have u48 : ((x : Int) == 48) = false := by simp; omega
              have HEND : Hid (((ByteArray.mk #[] ++ s2) ++ ByteArray.mk #[46]) ++ t = sb (realTxt (q : Nat))) := by
                obtain ⟨_, _, S, h1, h3, h4⟩ := HT.out
                obtain ⟨h6, h7⟩ := HX.out S h1 h3
                exact HFIN.out t S h1 (by rw [h4]; exact trimZ_no h6 (by rw [h7]; exact h48))
              clear h48
              go_wp2_with (go_at_call 27; refine (HTR.out _).mono ?_; rintro e w' ⟨rfl, rfl⟩)
              go_ret2
              exact PrTo.of HP.out HEND.out HC2.out
          · have HEND : Hid (((ByteArray.mk #[] ++ s2) ++ ByteArray.mk #[46]) ++ t = sb (realTxt (q : Nat))) := by
              obtain ⟨_, _, S, h1, h3, h4⟩ := HT.out
              exact HFIN.out t S h1 (by rw [h4, show 5 - j = 0 from by omega]; rfl)
            have d5 : decide ((j : Int) < 5) = false := by simp; omega
            have d5' : decide (j < 5) = false := by simp; omega
            go_wp2_with (go_at_call 27; refine (HTR.out _).mono ?_; rintro e w' ⟨rfl, rfl⟩)
            go_ret2
            exact PrTo.of HP.out HEND.out HC2.out
  · have HP : Hid (prOf k n s.size len = ([], 2)) := if_neg hc
    obtain ⟨z, hz⟩ : ∃ z, z = chkOf k n s.size len := ⟨_, rfl⟩
    rw [← hz] at HK hc
    obtain ⟨sz, hsz⟩ : ∃ sz, sz = s.size := ⟨_, rfl⟩
    rw [← hsz] at HP ⊢
    have v1 : (z == 0) = false := by simpa using hc
    have v2 : (z != 0) = true := by simpa using hc
    clear hz hsz hc
    go_enter Tryd.func14, Tryd.ntmps14
    go_wp2_with (go_at_call 18; refine (HK.out _).mono ?_; rintro e w2 ⟨rfl, hc2⟩; have HC2 := keepf (HA.out.trans hc2 (fun _ _ e => e)); clear hc2)
    go_ret2
    exact PrTo.of HP.out rfl HC2.out
end Go.Proofs.YtnkfbjddlbdnfaaDoor
