/- The program's digits with zeros ahead (padded), digits without the zeros behind (shortest), and Pad. -/
import Derived.Test.YtnkfbjddlbdnfaaDoorNLib
import Derived.Test.YtnkfbjddlbdnfaaDoorRPrt
import Derived.Test.YtnkfbjddlbdnfaaDoorShelf
import Derived.WalkMore
import Derived.Deep.RegionHeld3
namespace Go.Proofs.YtnkfbjddlbdnfaaDoor
open Go.RowKit
set_option linter.unusedVariables false
set_option linter.unusedSimpArgs false

theorem itoa_any (n : Nat) (hn : n ≤ 9223372036854775807) (w : World) (h : LibOk w) :
    Calls Tryd.prog 24 #[.int .i64 (n : Nat)] w fun e w' => e = .returned (.string (sb (txt n 1))) ∧ Chg NoS w w' :=
  (Go.Proofs.Tryd.strconv_Itoa (n : Int) (by omega) (by omega) w h.tab).mono fun e w' hh => by
    obtain ⟨he, k, os, rfl⟩ := hh
    refine ⟨?_, chg_grow k os⟩
    rw [he, itoa_pos _ (by omega)]
    rfl
theorem rep_any (c : Nat) (hc : c ≤ 1000) (w : World) :
    Calls Tryd.prog 34 #[.string ⟨#[48]⟩, .int .i64 (c : Nat)] w fun e w' => e = .returned (.string (sb (List.replicate c 48))) ∧ Chg NoS w w' :=
  (Go.Proofs.Tryd.strings_Repeat ⟨#[48]⟩ c w (by omega) (by show 1 * c ≤ _; omega)).mono fun e w' hh => by
    obtain ⟨he, hb⟩ := hh
    refine ⟨?_, Chg.of_below hb⟩
    rw [he]
    show Ending.returned (Value.string ⟨(Lib.repeatL [48] c).toArray⟩) = _
    rw [rep_sb]
theorem txt_pad (n d : Nat) (h : 1 ≤ d) : List.replicate (d - (txt n 1).length) 48 ++ txt n 1 = txt n d := by
  by_cases h0 : n = 0
  · subst h0
    rw [txt, txt, dn_0]
    simp only [List.length_nil, Nat.sub_zero, List.append_nil, List.length_replicate, List.replicate_append_replicate]
    rw [show d - 1 + (1 - 0) = d from by omega]
  · have h1 := dn_more (n := n) (k := 0) (by simp; omega)
    rw [txt, txt, show 1 - (dn n).length = 0 from by omega]
    rfl

set_option maxHeartbeats 1000000 in
theorem padded_any (n d : Nat) (hn : n ≤ 9223372036854775807) (hd : 1 ≤ d ∧ d ≤ 20) (w : World) (hL : LibOk w) :
    Calls Tryd.prog 26 #[.int .i64 (n : Nat), .int .i64 (d : Nat)] w fun e w' => e = .returned (.string (sb (txt n d))) ∧ Chg NoS w w' := by
  obtain ⟨L, hLn⟩ : ∃ L, (txt n 1).length = L := ⟨_, rfl⟩
  have hL20 : L ≤ 100 := by
    have h1 : (dn n).length ≤ 19 := dn_len (by omega)
    rw [← hLn, txt_len]
    omega
  obtain ⟨t, ht⟩ : ∃ t, sb (txt n 1) = t := ⟨_, rfl⟩
  have hts : t.size = L := by rw [← ht, sb_size, hLn]
  obtain ⟨c, hc⟩ : ∃ c : Nat, d - L = c := ⟨_, rfl⟩
  have e1 : max (0 : Int) ((d : Int) - (L : Int)) = (c : Int) := by omega
  obtain ⟨r, hr⟩ : ∃ r, sb (List.replicate c 48) = r := ⟨_, rfl⟩
  have hrs : r.size = c := by rw [← hr, sb_size, List.length_replicate]
  have HI := keepf (itoa_any n hn w hL)
  have HR := keepf (fun W => rep_any c (by omega) W)
  rw [ht] at HI
  rw [hr] at HR
  have HE : Hid (r ++ t = sb (txt n d)) := by
    show _ = _
    rw [← hr, ← ht, sb_app, ← hc, ← hLn, txt_pad n d hd.1]
  have hc20 : c ≤ 20 := by omega
  clear hL hLn ht hr
  have HCD := keepf hc
  clear hc
  go_enter Tryd.func26, Tryd.ntmps26
  go_wp2_with first | (go_at_call 24; refine HI.out.mono ?_; rintro e w2 ⟨rfl, hc2⟩; have HC2 := keepf hc2; clear hc2) | (go_at_call 34; refine (HR.out _).mono ?_; rintro e w3 ⟨rfl, hc3⟩; have HC3 := keepf (HC2.out.trans hc3 (fun _ _ h => h)); clear hc3)
  go_ret
  rw [← HE.out]
  exact ⟨rfl, HC3.out⟩

set_option maxHeartbeats 1000000 in
theorem pad_any (n d : Int) (w : World) (h0 : -9223372036854775808 ≤ n ∧ n ≤ 9223372036854775807) (h1 : -9223372036854775808 ≤ d ∧ d ≤ 9223372036854775807) (hL : LibOk w) :
    Calls Tryd.prog 15 #[.int .i64 n, .int .i64 d] w fun e w' => e = .returned (.tuple #[.string (sb (padOf n d).1), .int .i64 (padOf n d).2]) ∧ Chg NoS w w' := by
  by_cases c1 : n < 0
  · have HB : Hid (padOf n d = ([], 2)) := pad_bad (.inl c1)
    have d1 : decide (n < 0) = true := by simpa using c1
    clear c1 h0 h1
    go_enter Tryd.func15, Tryd.ntmps15
    go_wp2_with fail
    go_ret2
    rw [HB.out]
    exact ⟨rfl, Chg.refl _ _⟩
  · have d1 : decide (n < 0) = false := by simpa using c1
    by_cases c2 : d < 1
    · have HB : Hid (padOf n d = ([], 2)) := pad_bad (.inr (.inl c2))
      have d2 : decide (d < 1) = true := by simpa using c2
      clear c1 c2 h0 h1
      go_enter Tryd.func15, Tryd.ntmps15
      go_wp2_with fail
      go_ret2
      rw [HB.out]
      exact ⟨rfl, Chg.refl _ _⟩
    · have d2 : decide (d < 1) = false := by simpa using c2
      by_cases c3 : 20 < d
      · have HB : Hid (padOf n d = ([], 2)) := pad_bad (.inr (.inr (.inl c3)))
        have d3 : decide (20 < d) = true := by simpa using c3
        clear c1 c2 c3 h0 h1
        go_enter Tryd.func15, Tryd.ntmps15
        go_wp2_with fail
        go_ret2
        rw [HB.out]
        exact ⟨rfl, Chg.refl _ _⟩
      · obtain ⟨m, rfl⟩ : ∃ m : Nat, n = m := ⟨n.toNat, by omega⟩
        obtain ⟨k, rfl⟩ : ∃ k : Nat, d = k := ⟨d.toNat, by omega⟩
        have d3 : decide ((20 : Int) < k) = false := by simpa using c3
        have d3' : decide (20 < k) = false := by simp; omega
        have d2' : decide (k < 1) = false := by simp; omega
        have HP := keepf (padded_any m k (by omega) ⟨by omega, by omega⟩ w hL)
        obtain ⟨t, ht⟩ : ∃ t, sb (txt m k) = t := ⟨_, rfl⟩
        obtain ⟨L, hLn⟩ : ∃ L, (txt m k).length = L := ⟨_, rfl⟩
        have hts : t.size = L := by rw [← ht, sb_size, hLn]
        rw [ht] at HP
        have hL100 : L ≤ 100 := by
          have h1 : (dn m).length ≤ 19 := dn_len (by omega)
          rw [← hLn, txt_len]
          omega
        by_cases c4 : k < L
        · have HB : Hid (padOf (m : Int) (k : Int) = ([], 2)) := pad_bad (.inr (.inr (.inr (by simp; omega))))
          have d4 : decide ((k : Int) < L) = true := by simp; omega
          have d4' : decide (k < L) = true := by simp; omega
          clear c1 c2 c3 c4 h0 h1 hL ht hLn
          go_enter Tryd.func15, Tryd.ntmps15
          go_wp2_with (go_at_call 26; refine HP.out.mono ?_; rintro e w2 ⟨rfl, hc2⟩; have HC2 := keepf hc2; clear hc2)
          go_ret2
          rw [HB.out]
          exact ⟨rfl, HC2.out⟩
        · have HB : Hid (padOf (m : Int) (k : Int) = (txt m k, 0)) := by
            show _ = _
            unfold padOf
            rw [if_neg (by rintro (h | h | h | h) <;> first | omega | (simp at h; omega))]
            rfl
          have HT := keepf ht
          have d4 : decide ((k : Int) < L) = false := by simp; omega
          have d4' : decide (k < L) = false := by simp; omega
          clear c1 c2 c3 c4 h0 h1 hL ht hLn
          go_enter Tryd.func15, Tryd.ntmps15
          go_wp2_with (go_at_call 26; refine HP.out.mono ?_; rintro e w2 ⟨rfl, hc2⟩; have HC2 := keepf hc2; clear hc2)
          go_ret2
          rw [HB.out]
          exact ⟨by rw [show (txt m k, (0 : Int)).1 = txt m k from rfl, HT.out]; rfl, HC2.out⟩

/-- The zeros at the end are gone. -/
def trimR (l : List Nat) : List Nat := (l.reverse.dropWhile (· == 48)).reverse
theorem trimR_snoc (m : List Nat) (x : Nat) : trimR (m ++ [x]) = if x = 48 then trimR m else m ++ [x] := by
  unfold trimR
  rw [List.reverse_append, List.reverse_singleton, List.singleton_append, List.dropWhile_cons]
  by_cases h : x = 48
  · rw [if_pos h, if_pos (by simp [h])]
  · rw [if_neg h, if_neg (by simp [h]), List.reverse_cons, List.reverse_reverse]
theorem trimZ_R (c : Nat) : ∀ (k : Nat) (m : List Nat), m.length = k → trimZ k (c :: m) = c :: trimR m := by
  intro k
  induction k with
  | zero => intro m h; rw [List.eq_nil_of_length_eq_zero h]; rfl
  | succ k ih =>
    intro m h
    rcases List.eq_nil_or_concat m with rfl | ⟨m', x, rfl⟩
    · simp at h
    · rw [List.concat_eq_append] at h ⊢
      rw [List.length_append, List.length_singleton] at h
      rw [trimZ, trimR_snoc, ← List.cons_append, List.getLast?_append, List.getLast?_singleton, List.dropLast_concat, ih m' (by omega)]
      by_cases hx : x = 48
      · rw [if_pos (by rw [hx]; rfl), if_pos hx]
      · rw [if_neg (by simpa using hx), if_neg hx, List.cons_append]
theorem drop_while_map (l : List UInt8) : (l.dropWhile (· == 48)).map UInt8.toNat = (l.map UInt8.toNat).dropWhile (· == 48) := by
  induction l with
  | nil => rfl
  | cons x l ih =>
    rw [List.dropWhile_cons, List.map_cons, List.dropWhile_cons]
    by_cases h : x = 48
    · subst h
      rw [if_pos (by rfl), if_pos (by rfl), ih]
    · have h2 : ¬ x.toNat = 48 := fun h2 => h (UInt8.toNat_inj.1 h2)
      rw [if_neg (by simpa using h), if_neg (by simpa using h2), List.map_cons]
theorem trimB_R (l : List UInt8) : (Lib.trimRightB l 48).map UInt8.toNat = trimR (l.map UInt8.toNat) := by
  unfold Lib.trimRightB trimR
  rw [List.map_reverse, drop_while_map, List.map_reverse]
theorem tright_any (l : List Nat) (hb : ∀ d ∈ l, d < 256) (hl : l.length ≤ 1000) (w : World) :
    Calls Tryd.prog 33 #[.string (sb l), .string ⟨#[48]⟩] w fun e w' => e = .returned (.string (sb (trimR l))) ∧ w = w' :=
  (Go.Proofs.Tryd.strings_TrimRight_one (sb l) 48 (by decide) w (by rw [sb_size]; omega)).mono fun e w' hh => by
    obtain ⟨he, hw⟩ := hh
    refine ⟨?_, hw.symm⟩
    rw [he, mk_sb, trimB_R]
    show Ending.returned (Value.string (sb (trimR (sl (sb l))))) = _
    rw [sl_sb l hb]

theorem drop_len (l : List Nat) (p : Nat → Bool) : (l.dropWhile p).length ≤ l.length := by
  induction l with
  | nil => exact Nat.le_refl _
  | cons x l ih =>
    rw [List.dropWhile_cons]
    split
    · rw [List.length_cons]; omega
    · exact Nat.le_refl _
theorem trimR_len (l : List Nat) : (trimR l).length ≤ l.length := by
  unfold trimR
  rw [List.length_reverse]
  exact Nat.le_trans (drop_len _ _) (by rw [List.length_reverse]; exact Nat.le_refl _)

set_option maxHeartbeats 1000000 in
theorem shortest_any (c : Nat) (m : List Nat) (hb : ∀ d ∈ c :: m, d < 256) (hm : m.length = 5) (w : World) :
    Calls Tryd.prog 25 #[.string (sb (c :: m))] w fun e w' => e = .returned (.string (sb (trimZ 5 (c :: m)))) ∧ Chg NoS w w' := by
  have HR := keepf (fun W => tright_any m (fun d hd => hb d (List.mem_cons_of_mem _ hd)) (by omega) W)
  obtain ⟨s, hs⟩ : ∃ s, sb (c :: m) = s := ⟨_, rfl⟩
  obtain ⟨a, ha⟩ : ∃ a, sb [c] = a := ⟨_, rfl⟩
  obtain ⟨b, hb2⟩ : ∃ b, sb m = b := ⟨_, rfl⟩
  obtain ⟨t, ht⟩ : ∃ t, sb (trimR m) = t := ⟨_, rfl⟩
  have hz : s.size = 6 := by rw [← hs, sb_size, List.length_cons, hm]
  obtain ⟨y, hy1, hy9⟩ : ∃ y, a.size = y ∧ y ≤ 5 := ⟨1, by rw [← ha, sb_size]; rfl, by omega⟩
  obtain ⟨z, hz5⟩ : ∃ z, (trimR m).length = z := ⟨_, rfl⟩
  have hts : t.size = z := by rw [← ht, sb_size, hz5]
  have hz9 : z ≤ 5 := by
    have h := trimR_len m
    omega
  have ex1 : s.extract 0 1 = a := by rw [← hs, sb_take, ← ha]; rfl
  have ex2 : s.extract 1 6 = b := by
    rw [← hs, ← hb2]
    unfold sb
    apply ByteArray.ext
    rw [ByteArray.data_extract]
    have e : (m.map UInt8.ofNat).length = 5 := by rw [List.length_map, hm]
    simp
    exact List.take_of_length_le (by omega)
  have HE : Hid (a ++ t = sb (trimZ 5 (c :: m))) := by
    show _ = _
    rw [← ha, ← ht, sb_app, trimZ_R c 5 m hm]
    rfl
  rw [hb2, ht] at HR
  rw [hs]
  have i1 : ¬ 9223372036854775807 < y + z := by omega
  have i2 : y + z ≤ 9223372036854775807 := by omega
  clear hs ha hb2 ht hb hm hz5
  go_enter Tryd.func25, Tryd.ntmps25
  go_upto_region 1 with fail
  go_region_held3 (fun _ => True) (trivial) ((go_at_call 33; refine (HR.out _).mono ?_; rintro e w2 ⟨rfl, rfl⟩))
  go_wp2_with fail
  go_ret
  rw [← HE.out]
  exact ⟨rfl, (Chg.refl _ _).drew⟩
end Go.Proofs.YtnkfbjddlbdnfaaDoor
