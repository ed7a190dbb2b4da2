/- The program's check of a dictionary's names; and strings.Contains at the byte 0. -/
import Derived.Test.YtjbjfoingpnlmaaVDep
import Derived.Test.YtjbjfoingpnlmaaShelf
namespace Go.Proofs.Ytjbjfoingpnlmaa
open Go.RowKit
set_option linter.unusedVariables false
set_option linter.unusedSimpArgs false

/-- What has been found of the names before the pair j. -/
def nmR (l : List VT) (j : Nat) (r : Int) : Prop := (∀ i t, i < j → l[2 * i]? = some t → t.kind = 5) ∧ ((r = 0 ∧ ∀ i t u, i + 1 < j → l[2 * i]? = some t → l[2 * i + 2]? = some u → Op.bytesLess t.str.toList u.str.toList = true) ∨ (r = 16 ∧ ¬ riseO l))
theorem nmR_zero (l : List VT) : nmR l 0 0 := ⟨fun i t h => absurd h (Nat.not_lt_zero i), .inl ⟨rfl, fun i t u h => absurd h (by omega)⟩⟩
theorem nmR_kind {l : List VT} {j q : Nat} {t : VT} {r : Int} (hn : nmR l j r) (hq : q = 2 * j) (ht : l[q]? = some t) (h5 : t.kind = 5) : ∀ i u, i < j + 1 → l[2 * i]? = some u → u.kind = 5 := by
  intro i u hi hu
  rcases Nat.lt_or_ge i j with h | h
  · exact hn.1 i u h hu
  · obtain rfl : i = j := by omega
    rw [← hq, ht] at hu
    cases hu
    exact h5
theorem nmR_one {l : List VT} {t : VT} {r : Int} (hn : nmR l 0 r) (ht : l[0]? = some t) (h5 : t.kind = 5) : nmR l 1 r := by
  refine ⟨nmR_kind hn (q := 0) rfl ht h5, ?_⟩
  rcases hn.2 with ⟨rfl, h⟩ | h
  · exact .inl ⟨rfl, fun i t u h => absurd h (by omega)⟩
  · exact .inr h
theorem nmR_up {l : List VT} {j p q : Nat} {t u : VT} {r : Int} (hn : nmR l (j + 1) r) (hp : p = 2 * j) (hq : q = 2 * (j + 1)) (ht : l[p]? = some t) (hu : l[q]? = some u) (h5 : u.kind = 5) (hl : Op.bytesLess t.str.toList u.str.toList = true) : nmR l (j + 1 + 1) r := by
  refine ⟨nmR_kind hn hq hu h5, ?_⟩
  rcases hn.2 with ⟨rfl, h⟩ | h
  · refine .inl ⟨rfl, fun i t' u' hi hit hiu => ?_⟩
    rcases Nat.lt_or_ge (i + 1) (j + 1) with h2 | h2
    · exact h i t' u' h2 hit hiu
    · obtain rfl : i = j := by omega
      rw [← hp, ht] at hit
      rw [show 2 * i + 2 = q by omega, hu] at hiu
      cases hit
      cases hiu
      exact hl
  · exact .inr h
theorem nmR_no {l : List VT} {j p q : Nat} {t u : VT} {r : Int} (hn : nmR l (j + 1) r) (hp : p = 2 * j) (hq : q = 2 * (j + 1)) (ht : l[p]? = some t) (hu : l[q]? = some u) (h5 : u.kind = 5) (hl : Op.bytesLess t.str.toList u.str.toList = false) : nmR l (j + 1 + 1) 16 := by
  refine ⟨nmR_kind hn hq hu h5, .inr ⟨rfl, fun h => ?_⟩⟩
  have h2 := h j t u (by rw [← hp]; exact ht) (by rw [show 2 * j + 2 = q by omega]; exact hu)
  rw [hl] at h2
  cases h2
theorem nmR_end {l : List VT} {j : Nat} {r : Int} (hn : nmR l j r) (he : l.length % 2 = 0) (hj : l.length ≤ 2 * j) : dictO 0 0 l = r := by
  have h1 : namesO l := fun i t hit => hn.1 i t (by have h := (List.getElem?_eq_some_iff.1 hit).1; omega) hit
  rcases hn.2 with ⟨rfl, h⟩ | ⟨rfl, h⟩
  · exact dict_ok he h1 (fun i t u hit hiu => h i t u (by have h := (List.getElem?_eq_some_iff.1 hiu).1; omega) hit hiu)
  · exact dict_key he h1 h

set_option maxHeartbeats 4000000 in
set_option maxRecDepth 100000 in
theorem names_any (l : List VT) (A : Option Addr) (len cap : Nat) (w0 w : World) (hl : l.length = len) (hr : RowIs w0 A 0 l) (hlm : len ≤ maxLen) (hc : Chg NoS w0 w) :
    Calls Try.prog 54 #[.slice A len cap] w fun e w' => e = .returned (.int .i64 (dictO 0 0 l)) ∧ Chg NoS w w' := by
  unfold maxLen at hlm
  obtain ⟨r, hr2⟩ : ∃ r : Nat, len % 2 = r := ⟨_, rfl⟩
  have t1 : (len : Int).tmod 2 = (r : Int) := by rw [Int.tmod_eq_emod_of_nonneg (by omega)]; omega
  have t2 : (len : Int) % 2 = (r : Int) := by omega
  have HC := keepf hc
  clear hc
  by_cases h2 : r = 0
  · subst h2
    have HEV := keepf (show l.length % 2 = 0 from by rw [hl]; exact hr2)
    have HL := keepf hl
    have HR := keepf hr
    have HLE := keepf hr2
    clear hr2 hl hr
    go_enter Try.func54, Try.ntmps54
    go_upto_region 5 with fail
    go_loopw [3, 4] (fun ve va wr => ∃ (j : Nat) (r : Int), 2 * j ≤ len ∧ ve = .int .i64 r ∧ va = .int .i64 ((2 * j : Nat) : Int) ∧ Hid (Chg NoS w wr) ∧ Hid (nmR l j r)) (fun _ va _ => len - (intOf va).toNat)
    case atStart => exact ⟨0, 0, by omega, rfl, by go_num, Chg.refl _ _, nmR_zero l⟩
    case round =>
      obtain ⟨j, r, hj, rfl, rfl, HCW, HN⟩ := hrel
      obtain ⟨q, hq⟩ : ∃ q, q = 2 * j := ⟨_, rfl⟩
      rw [← hq] at hj ⊢
      have HQ := keepf hq
      clear hq
      have HCR := keepf (HC.out.trans HCW.out (fun _ _ e => e))
      by_cases h1 : q < len
      · obtain ⟨u, hu, _⟩ := drop_vt (l := l) (k := q) (by rw [HL.out]; exact h1)
        obtain ⟨b, off, rfl⟩ : ∃ b off, A = some ⟨b, off, none⟩ := by
          have h := HR.out
          cases hll : l with
          | nil => rw [hll] at hu; simp at hu
          | cons t0 l0 => rw [hll] at h; exact h.start
        obtain ⟨eA, el, ec, c0, _, c2, _, _⟩ := HR.out.nth HCR.out hu
        have i1 : (q : Int) < len := by omega
        obtain ⟨uk, huk⟩ : ∃ uk, u.kind = uk := ⟨_, rfl⟩
        obtain ⟨us, hus⟩ : ∃ us, u.str = us := ⟨_, rfl⟩
        rw [huk] at c0
        rw [hus] at c2
        have HU := keepf hu
        have HUK := keepf huk
        have HUS := keepf hus
        clear hu huk hus
        by_cases h5 : uk = 5
        · subst h5
          cases j with
          | zero =>
            obtain rfl : q = 0 := HQ.out
            simp only [Nat.zero_mul, Nat.add_zero] at c0 c2
            have HNN := keepf (nmR_one HN.out HU.out HUK.out)
            have d0 : decide ((0 : Int) < 0) = false := by decide
            go_upto_region 9 with fail
            go_quiet (fail)
            go_wp2_with fail
            go_roundw
            case rel => exact ⟨1, r, by have := HLE.out; omega, rfl, by go_num, HCW.out.drewN nq, HNN.out⟩
            case measure => simp [intOf]; omega
          | succ m =>
            obtain ⟨p, hp⟩ : ∃ p, p = 2 * m := ⟨_, rfl⟩
            have hqp : (q : Int) - 2 = (p : Int) := by have := HQ.out; omega
            have hp3 : p < len := by have := HQ.out; omega
            have HPP := keepf hp
            clear hp
            obtain ⟨t, ht, _⟩ := drop_vt (l := l) (k := p) (by rw [HL.out]; exact hp3)
            obtain ⟨eA', el', ec', _, _, c2', _, _⟩ := HR.out.nth HCR.out ht
            have k1 : IntKind.i64.wrap (p : Int) = (p : Int) := by rw [IntKind.wrap_i64]; omega
            have k2 : IntKind.i64.wrap ((q : Int) - 2) = (p : Int) := by rw [hqp, k1]
            have i2 : (p : Int) < len := by omega
            have i3 : (0 : Int) ≤ (q : Int) - 2 := by omega
            have i4 : (q : Int) - 2 < len := by omega
            have d0 : decide ((0 : Int) < (q : Int)) = true := by simp; omega
            have d0' : decide (0 < q) = true := by simp; omega
            obtain ⟨ts, hts⟩ : ∃ ts, t.str = ts := ⟨_, rfl⟩
            rw [hts] at c2'
            have HT := keepf ht
            have HTS := keepf hts
            clear ht hts
            by_cases hb : Op.bytesLess ts.toList us.toList = true
            · have HNN := keepf (nmR_up HN.out HPP.out HQ.out HT.out HU.out HUK.out (by rw [HTS.out, HUS.out]; exact hb))
              go_upto_region 9 with fail
              go_quiet (fail)
              go_wp2_with fail
              go_roundw
              case rel => exact ⟨m + 1 + 1, r, by have := HLE.out; have := HQ.out; omega, rfl, by have := HQ.out; first | (go_num; done) | (go_num; omega), HCW.out.drewN nq, HNN.out⟩
              case measure => simp [intOf]; omega
            · have hb2 : Op.bytesLess ts.toList us.toList = false := by simpa using hb
              have HNN := keepf (nmR_no HN.out HPP.out HQ.out HT.out HU.out HUK.out (by rw [HTS.out, HUS.out]; exact hb2))
              clear hb
              go_upto_region 9 with fail
              go_quiet (fail)
              go_wp2_with fail
              go_roundw
              case rel => exact ⟨m + 1 + 1, 16, by have := HLE.out; have := HQ.out; omega, rfl, by have := HQ.out; first | (go_num; done) | (go_num; omega), HCW.out.drewN nq, HNN.out⟩
              case measure => simp [intOf]; omega
        · have e5 : (uk == 5) = false := by simpa using h5
          have e5' : (uk != 5) = true := by simpa using h5
          have HE := keepf (dict_arg (n := 0) (sz := 0) (l := l) (.inr (.inr (.inr (fun h => h5 (by rw [← HUK.out]; exact h j u (by rw [← HQ.out]; exact HU.out)))))))
          clear h5
          go_wp2_with fail
          go_ret
          exact ⟨ret_v64 HE.out.symm, HCW.out⟩
      · have HE := keepf (nmR_end HN.out HEV.out (by rw [HL.out]; have := HQ.out; omega))
        have d1 : decide ((q : Int) < len) = false := by simp; omega
        have d1' : decide (q < len) = false := by simp; omega
        go_wp2_with fail
        go_ret
        exact ⟨ret_v64 HE.out.symm, HCW.out⟩
  · have e2 : ((r : Int) == 0) = false := by simpa using h2
    have e2' : ((r : Int) != 0) = true := by simpa using h2
    have HE := keepf (dict_arg (n := 0) (sz := 0) (l := l) (.inr (.inr (.inl (by rw [hl, hr2]; exact h2)))))
    clear h2 hr2 hl hr
    go_enter Try.func54, Try.ntmps54
    go_wp2_with fail
    go_ret
    exact ⟨ret_v64 HE.out.symm, Chg.refl _ _⟩

theorem has0_iff (s : ByteArray) : (∀ d ∈ sl s, d ≠ 0) ↔ Lib.indexByte s.data.toList 0 = -1 := by
  have e1 : sl s = s.data.toList.map UInt8.toNat := rfl
  constructor
  · intro h
    have hge := Lib.indexByte_ge s.data.toList 0
    by_cases h2 : Lib.indexByte s.data.toList 0 = -1
    · exact h2
    · obtain ⟨o, ho⟩ : ∃ o : Nat, Lib.indexByte s.data.toList 0 = o := ⟨(Lib.indexByte s.data.toList 0).toNat, by omega⟩
      have h3 := (Lib.indexByte_some ho).1
      have h4 := List.mem_of_getElem? h3
      exact absurd rfl (h 0 (by rw [e1]; exact List.mem_map.2 ⟨0, h4, rfl⟩))
  · intro h d hd
    rw [e1] at hd
    obtain ⟨x, hx, rfl⟩ := List.mem_map.1 hd
    obtain ⟨k, hk⟩ := List.getElem?_of_mem hx
    intro h0
    have h3 : x = 0 := UInt8.toNat_inj.1 h0
    subst h3
    exact Lib.indexByte_none h k hk
theorem cont0_any (s : ByteArray) (w : World) : Calls Try.prog 53 #[.string s, .string ⟨#[0]⟩] w fun e w' => e = .returned (.bool (decide (¬ ∀ d ∈ sl s, d ≠ 0))) ∧ w' = w := by
  have HI := keepf (fun W => Go.Proofs.Try.stringslite_Index_one s 0 W)
  have hge := Lib.indexByte_ge s.data.toList 0
  obtain ⟨z, hz⟩ : ∃ z, Lib.indexByte s.data.toList 0 = z := ⟨_, rfl⟩
  have hd : decide (¬ ∀ d ∈ sl s, d ≠ 0) = decide (0 ≤ z) := by
    apply decide_eq_decide.2
    rw [has0_iff, hz]
    rw [hz] at hge
    omega
  rw [hz] at HI
  rw [hd]
  clear hz hge hd
  have HS : Hid (∀ W, Calls Try.prog 63 #[.string s, .string ⟨#[0]⟩] W fun e w' => e = .returned (.int .i64 z) ∧ w' = W) := by
    show ∀ W, _
    intro W
    go_enter Try.func63, Try.ntmps63
    go_wp2_with (go_at_call 69; refine (HI.out _).mono ?_; rintro e w2 ⟨rfl, rfl⟩)
    go_ret
    exact ⟨rfl, rfl⟩
  go_enter Try.func53, Try.ntmps53
  go_wp2_with (go_at_call 63; refine (HS.out _).mono ?_; rintro e w2 ⟨rfl, rfl⟩)
  go_ret
  exact ⟨rfl, rfl⟩
end Go.Proofs.Ytjbjfoingpnlmaa
