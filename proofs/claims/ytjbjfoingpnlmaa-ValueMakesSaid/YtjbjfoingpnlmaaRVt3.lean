/- The document's own check of a value. -/
import Derived.Test.YtjbjfoingpnlmaaRVt1
import Derived.Test.YtjbjfoingpnlmaaRChk
import Derived.Sort.Walk0
import Derived.Laws.Cover1
namespace Go.Proofs.Ytjbjfoingpnlmaa
open Go.RowKit
set_option linter.unusedVariables false
set_option linter.unusedSimpArgs false

def VT.kind : VT → Int | .mk k _ _ _ => k
def VT.num : VT → Int | .mk _ n _ _ => n
def VT.str : VT → ByteArray | .mk _ _ s _ => s
def VT.row : VT → List VT | .mk _ _ _ l => l
theorem RowIs.drop_ {w : World} {A : Option Addr} : ∀ (j : Nat) {i : Nat} {l : List VT}, RowIs w A i l → j ≤ l.length → RowIs w A (i + j) (l.drop j) := by
  intro j
  induction j with
  | zero => intro i l h _; exact h
  | succ j ih =>
    intro i l h hj
    match l, hj with
    | t :: l, hj =>
      obtain ⟨ad, e, _, _, _, hr⟩ := h.inv
      have h2 := ih hr (by simpa using hj)
      rw [show i + (j + 1) = i + 1 + j from by omega, List.drop_succ_cons]
      exact h2
/-- An element's cells, in the words of its tree. -/
theorem RowIs.nth {w w' : World} {b off j : Nat} {l : List VT} {t : VT} (h : RowIs w (some ⟨b, off, none⟩) 0 l) (hc : Chg NoS w w') (ht : l[j]? = some t) : ∃ (eA : Option Addr) (el ec : Nat),
    w'.cell? ⟨b, off + j * 4, none⟩ = some (.int .i64 t.kind) ∧ w'.cell? ⟨b, off + j * 4 + 1, none⟩ = some (.int .i64 t.num) ∧ w'.cell? ⟨b, off + j * 4 + 2, none⟩ = some (.string t.str) ∧ w'.cell? ⟨b, off + j * 4 + 3, none⟩ = some (.slice eA el ec) ∧ ValIs w' t ⟨t.kind, t.num, t.str, eA, el, ec⟩ := by
  have hj : j < l.length := (List.getElem?_eq_some_iff.1 ht).1
  have h2 := h.drop_ j (by omega)
  obtain ⟨t', ht', hd⟩ := drop_vt hj
  obtain rfl : t = t' := by rw [ht] at ht'; exact Option.some.inj ht'
  rw [hd, Nat.zero_add] at h2
  obtain ⟨ek, en, es, eA, el, ec, c0, c1, c2, c3, hv, _⟩ := h2.at_ hc
  obtain ⟨k, n, s, l'⟩ := t
  obtain ⟨e1, e2, e3, _⟩ := hv.inv
  simp only [] at e1 e2 e3
  subst e1 e2 e3
  exact ⟨eA, el, ec, c0, c1, c2, c3, hv⟩

theorem less_leq (a b : List UInt8) : (Op.bytesLess a b || a == b) = !(Op.bytesLess b a) := by
  rw [Go.Proofs.bytesLess_eq, Go.Proofs.bytesLess_eq]
  by_cases h : a < b
  · simp [h, List.lt_asymm h]
  · by_cases e : a = b
    · subst e; simp [List.lt_irrefl]
    · have h2 : b < a := by
        rcases Classical.em (b < a) with h3 | h3
        · exact h3
        · exact absurd (List.le_antisymm (List.not_lt.1 h3) (List.not_lt.1 h)) e
      simp [h, e, h2]

/-- A text that may be a name's. -/
def textO (s : ByteArray) : Prop := (∀ d ∈ sl s, d ≠ 0) ∧ s.size ≤ 127
instance (s : ByteArray) : Decidable (textO s) := inferInstanceAs (Decidable (_ ∧ _))

set_option maxHeartbeats 1000000 in
theorem rtext11_any (s : ByteArray) (w : World) (hl : s.size ≤ maxLen) :
    Calls Try.prog 25 #[.string s] w fun e w' => e = .returned (.bool (decide (textO s))) ∧ w = w' := by
  unfold maxLen at hl
  obtain ⟨n, hn⟩ : ∃ n, s.size = n := ⟨_, rfl⟩
  have HLN : Hid ((sl s).length = n) := by show _ = _; rw [sl_len, hn]
  have HAT := keepf (fun k (h : k < n) => (fun h2 => sl_at s k h2 : ∀ h2 : k < s.size, (s[k]'h2).toNat = (sl s).getD k 0))
  have HGT := keepf (fun k (h : k < n) => sl_get (s := s) (k := k) (by rw [hn]; exact h))
  have HSZ := keepf hn
  rw [hn] at hl
  go_enter Try.func25, Try.ntmps25
  go_wp2_with fail
  go_loop [3] (fun vk => ∃ k : Nat, k ≤ n ∧ vk = .int .i64 (k : Nat) ∧ Hid (∀ d ∈ (sl s).take k, d ≠ 0)) (fun vk => n - (intOf vk).toNat)
  case atStart => exact ⟨0, Nat.zero_le _, by go_num, fun d hd => by simp at hd⟩
  case round =>
    obtain ⟨k, hk, rfl, HD⟩ := hrel
    by_cases hlt : k < n
    · obtain ⟨x, hx⟩ : ∃ x, (sl s).getD k 0 = x := ⟨_, rfl⟩
      have hxa := HAT.out k hlt
      have HG := HGT.out k hlt
      rw [hx] at hxa HG
      have HGX := keepf HG
      clear hx HG
      have i0 : (k : Int) < n := by omega
      by_cases h0 : x = 0
      · subst h0
        have HB : Hid (decide (textO s) = false) := by
          show _ = _
          rw [decide_eq_false_iff_not]
          exact fun h => h.1 0 (List.mem_of_getElem? HGX.out) rfl
        go_wp2_with fail
        go_ret
        rw [HB.out]
        exact ⟨rfl, rfl⟩
      · have d0 : ((x : Int) == 0) = false := by simpa using h0
        have d0' : (x == 0) = false := by simpa using h0
        have HX0 := keepf h0
        clear h0
        go_wp2_with fail
        go_round
        case rel =>
          refine ⟨k + 1, by omega, by go_num, ?_⟩
          show ∀ d ∈ (sl s).take (k + 1), d ≠ 0
          rw [take_snoc HGX.out]
          intro d hd
          rcases List.mem_append.1 hd with h | h
          · exact HD.out d h
          · rw [List.mem_singleton] at h
            subst h
            exact HX0.out
        case measure => simp [intOf]; omega
    · obtain rfl : n = k := by omega
      have HALL : Hid (∀ d ∈ sl s, d ≠ 0) := by
        have h := HD.out
        rwa [List.take_of_length_le (by rw [HLN.out]; exact Nat.le_refl _)] at h
      by_cases h127 : n ≤ 127
      · have d1 : decide ((n : Int) ≤ 127) = true := by simp; omega
        have d1' : decide (n ≤ 127) = true := by simp; omega
        have HB : Hid (decide (textO s) = true) := by
          show _ = _
          rw [decide_eq_true_iff]
          exact ⟨HALL.out, by rw [HSZ.out]; exact h127⟩
        go_wp2_with fail
        go_ret
        rw [HB.out]
        exact ⟨rfl, rfl⟩
      · have d1 : decide ((n : Int) ≤ 127) = false := by simp; omega
        have d1' : decide (n ≤ 127) = false := by simp; omega
        have HB : Hid (decide (textO s) = false) := by
          show _ = _
          rw [decide_eq_false_iff_not]
          exact fun h => h127 (by rw [← HSZ.out]; exact h.2)
        go_wp2_with fail
        go_ret
        rw [HB.out]
        exact ⟨rfl, rfl⟩

/-- A dictionary's names stand in names' places, and rise. -/
def namesO (l : List VT) : Prop := ∀ j t, l[2 * j]? = some t → t.kind = 5
def riseO (l : List VT) : Prop := ∀ j t u, l[2 * j]? = some t → l[2 * j + 2]? = some u → Op.bytesLess t.str.toList u.str.toList = true
open Classical in
/-- A dictionary by itself. -/
noncomputable def dictO (n : Int) (sz : Nat) (l : List VT) : Int := if n ≠ 0 ∨ sz ≠ 0 ∨ l.length % 2 ≠ 0 ∨ ¬ namesO l then 2 else if riseO l then 0 else 16
theorem dict_arg {n : Int} {sz : Nat} {l : List VT} (h : n ≠ 0 ∨ sz ≠ 0 ∨ l.length % 2 ≠ 0 ∨ ¬ namesO l) : dictO n sz l = 2 := if_pos h
theorem dict_key {l : List VT} (h1 : l.length % 2 = 0) (h2 : namesO l) (h3 : ¬ riseO l) : dictO 0 0 l = 16 := by
  unfold dictO
  rw [if_neg (by rintro (h | h | h | h); exact h rfl; exact h rfl; exact h h1; exact h h2), if_neg h3]
theorem dict_ok {l : List VT} (h1 : l.length % 2 = 0) (h2 : namesO l) (h3 : riseO l) : dictO 0 0 l = 0 := by
  unfold dictO
  rw [if_neg (by rintro (h | h | h | h); exact h rfl; exact h rfl; exact h h1; exact h h2), if_pos h3]
theorem str_em11 {s : ByteArray} (h : s.size ≠ 0) : s.toList.isEmpty = false := by
  have h := str_ne h
  cases hl : s.toList with
  | nil => exact absurd hl h
  | cons x l => rfl

set_option maxHeartbeats 4000000 in
set_option maxRecDepth 100000 in
theorem rdict_any (c : VC) (l : List VT) (w : World) (hv : ValIs w (.mk c.k c.n c.s l) c) :
    Calls Try.prog 65 #[c.val] w fun e w' => e = .returned (.int .i64 (dictO c.n c.s.size l)) ∧ Chg NoS w w' := by
  obtain ⟨_, _, _, hg, hl, hr⟩ := hv.inv
  obtain ⟨k, n, s, A, len, cap⟩ := c
  simp only [] at hl hr
  have hcap := hg.cap
  have hlm := hg.len
  simp only [] at hcap hlm
  unfold maxLen at hlm
  unfold VC.val
  simp only []
  have HB := keepf (Blk.new w 24 #[.int .i64 k, .int .i64 n, .string s, .slice A len cap])
  have HC0 := keepf ((Chg.refl NoS w).alloc (.cells #[.int .i64 k, .int .i64 n, .string s, .slice A len cap] 24))
  obtain ⟨W0, hW⟩ : ∃ W0, W0 = w.alloc (.cells #[.int .i64 k, .int .i64 n, .string s, .slice A len cap] 24) := ⟨_, rfl⟩
  obtain ⟨g, hgg⟩ : ∃ g, g = w.heap.size := ⟨_, rfl⟩
  rw [← hW] at HB HC0
  rw [← hgg] at HB
  have p1 := HB.out.cell 1
  have p2 := HB.out.cell 2
  have p3 := HB.out.cell 3
  simp at p1 p2 p3
  clear hv hg
  by_cases hn : n = 0
  · subst hn
    by_cases hs : s.size = 0
    · obtain rfl := str_nil hs
      obtain ⟨r, hr2⟩ : ∃ r : Nat, len % 2 = r := ⟨_, rfl⟩
      have t1 : (len : Int).tmod 2 = (r : Int) := by rw [Int.tmod_eq_emod_of_nonneg (by omega)]; omega
      have t2 : (len : Int) % 2 = (r : Int) := by omega
      by_cases h2 : r = 0
      · subst h2
        have HEV := keepf (show l.length % 2 = 0 from by rw [hl]; exact hr2)
        have HL := keepf hl
        have HR := keepf hr
        have HLE := keepf hr2
        clear hr2 hl hr hs
        go_enter Try.func65, Try.ntmps65
        go_upto_region 1 with fail
        rw [← hgg, ← hW]
        clear hgg hW
        go_upto_region 4 with fail
        go_loop [3] (fun vk => ∃ j : Nat, 2 * j ≤ len ∧ vk = .int .i64 ((2 * j : Nat) : Int) ∧ Hid (∀ i t, i < j → l[2 * i]? = some t → t.kind = 5)) (fun vk => len - (intOf vk).toNat)
        case atStart => exact ⟨0, by omega, by go_num, fun i t hi => absurd hi (Nat.not_lt_zero i)⟩
        case round =>
          obtain ⟨j, hj, rfl, HN⟩ := hrel
          obtain ⟨q, hq⟩ : ∃ q, q = 2 * j := ⟨_, rfl⟩
          rw [← hq] at hj ⊢
          have HQ := keepf hq
          clear hq
          by_cases h1 : q < len
          · obtain ⟨t, ht, _⟩ := drop_vt (l := l) (k := q) (by rw [HL.out]; exact h1)
            obtain ⟨b, off, rfl⟩ : ∃ b off, A = some ⟨b, off, none⟩ := by
              have h := HR.out
              cases hll : l with
              | nil => rw [hll] at ht; simp at ht
              | cons t0 l0 => rw [hll] at h; exact h.start
            obtain ⟨eA, el, ec, c0, _, _, _, _⟩ := HR.out.nth HC0.out ht
            have i1 : (q : Int) < len := by omega
            obtain ⟨tk, htk⟩ : ∃ tk, t.kind = tk := ⟨_, rfl⟩
            rw [htk] at c0
            have HT := keepf ht
            have HTK := keepf htk
            clear ht htk
            by_cases h5 : tk = 5
            · subst h5
              go_wp2_with fail
              go_round
              case rel =>
                refine ⟨j + 1, by have := HQ.out; have := HLE.out; omega, by have := HQ.out; first | (go_num; done) | (go_num; omega), fun i t' hi hit => ?_⟩
                rcases Nat.lt_or_ge i j with h | h
                · exact HN.out i t' h hit
                · obtain rfl : i = j := by omega
                  rw [← HQ.out, HT.out] at hit
                  cases hit
                  exact HTK.out
              case measure => simp [intOf]; omega
            · have e5 : (tk == 5) = false := by simpa using h5
              have e5' : (tk != 5) = true := by simpa using h5
              have HE := keepf (dict_arg (n := 0) (sz := 0) (l := l) (.inr (.inr (.inr (fun h => h5 (by rw [← HTK.out]; exact h j t (by rw [← HQ.out]; exact HT.out)))))))
              clear h5
              go_wp2_with fail
              go_ret
              exact ⟨ret_v64 HE.out.symm, HC0.out⟩
          · have HNM : Hid (namesO l) := fun i t hit => HN.out i t (by
              have h := (List.getElem?_eq_some_iff.1 hit).1
              rw [HL.out] at h
              have := HQ.out
              omega) hit
            go_upto_region 9 with fail
            go_loopw [4] (fun vk wr => ∃ j : Nat, 2 * j ≤ len ∧ vk = .int .i64 ((2 * j + 2 : Nat) : Int) ∧ Hid (Chg NoS W0 wr) ∧ Hid (∀ i t u, i < j → l[2 * i]? = some t → l[2 * i + 2]? = some u → Op.bytesLess t.str.toList u.str.toList = true)) (fun vk _ => len + 2 - (intOf vk).toNat)
            case atStart => exact ⟨0, by omega, by go_num, Chg.refl _ _, fun i t u hi => absurd hi (Nat.not_lt_zero i)⟩
            case round =>
              obtain ⟨m, hm, rfl, HCW, HM⟩ := hrel
              have HBW := keepf (HB.out.chg HCW.out (fun e => e))
              have HCR := keepf (HC0.out.trans HCW.out (fun _ _ e => e))
              clear p1 p2 p3
              have q3 := HBW.out.cell 3
              simp at q3
              obtain ⟨p, hp⟩ : ∃ p, p = 2 * m := ⟨_, rfl⟩
              obtain ⟨z, hz⟩ : ∃ z, z = 2 * m + 2 := ⟨_, rfl⟩
              rw [← hz]
              rw [← hp] at hm
              have ez : (z : Int) - 2 = (p : Int) := by omega
              have hzp : z ≤ len + 2 := by omega
              have HPP := keepf hp
              have HZZ := keepf hz
              clear hp hz
              by_cases h3 : z < len
              · have hp3 : p < len := by omega
                obtain ⟨t, ht, _⟩ := drop_vt (l := l) (k := p) (by rw [HL.out]; exact hp3)
                obtain ⟨u, hu, _⟩ := drop_vt (l := l) (k := z) (by rw [HL.out]; exact h3)
                obtain ⟨b, off, rfl⟩ : ∃ b off, A = some ⟨b, off, none⟩ := by
                  have h := HR.out
                  cases hll : l with
                  | nil => rw [hll] at ht; simp at ht
                  | cons t0 l0 => rw [hll] at h; exact h.start
                obtain ⟨eA, el, ec, _, _, c2, _, _⟩ := HR.out.nth HCR.out ht
                obtain ⟨eA', el', ec', _, _, c2', _, _⟩ := HR.out.nth HCR.out hu
                have k1 : IntKind.i64.wrap (p : Int) = (p : Int) := by rw [IntKind.wrap_i64]; omega
                have k2 : IntKind.i64.wrap ((z : Int) - 2) = (p : Int) := by rw [ez, k1]
                have i1 : (z : Int) < len := by omega
                have i2 : (p : Int) < len := by omega
                have i3 : (0 : Int) ≤ (z : Int) - 2 := by omega
                have i4 : (z : Int) - 2 < len := by omega
                obtain ⟨ts, hts⟩ : ∃ ts, t.str = ts := ⟨_, rfl⟩
                obtain ⟨us, hus⟩ : ∃ us, u.str = us := ⟨_, rfl⟩
                rw [hts] at c2
                rw [hus] at c2'
                have HT := keepf ht
                have HU := keepf hu
                have HTS := keepf hts
                have HUS := keepf hus
                clear ht hu hts hus
                go_upto_region 11 with fail
                by_cases hb : Op.bytesLess ts.toList us.toList = true
                · have HBL := keepf hb
                  have f1 : (Op.bytesLess us.toList ts.toList || us.toList == ts.toList) = false := by rw [less_leq, hb]; rfl
                  clear hb
                  go_quiet (fail)
                  go_wp2_with fail
                  go_roundw
                  case rel =>
                    refine ⟨m + 1, by have := HPP.out; have := HZZ.out; have := HLE.out; omega, by have := HZZ.out; first | (go_num; done) | (go_num; omega), HCW.out.drewN nq, fun i t' u' hi hit hiu => ?_⟩
                    rcases Nat.lt_or_ge i m with h | h
                    · exact HM.out i t' u' h hit hiu
                    · obtain rfl : i = m := by omega
                      rw [← HPP.out, HT.out] at hit
                      rw [← HZZ.out, HU.out] at hiu
                      cases hit
                      cases hiu
                      rw [HTS.out, HUS.out]
                      exact HBL.out
                  case measure => simp [intOf]; omega
                · have hb2 : Op.bytesLess ts.toList us.toList = false := by simpa using hb
                  have HE := keepf (dict_key HEV.out HNM.out (fun h => hb (by rw [← HTS.out, ← HUS.out]; exact h m t u (by rw [← HPP.out]; exact HT.out) (by rw [← HZZ.out]; exact HU.out))))
                  have f1 : (Op.bytesLess us.toList ts.toList || us.toList == ts.toList) = true := by rw [less_leq, hb2]; rfl
                  clear hb hb2
                  go_quiet (fail)
                  go_wp2_with fail
                  go_ret
                  exact ⟨ret_v64 HE.out.symm, HCR.out.drewN nq⟩
              · have HRI : Hid (riseO l) := fun i t u hit hiu => HM.out i t u (by
                  have h := (List.getElem?_eq_some_iff.1 hiu).1
                  rw [HL.out] at h
                  have := HZZ.out
                  omega) hit hiu
                have HE := keepf (dict_ok HEV.out HNM.out HRI.out)
                go_wp2_with fail
                go_ret
                exact ⟨ret_v64 HE.out.symm, HCR.out⟩
      · have e2 : ((r : Int) == 0) = false := by simpa using h2
        have e2' : ((r : Int) != 0) = true := by simpa using h2
        have HE := keepf (dict_arg (n := 0) (sz := (ByteArray.mk #[]).size) (l := l) (.inr (.inr (.inl (by rw [hl, hr2]; exact h2)))))
        clear h2 hr2 hl hr hs
        go_enter Try.func65, Try.ntmps65
        go_upto_region 1 with fail
        rw [← hgg, ← hW]
        clear hgg hW
        go_wp2_with fail
        go_ret
        exact ⟨ret_v64 HE.out.symm, HC0.out⟩
    · have u1 := str_ne hs
      have HE := keepf (dict_arg (n := 0) (sz := s.size) (l := l) (.inr (.inl hs)))
      clear hs hl hr
      go_enter Try.func65, Try.ntmps65
      go_upto_region 1 with fail
      rw [← hgg, ← hW]
      clear hgg hW
      go_wp2_with fail
      go_ret
      exact ⟨ret_v64 HE.out.symm, HC0.out⟩
  · have e1 : (n == 0) = false := by simpa using hn
    have e1' : (n != 0) = true := by simpa using hn
    have HE := keepf (dict_arg (n := n) (sz := s.size) (l := l) (.inl hn))
    clear hn hl hr
    go_enter Try.func65, Try.ntmps65
    go_upto_region 1 with fail
    rw [← hgg, ← hW]
    clear hgg hW
    go_wp2_with fail
    go_ret
    exact ⟨ret_v64 HE.out.symm, HC0.out⟩
end Go.Proofs.Ytjbjfoingpnlmaa
