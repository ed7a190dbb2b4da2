/- The walk of SourceWhole. -/
import Derived.Test.YtnbjigopgbjneaaSoWo
namespace Go.Proofs.Ytnbjigopgbjneaa
open Go.RowKit
set_option linter.unusedVariables false
set_option linter.unusedSimpArgs false

theorem src_low {w : World} {A : Option Addr} {len cap : Nat} {bs : List Nat} (hS : Src w 1 A len cap (lcells bs)) (hl : bs.length = len) : 0 < len → ∀ ad, A = some ad → ad.block < w.heap.size := fun h0 ad e => by
  have h1 := hS.2.2 ad e 0
  rcases hx : (lcells bs)[0]? with _ | u
  · rw [List.getElem?_eq_none_iff, lcells_len] at hx
    omega
  · have h6 := cell_lt (h1 u hx)
    have h8 : (ad.add 0).block = ad.block := by unfold Addr.add; split <;> rfl
    omega

theorem whole_num (n : Nat) (q : Nat) : Num (putF (0, (n : Int)) []) (q : Int) ↔ q < n := by
  rw [putF_num Form.nil]
  constructor
  · rintro (h | ⟨_, _, h⟩)
    · exact absurd h (num_nil _)
    · simp only at h; omega
  · intro h
    exact .inr ⟨by simp [emptyB]; omega, by simp only; omega, by simp only; omega⟩

theorem whole_first (n : Nat) (hn : n ≤ 2147483647) (p : Int) : firstP n (putF (0, (n : Int)) []) p = (n : Int) := by
  have hF : Form (putF (0, (n : Int)) []) := putF_form Form.nil (by simp only; omega)
  have h := upto_spec hF (max p 0)
  unfold firstP
  rcases Int.lt_or_le (uptoL (putF (0, (n : Int)) []) (max p 0)) (n : Int) with h1 | h1
  · exfalso
    obtain ⟨q, hq⟩ : ∃ q : Nat, uptoL (putF (0, (n : Int)) []) (max p 0) = (q : Int) := ⟨(uptoL (putF (0, (n : Int)) []) (max p 0)).toNat, by omega⟩
    rw [hq] at h h1
    exact h.2.2 ((whole_num n q).2 (by omega))
  · omega

theorem rng_take {c : Nat → Nat} {bs : List Nat} (h : ∀ q, q < bs.length → c q = bs.getD q 0) {p k : Nat} (hk : p + k ≤ bs.length) : rngB c p k = (bs.drop p).take k := by
  apply List.ext_getElem?
  intro i
  by_cases hi : i < k
  · rw [rngB_get _ _ _ _ hi, List.getElem?_take_of_lt hi, List.getElem?_drop, h _ (by omega), List.getD_eq_getElem?_getD, List.getElem?_eq_getElem (by omega)]
    rfl
  · rw [List.getElem?_eq_none (by rw [rngB_len]; omega), List.getElem?_eq_none (by simp; omega)]

set_option maxHeartbeats 4000000 in
set_option maxRecDepth 100000 in
theorem whole_great (A : Option Addr) (len cap : Nat) (p q : Int) (w : World) (hlen : 10000 < len) :
    Calls Try.prog 4 #[.slice A len cap, .int .i64 p, .int .i64 q] w (OnlyTo w (.bool true)) := by
  have HW := keepf (works16 w)
  go_enter Try.func4, Try.ntmps4
  go_wp2_with (go_at_call 9; refine HW.out.mono ?_; rintro e w1 ⟨rfl, hc1⟩; have HC1 := keepf hc1; clear hc1)
  go_ret
  exact ⟨rfl, HC1.out⟩

set_option maxHeartbeats 4000000 in
set_option maxRecDepth 100000 in
theorem whole_bad (A : Option Addr) (len cap : Nat) (bs : List Nat) (p q : Int) (w : World) (hS : Src w 1 A len cap (lcells bs)) (hl : bs.length = len) (hcap : len ≤ cap) (hlen : len ≤ 10000) (hp : hasP len p = false ∨ q < 0) :
    Calls Try.prog 4 #[.slice A len cap, .int .i64 p, .int .i64 q] w (OnlyTo w (.bool true)) := by
  have HWh := keepf (whole_any A len cap bs w hS hl hcap (by omega) (src_low hS hl))
  have hor : decide (p < 0) = true ∨ (decide (p < 0) = false ∧ decide ((len : Int) < p) = true) ∨ (decide (p < 0) = false ∧ decide ((len : Int) < p) = false ∧ decide (q < 0) = true) := by
    rcases hp with h | h
    · simp [hasP] at h
      by_cases h0 : p < 0
      · exact .inl (by simpa using h0)
      · exact .inr (.inl ⟨by simpa using h0, by simp; omega⟩)
    · by_cases h0 : p < 0
      · exact .inl (by simpa using h0)
      · by_cases h1 : (len : Int) < p
        · exact .inr (.inl ⟨by simpa using h0, by simpa using h1⟩)
        · exact .inr (.inr ⟨by simpa using h0, by simpa using h1, by simpa using h⟩)
  have HOr := keepf hor
  have HP := keepf hp
  have HL := keepf hl
  clear hS hl hor hp
  go_enter Try.func4, Try.ntmps4
  go_upto_region 4 with (go_at_call 21; refine HWh.out.mono ?_; rintro e w1 ⟨g, S, m, c, rfl, hS1, hv1, hc1, hn1, hm1⟩; have HS1 := keepf hS1; have HC1 := keepf hc1; clear hS1 hc1 hn1 hv1 hm1)
  have hll := HL.out
  have hS1 := HS1.out
  rw [hll] at hS1
  have HRd := keepf (read_no hS1 p q HP.out)
  have HTo := keepf (total_so hS1)
  have HFi := keepf (first_so hS1 p (by omega))
  rw [whole_first len (by omega) p] at HFi
  clear hll hS1
  go_upto_region 7 with (first
    | (go_at_call 12; refine HRd.out.mono ?_; rintro e w2 ⟨rfl, rfl⟩)
    | (go_at_call 20; refine HTo.out.mono ?_; rintro e w2 ⟨rfl, rfl⟩)
    | (go_at_call 14; refine HFi.out.mono ?_; rintro e w2 ⟨rfl, hc2⟩; have HC2 := keepf hc2; clear hc2))
  have HW := keepf (works16 w2)
  rcases HOr.out with h1 | ⟨h1, h2⟩ | ⟨h1, h2, h3⟩
  all_goals
    go_wp2_with (go_at_call 9; refine HW.out.mono ?_; rintro e w3 ⟨rfl, hc3⟩; have HC3 := keepf hc3; clear hc3)
    go_ret
    exact ⟨rfl, (HC1.out.then_ HC2.out).then_ HC3.out⟩

set_option maxHeartbeats 4000000 in
set_option maxRecDepth 100000 in
theorem whole_good (A : Option Addr) (len cap : Nat) (bs : List Nat) (p q : Nat) (w : World) (hS : Src w 1 A len cap (lcells bs)) (hl : bs.length = len) (hcap : len ≤ cap) (hlen : len ≤ 10000) (hp : p ≤ len) :
    Calls Try.prog 4 #[.slice A len cap, .int .i64 (p : Nat), .int .i64 (q : Nat)] w (OnlyTo w (.bool true)) := by
  have HWh := keepf (whole_any A len cap bs w hS hl hcap (by omega) (src_low hS hl))
  obtain ⟨k, hk⟩ : ∃ k, k = min q (len - p) := ⟨_, rfl⟩
  obtain ⟨r, hr⟩ : ∃ r, r = p + k := ⟨_, rfl⟩
  have HSrc := keepf hS
  have HK := keepf hk
  have HR := keepf hr
  have HL := keepf hl
  have hm1 : min (q : Int) ((len : Int) - (p : Int)) = (k : Int) := by omega
  have hsub : IntKind.i64.wrap ((len : Int) - (p : Int)) = (len : Int) - (p : Int) := by rw [IntKind.wrap_i64]; omega
  have hadd : IntKind.i64.wrap ((p : Int) + (k : Int)) = (r : Int) := by rw [IntKind.wrap_i64]; omega
  have hsl := fun W => midL A len cap p r (by omega) (by omega) W
  have d1 : decide ((p : Int) < 0) = false := by simp
  have d2 : decide ((len : Int) < (p : Int)) = false := by simp; omega
  have d3 : decide ((q : Int) < 0) = false := by simp
  clear hS hl hk hr
  go_enter Try.func4, Try.ntmps4
  go_upto_region 4 with (go_at_call 21; refine HWh.out.mono ?_; rintro e w1 ⟨g, S, m, c, rfl, hS1, hv1, hc1, hn1, hm1⟩; have HS1 := keepf hS1; have HV1 := keepf hv1; have HC1 := keepf hc1; clear hS1 hc1 hn1 hv1 hm1)
  have hll := HL.out
  have hS1 := HS1.out
  rw [hll] at hS1
  have hrd := read_ok hS1 p q (by omega) hp
  have hkk : readN len (putF (0, (len : Int)) []) p (q : Int) = k := by
    rw [readN, whole_first len (by omega)]
    have := HK.out
    omega
  rw [hkk] at hrd
  have HRd := keepf hrd
  have HTo := keepf (fun (V : World) (hV : Chg NoS w1 V) => total_so (hS1.no hV))
  have HFi := keepf (fun (V : World) (hV : Chg NoS w1 V) => first_so (hS1.no hV) (p : Int) (by omega))
  rw [whole_first len (by omega) p] at HFi
  have HB := keepf (rng_take HV1.out (p := p) (k := k) (by have := HK.out; omega))
  clear hll hS1 hrd hkk
  go_upto_region 10 with (first
    | (go_at_call 12; refine HRd.out.mono ?_; rintro e w2 ⟨gr, rfl, ho2, hc2, hn2⟩; have HO2 := keepf (src_own ho2); have HC2 := keepf hc2; clear ho2 hc2 hn2)
    | (go_at_call 20; refine (HTo.out w2 HC2.out).mono ?_; rintro e w3 ⟨rfl, rfl⟩)
    | (go_at_call 14; refine (HFi.out w2 HC2.out).mono ?_; rintro e w3 ⟨rfl, hc3⟩; have HC3 := keepf hc3; clear hc3))
  have hbs : bs.length = len := HL.out
  have hrr := HR.out
  have hkk := HK.out
  obtain ⟨xs, hxs⟩ : ∃ xs, xs = (bs.drop p).take k := ⟨_, rfl⟩
  have hr2 := HO2.out
  rw [HB.out, ← hxs] at hr2
  have hsc : Src w 1 (cutL A p cap) (r - p) (cap - p) (lcells xs) := by
    have := src_cutL (lo := p) (m := r - p) HSrc.out hcap (by omega)
    have e : (List.drop p (lcells bs)).take (r - p) = lcells xs := by rw [hxs]; simp [lcells]; congr 2; omega
    rw [e] at this
    exact this
  have hc3 : Chg NoS w w3 := (HC1.out.then_ HC2.out).then_ HC3.out
  have HCV := keepf (fun (V : World) (hV : Chg NoS w3 V) => (⟨conv_l (src_no (src_no hr2 HC3.out) hV), conv_l (src_no hsc (hc3.then_ hV))⟩ : (convert 30 9 (.slice (some ⟨gr, 0, none⟩) k k)).run Try.prog V = .ok (.string (sb xs)) V ∧ (convert 30 9 (.slice (cutL A p cap) (r - p) (cap - p))).run Try.prog V = .ok (.string (sb xs)) V))
  obtain ⟨X, hX⟩ : ∃ X, X = sb xs := ⟨_, rfl⟩
  rw [← hX] at HCV
  have hcv := HCV.out w3.drew (Chg.refl _ _).drew
  obtain ⟨hcv1, hcv2⟩ := hcv
  have hBb : ((k : Int) == (len : Int) - (p : Int)) = decide (p + k = len) := by
    rw [Bool.eq_iff_iff]; simp; omega
  have HW := keepf (works16 w3.drew)
  have HC := keepf hc3
  clear hbs hrr hkk hxs hr2 hsc hc3 hX
  first
    | (go_loud (go_region_held3 (fun w' => (convert 30 9 (.slice (some ⟨gr, 0, none⟩) k k)).run Try.prog w' = .ok (.string X) w' ∧ (convert 30 9 (.slice (cutL A p cap) (r - p) (cap - p))).run Try.prog w' = .ok (.string X) w')
        (first | (go_keep; done) | exact ⟨by assumption, by assumption⟩)
        ((go_at_call 9; refine HW.out.mono ?_; rintro e w4 ⟨rfl, hc4⟩; have hcv4 := HCV.out w4 ((Chg.refl NoS w3).drew.then_ hc4); obtain ⟨hcv41, hcv42⟩ := hcv4; have HC4 := keepf hc4; clear hc4))))
    | fail "region 10"
  go_wp2_with fail
  go_ret
  exact ⟨rfl, HC.out.drew.then_ HC4.out⟩

end Go.Proofs.Ytnbjigopgbjneaa
