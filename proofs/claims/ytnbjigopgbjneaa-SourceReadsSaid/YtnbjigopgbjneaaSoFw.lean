/- The walk of SourceFar. -/
import Derived.Test.YtnbjigopgbjneaaSoWw
namespace Go.Proofs.Ytnbjigopgbjneaa
open Go.RowKit
set_option linter.unusedVariables false
set_option linter.unusedSimpArgs false

theorem rnew_no {n : Int} (h : n < 0 ∨ 2147483647 < n) : rnewO n = 5 := by simp [rnewO, h]

theorem rnew_ok (n : Nat) (h : n ≤ 2147483647) : rnewO n = 0 := by simp [rnewO]; omega

set_option maxHeartbeats 4000000 in
set_option maxRecDepth 100000 in
theorem far_none (A : Option Addr) (len cap : Nat) (n p : Int) (w : World) (hn : n < 0 ∨ 2147483647 < n) :
    Calls Try.prog 5 #[.int .i64 n, .int .i64 p, .slice A len cap] w (OnlyTo w (.bool true)) := by
  have HN := keepf (new_no n w hn)
  have HR := keepf (rnew16 n w)
  rw [rnew_no hn] at HR
  have HW := keepf (works16 w)
  clear hn
  go_enter Try.func5, Try.ntmps5
  go_wp2_with (first
    | (go_at_call 7; refine HN.out.mono ?_; rintro e w1 ⟨rfl, rfl⟩)
    | (go_at_call 8; refine HR.out.mono ?_; rintro e w1 ⟨rfl, rfl⟩)
    | (go_at_call 9; refine HW.out.mono ?_; rintro e w1 ⟨rfl, hc1⟩; have HC1 := keepf hc1; clear hc1))
  go_ret
  exact ⟨rfl, HC1.out⟩

set_option maxHeartbeats 4000000 in
set_option maxRecDepth 100000 in
theorem far_great (A : Option Addr) (len cap n : Nat) (p : Int) (w : World) (hn : n ≤ 2147483647) (hlen : 10000 < len) :
    Calls Try.prog 5 #[.int .i64 (n : Nat), .int .i64 p, .slice A len cap] w (OnlyTo w (.bool true)) := by
  have HN := keepf (new_ok n w hn)
  have HR := keepf (fun V => rnew16 (n : Int) V)
  rw [rnew_ok n hn] at HR
  have HW := keepf (fun V => works16 V)
  clear hn
  go_enter Try.func5, Try.ntmps5
  go_wp2_with (first
    | (go_at_call 7; refine HN.out.mono ?_; rintro e w1 ⟨g, S, rfl, hS1, hc1, hn1⟩; have HC1 := keepf hc1; clear hS1 hc1 hn1)
    | (go_at_call 8; refine (HR.out w1).mono ?_; rintro e w2 ⟨rfl, rfl⟩)
    | (go_at_call 9; refine (HW.out w1).mono ?_; rintro e w2 ⟨rfl, hc2⟩; have HC2 := keepf hc2; clear hc2))
  go_ret
  exact ⟨rfl, HC1.out.then_ HC2.out⟩

set_option maxHeartbeats 4000000 in
set_option maxRecDepth 100000 in
theorem far_arg (A : Option Addr) (len cap n : Nat) (p : Int) (w : World) (hn : n ≤ 2147483647) (hlen : len ≤ 10000) (hp : hasP n p = false) :
    Calls Try.prog 5 #[.int .i64 (n : Nat), .int .i64 p, .slice A len cap] w (OnlyTo w (.bool true)) := by
  have HN := keepf (new_ok n w hn)
  have HR := keepf (fun V => rnew16 (n : Int) V)
  rw [rnew_ok n hn] at HR
  have HW := keepf (fun V => works16 V)
  have HRP := keepf (fun V => rput16 (n : Int) p (len : Int) V ⟨by omega, by omega⟩)
  rw [show rputO (n : Int) p (len : Int) = 2 by
    simp [hasP] at hp
    unfold rputO
    rw [if_pos]
    omega] at HRP
  have HP := keepf hp
  clear hn hp
  go_enter Try.func5, Try.ntmps5
  go_upto_region 6 with (first
    | (go_at_call 7; refine HN.out.mono ?_; rintro e w1 ⟨g, S, rfl, hS1, hc1, hn1⟩; have HS1 := keepf hS1; have HC1 := keepf hc1; clear hS1 hc1 hn1)
    | (go_at_call 8; refine (HR.out w1).mono ?_; rintro e w2 ⟨rfl, rfl⟩))
  have HPu := keepf (put_arg HS1.out p A len cap HP.out)
  have HRd := keepf (read_no HS1.out p (len : Int) (.inl HP.out))
  have HKn := keepf (known_so HS1.out (by simp))
  go_wp2_with (first
    | (go_at_call 11; refine HPu.out.mono ?_; rintro e w2 ⟨rfl, rfl⟩)
    | (go_at_call 10; refine (HRP.out w1).mono ?_; rintro e w2 ⟨rfl, rfl⟩)
    | (go_at_call 12; refine HRd.out.mono ?_; rintro e w2 ⟨rfl, rfl⟩)
    | (go_at_call 17; refine HKn.out.mono ?_; rintro e w2 ⟨A2, c2, rfl, ho2, hc2, hn2⟩; have HC2 := keepf hc2; clear ho2 hc2 hn2)
    | (go_at_call 9; refine (HW.out w2).mono ?_; rintro e w3 ⟨rfl, hc3⟩; have HC3 := keepf hc3; clear hc3))
  go_ret
  exact ⟨rfl, (HC1.out.then_ HC2.out).then_ HC3.out⟩

set_option maxHeartbeats 4000000 in
set_option maxRecDepth 100000 in
theorem far_rng (A : Option Addr) (len cap n p : Nat) (w : World) (hn : n ≤ 2147483647) (hlen : len ≤ 10000) (hp : p ≤ n) (hl : n < p + len) :
    Calls Try.prog 5 #[.int .i64 (n : Nat), .int .i64 (p : Nat), .slice A len cap] w (OnlyTo w (.bool true)) := by
  have HN := keepf (new_ok n w hn)
  have HR := keepf (fun V => rnew16 (n : Int) V)
  rw [rnew_ok n hn] at HR
  have HW := keepf (fun V => works16 V)
  have HRP := keepf (fun V => rput16 (n : Int) (p : Int) (len : Int) V ⟨by omega, by omega⟩)
  rw [show rputO (n : Int) (p : Int) (len : Int) = 5 by
    unfold rputO
    rw [if_neg (by omega), if_pos (by omega)]] at HRP
  have hk0 : readN n [] p (len : Int) = 0 := by
    have := upto_spec Form.nil (max (p : Int) 0)
    have e : uptoL [] (max (p : Int) 0) = max (p : Int) 0 := rfl
    unfold readN firstP
    rw [e]
    omega
  have HK0 := keepf hk0
  have HP := keepf hp
  have HLN := keepf hl
  have HNN := keepf hn
  clear hn hp hl hk0
  go_enter Try.func5, Try.ntmps5
  go_upto_region 6 with (first
    | (go_at_call 7; refine HN.out.mono ?_; rintro e w1 ⟨g, S, rfl, hS1, hc1, hn1⟩; have HS1 := keepf hS1; have HC1 := keepf hc1; clear hS1 hc1 hn1)
    | (go_at_call 8; refine (HR.out w1).mono ?_; rintro e w2 ⟨rfl, rfl⟩))
  have HPu := keepf (put_rng HS1.out p A len cap HNN.out HP.out HLN.out)
  have hrd := read_ok HS1.out p len HNN.out HP.out
  rw [HK0.out] at hrd
  have HRd := keepf hrd
  have HKn := keepf (fun (V : World) (hV : Chg NoS w1 V) => known_so (HS1.out.no hV) (by simp))
  clear hrd
  go_wp2_with (first
    | (go_at_call 11; refine HPu.out.mono ?_; rintro e w2 ⟨rfl, rfl⟩)
    | (go_at_call 10; refine (HRP.out w1).mono ?_; rintro e w2 ⟨rfl, rfl⟩)
    | (go_at_call 12; refine HRd.out.mono ?_; rintro e w2 ⟨gr, rfl, ho2, hc2, hn2⟩; have HC2 := keepf hc2; clear ho2 hc2 hn2)
    | (go_at_call 17; refine (HKn.out w2 HC2.out).mono ?_; rintro e w3 ⟨A2, c2, rfl, ho3, hc3, hn3⟩; have HC3 := keepf hc3; clear ho3 hc3 hn3)
    | (go_at_call 9; refine (HW.out w3).mono ?_; rintro e w4 ⟨rfl, hc4⟩; have HC4 := keepf hc4; clear hc4))
  go_ret
  exact ⟨rfl, ((HC1.out.then_ HC2.out).then_ HC3.out).then_ HC4.out⟩

theorem one_num (p l : Nat) (q : Nat) : Num (putF ((p : Int), ((p + l : Nat) : Int)) []) (q : Int) ↔ p ≤ q ∧ q < p + l := by
  rw [putF_num Form.nil]
  constructor
  · rintro (h | ⟨_, h1, h⟩)
    · exact absurd h (num_nil _)
    · simp only at h h1; omega
  · intro h
    exact .inr ⟨by simp [emptyB]; omega, by simp only; omega, by simp only; omega⟩

theorem one_first (n p l : Nat) (hn : n ≤ 2147483647) (hl : p + l ≤ n) : firstP n (putF ((p : Int), ((p + l : Nat) : Int)) []) (p : Int) = ((p + l : Nat) : Int) := by
  have hF : Form (putF ((p : Int), ((p + l : Nat) : Int)) []) := putF_form Form.nil (by simp only; omega)
  have h := upto_spec hF (p : Int)
  have e : max (p : Int) 0 = (p : Int) := by omega
  unfold firstP
  rw [e]
  obtain ⟨q, hq⟩ : ∃ q : Nat, uptoL (putF ((p : Int), ((p + l : Nat) : Int)) []) (p : Int) = (q : Int) := ⟨(uptoL (putF ((p : Int), ((p + l : Nat) : Int)) []) (p : Int)).toNat, by omega⟩
  rw [hq] at h ⊢
  have h3 : ¬ (p ≤ q ∧ q < p + l) := fun h4 => h.2.2 ((one_num p l q).2 h4)
  have h5 : q ≤ p + l := by
    rcases Nat.lt_or_ge (p + l) q with h6 | h6
    · have := (one_num p l (p + l)).1 (h.2.1 _ (by omega) (by omega))
      omega
    · exact h6
  omega

set_option maxHeartbeats 4000000 in
set_option maxRecDepth 100000 in
theorem far_ok (A : Option Addr) (len cap n p : Nat) (bs : List Nat) (w : World) (hS : Src w 1 A len cap (lcells bs)) (hl : bs.length = len) (hcap : len ≤ cap) (hn : n ≤ 2147483647) (hlen : len ≤ 10000) (hp : p + len ≤ n) :
    Calls Try.prog 5 #[.int .i64 (n : Nat), .int .i64 (p : Nat), .slice A len cap] w (OnlyTo w (.bool true)) := by
  have HN := keepf (new_ok n w hn)
  have HR := keepf (fun V => rnew16 (n : Int) V)
  rw [rnew_ok n hn] at HR
  have HW := keepf (fun V => works16 V)
  have HRP := keepf (fun V => rput16 (n : Int) (p : Int) (len : Int) V ⟨by omega, by omega⟩)
  rw [show rputO (n : Int) (p : Int) (len : Int) = 0 by
    unfold rputO
    rw [if_neg (by omega), if_neg (by omega)]] at HRP
  have hf1 := one_first n p len hn hp
  have hk0 : readN n (putF ((p : Int), ((p + len : Nat) : Int)) []) p (len : Int) = len := by
    unfold readN
    rw [hf1]
    omega
  have hsub : IntKind.i64.wrap ((n : Int) - (p : Int)) = (n : Int) - (p : Int) := by rw [IntKind.wrap_i64]; omega
  have hBb : ((len : Int) == (n : Int) - (p : Int)) = decide (p + len = n) := by
    rw [Bool.eq_iff_iff]; simp; omega
  have HF1 := keepf hf1
  have HK0 := keepf hk0
  have HP := keepf hp
  have HNN := keepf hn
  have HSrc := keepf hS
  have HL := keepf hl
  have hnb : (n : Int) ≤ 2147483647 := by omega
  have hpb : p ≤ 2147483647 := by omega
  clear hn hp hk0 hf1 hS hl
  go_enter Try.func5, Try.ntmps5
  go_upto_region 6 with (first
    | (go_at_call 7; refine HN.out.mono ?_; rintro e w1 ⟨g, S, rfl, hS1, hc1, hn1⟩; have HS1 := keepf hS1; have HC1 := keepf hc1; have HN1 := keepf hn1; clear hS1 hc1 hn1)
    | (go_at_call 8; refine (HR.out w1).mono ?_; rintro e w2 ⟨rfl, rfl⟩))
  have HPu := keepf (put_so HS1.out p A len cap bs HNN.out (src_no HSrc.out HC1.out) HL.out hcap HP.out (by omega) (by omega) (by simp) (fun h0 ad e hi => by
    have := src_low HSrc.out HL.out h0 ad e
    have := HN1.out _ hi
    omega))
  go_upto_region 9 with (first
    | (go_at_call 11; refine HPu.out.mono ?_; rintro e w2 ⟨S2, c2, rfl, h1, h2, h3, h4, h5, h6⟩; have H1 := keepf h1; have H3 := keepf h3; have H6 := keepf h6; clear h1 h2 h3 h4 h5 h6)
    | (go_at_call 10; refine (HRP.out w2).mono ?_; rintro e w3 ⟨rfl, rfl⟩))
  have hb1 := H1.out
  rw [HL.out] at hb1
  have hrd := read_ok hb1 p len HNN.out (by have := HP.out; omega)
  rw [HK0.out] at hrd
  have hbytes : rngB c2 p len = bs := by
    apply List.ext_getElem?
    intro i
    have hll := HL.out
    by_cases hi : i < len
    · rw [rngB_get _ _ _ _ hi, H3.out (p + i) (by omega) (by omega) (num_nil _), List.getD_eq_getElem?_getD, show p + i - p = i from by omega, List.getElem?_eq_getElem (by omega)]
      rfl
    · rw [List.getElem?_eq_none (by rw [rngB_len]; omega), List.getElem?_eq_none (by omega)]
  have HRd := keepf hrd
  have HB := keepf hbytes
  have HFi := keepf (fun (V : World) (hV : Chg NoS w2 V) => first_so (hb1.no hV) (p : Int) HNN.out)
  rw [HF1.out] at HFi
  have hc2 : Chg NoS w w2 := HC1.out.trans H6.out (fun i h1 h2 => by have := HN1.out i h2; omega)
  have HC2 := keepf hc2
  clear hrd hbytes hb1 hc2
  go_upto_region 12 with (go_at_call 12; refine HRd.out.mono ?_; rintro e w3 ⟨gr, rfl, ho3, hc3, hn3⟩; have HO3 := keepf (src_own ho3); have HC3 := keepf hc3; clear ho3 hc3 hn3)
  have hr3 := HO3.out
  rw [HB.out] at hr3
  have hcv1 := conv_l hr3
  have hcv2 := conv_l (src_no HSrc.out (HC2.out.then_ HC3.out))
  obtain ⟨X, hX⟩ : ∃ X, X = sb bs := ⟨_, rfl⟩
  rw [← hX] at hcv1 hcv2
  clear hr3 hX
  go_wp2_with (first
    | (go_at_call 14; refine (HFi.out w3 HC3.out).mono ?_; rintro e w4 ⟨rfl, hc4⟩; have HC4 := keepf hc4; clear hc4)
    | (go_at_call 9; refine (HW.out w4).mono ?_; rintro e w5 ⟨rfl, hc5⟩; have HC5 := keepf hc5; clear hc5))
  go_ret
  exact ⟨rfl, ((HC2.out.then_ HC3.out).then_ HC4.out).then_ HC5.out⟩

end Go.Proofs.Ytnbjigopgbjneaa
