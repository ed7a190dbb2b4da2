/- The document's own answer: the symbol with whose code bits begin. -/
import Derived.Test.YtkhhiaggmncehaaCodesR
import Derived.Test.YtkhhiaggmncehaaRef
namespace Go.Proofs.Ytkhhiaggmncehaa
open Go.RowKit
set_option linter.unusedVariables false
set_option linter.unusedSimpArgs false

/-- Is one of the first k lengths at least m? -/
def longer (ls : List Int) (k m : Nat) : Bool := (ls.take k).any (fun z => decide ((m : Int) ≤ z))
theorem longer_succ (ls : List Int) (k m : Nat) (z : Int) (h : ls[k]? = some z) : longer ls (k + 1) m = (longer ls k m || decide ((m : Int) ≤ z)) := by
  simp [longer, take_snoc ls k z h]
theorem longer_deep (ls : List Int) (hM : May ls) (m : Nat) (hm : m ≠ 0) : longer ls ls.length m = decide (m ≤ deepL ls) := by
  rw [longer, List.take_length, Bool.eq_iff_iff]
  simp only [List.any_eq_true, decide_eq_true_eq]
  constructor
  · rintro ⟨z, hz, hle⟩
    have h1 := hM.2.2.1 z hz
    obtain ⟨i, hi⟩ := List.getElem?_of_mem hz
    have := deepL_of hM.2.2.1 (s := i) (n := z.toNat) (by omega) (by rw [hi]; congr 1; omega)
    omega
  · intro h
    obtain ⟨s, hs⟩ := deepL_some (ls := ls) (by omega)
    exact ⟨_, List.mem_of_getElem? hs, by omega⟩

/-- The bits of B, one by one. -/
theorem vl_take (B : List Bool) (j : Nat) (b : Bool) (h : B[j]? = some b) : vl (B.take (j + 1)) = 2 * vl (B.take j) + b.toNat := by
  rw [List.take_add_one, h]
  exact vl_snoc _ _

set_option maxHeartbeats 4000000 in
set_option maxRecDepth 100000 in
theorem take_any (ls : List Int) (A A2 A3 : Option Addr) (c c2 c3 : Nat) (B : List Bool) (w : World) (hM : May ls) (hB : B.length ≤ 1000000)
    (hS : Src w 1 A ls.length c (icells ls)) (hS2 : Src w 1 A2 ls.length c2 (crow ls.length (cd ls))) (hS3 : Src w 1 A3 B.length c3 (tcells B)) :
    Calls Try.prog 17 #[.slice A ls.length c, .slice A2 ls.length c2, .slice A3 B.length c3] w fun e w' => (∃ (s n : Nat) (k : Int), e = .returned (.tuple #[.int .i64 s, .int .i64 n, .int .i64 k]) ∧ Out ls B s n k) ∧ w = w' := by
  have hlen := hM.1
  obtain ⟨b, off, rfl, hcell⟩ := hS.plain (by rw [icells_len]; omega)
  obtain ⟨b2, off2, rfl, hcell2⟩ := hS2.plain (by simp [crow, ccells]; omega)
  have HC := keepf hcell
  have HC2 := keepf hcell2
  have HS3 := keepf hS3
  have HM := keepf hM
  clear hS hS2 hS3 hM hcell hcell2
  obtain ⟨n, hn⟩ : ∃ n, n = ls.length := ⟨_, rfl⟩
  have HN := keepf hn
  have hn320 : n ≤ 320 := by have := HM.out.2.1; omega
  rw [← hn] at hlen HC2 ⊢
  clear hn
  go_enter Try.func17, Try.ntmps17
  go_wp2_with fail
  go_loop [9] (fun i => ∃ m : Nat, 1 ≤ m ∧ m ≤ 16 ∧ m ≤ deepL ls + 1 ∧ m ≤ B.length + 1 ∧ i = .int .i64 m ∧ Hid (∀ j q, j < m → ¬ Hit ls B j q)) (fun i => 16 - (intOf i).toNat)
  case atStart => exact ⟨1, by omega, by omega, by omega, by omega, rfl, fun j q h hh => hh.1 (by omega)⟩
  case round =>
    obtain ⟨m, hm1, hm16, hmd, hmB, rfl, hNo⟩ := hrel
    have HMD := keepf hmd
    clear hmd
    by_cases hlt : m < 16
    · go_wp2_with fail
      go_loop [10, 11] (fun v i => ∃ k : Nat, k ≤ n ∧ i = .int .i64 k ∧ v = .bool (longer ls k m)) (fun _ i => n - (intOf i).toNat)
      case atStart => exact ⟨0, Nat.zero_le _, rfl, by simp [longer]⟩
      case round =>
        obtain ⟨k, hk, rfl, rfl⟩ := hrel
        by_cases hkn : k < n
        · obtain ⟨z, hz⟩ : ∃ z, ls[k]? = some z := ⟨_, List.getElem?_eq_getElem (by have := HN.out; omega)⟩
          have hc := HC.out k _ (icells_get hz)
          have hls := longer_succ ls k m z hz
          have HZ := keepf hls
          clear hls hz
          cases hlo : longer ls k m
          · rw [hlo] at HZ
            go_wp2_with fail
            go_round
            case rel => exact ⟨k + 1, by omega, by go_num, by rw [HZ.out]; simp⟩
            case measure => simp [intOf]; omega
          · rw [hlo] at HZ
            go_wp2_with fail
            go_round
            case rel => exact ⟨k + 1, by omega, by go_num, by rw [HZ.out]; simp⟩
            case measure => simp [intOf]; omega
        · obtain rfl : n = k := by omega
          have hlo : longer ls n m = decide (m ≤ deepL ls) := by rw [HN.out]; exact longer_deep ls HM.out m (by omega)
          rw [hlo]
          by_cases hmd : m ≤ deepL ls
          · have d1 : decide (m ≤ deepL ls) = true := by simpa using hmd
            rw [d1]
            by_cases hBm : B.length < m
            · have d2 : (B.length : Int) < m := by omega
              clear d1 hlo
              go_wp2_with fail
              go_ret3
              obtain rfl : m = B.length + 1 := by omega
              have ho := Out.cut (ls := ls) (B := B) (by omega) (fun j q hh => hNo.out j q (by have := hh.2.1; omega) hh)
              exact ⟨⟨0, B.length, 10, (by congr 1; congr 1; simp), ho⟩, rfl⟩
            · have d2 : decide ((B.length : Int) < m) = false := by simp; omega
              obtain ⟨b3, off3, rfl, hcell3⟩ := HS3.out.plain (by rw [tcells_len]; omega)
              have HC3 := keepf hcell3
              clear d1 hlo hcell3
              go_wp2_with fail
              clear d2
              go_loop [12, 13] (fun v i => ∃ j x : Nat, j ≤ m ∧ x < 2 ^ j ∧ i = .int .i64 j ∧ v = .int .u32 x ∧ Hid (x = vl (B.take j))) (fun _ i => m - (intOf i).toNat)
              case atStart => exact ⟨0, 0, by omega, by simp, rfl, rfl, (by show 0 = _; simp [vl])⟩
              case round =>
                obtain ⟨j, x, hj, hx, rfl, rfl, hX⟩ := hrel
                have hp : 2 ^ j ≤ 2 ^ 15 := Nat.pow_le_pow_right (by decide) (by omega)
                have hx15 : x < 32768 := by omega
                have HXB := keepf hx
                clear hp hx
                by_cases hjm : j < m
                · obtain ⟨bb, hbb⟩ : ∃ bb, B[j]? = some bb := ⟨_, List.getElem?_eq_getElem (by omega)⟩
                  have hc3 := HC3.out j (.bool bb) (by simp [tcells, hbb])
                  have hv := vl_take B j bb hbb
                  rw [← hX.out] at hv
                  have HV := keepf hv
                  have HX2 := HXB.out
                  have hps : 2 ^ (j + 1) = 2 * 2 ^ j := by rw [Nat.pow_succ]; omega
                  have HPS := keepf hps
                  clear hbb hv HX2 hps
                  cases bb
                  · go_wp2_with fail
                    go_round
                    case rel => exact ⟨j + 1, 2 * x, by omega, by have := HXB.out; have := HPS.out; omega, by go_num, by go_num, (by show _ = _; rw [HV.out]; simp)⟩
                    case measure => simp [intOf]; omega
                  · go_wp2_with fail
                    go_round
                    case rel => exact ⟨j + 1, 2 * x + 1, by omega, by have := HXB.out; have := HPS.out; omega, by go_num, by go_num, (by show _ = _; rw [HV.out]; simp)⟩
                    case measure => simp [intOf]; omega
                · obtain rfl : m = j := by omega
                  go_wp2_with fail
                  go_loop [14] (fun i => ∃ k : Nat, k ≤ n ∧ i = .int .i64 k ∧ Hid (∀ q, q < k → ¬ Hit ls B m q)) (fun i => n - (intOf i).toNat)
                  case atStart => exact ⟨0, Nat.zero_le _, rfl, fun q h => absurd h (by omega)⟩
                  case round =>
                    obtain ⟨k, hk, rfl, hQ⟩ := hrel
                    by_cases hkn : k < n
                    · have hkl : k < ls.length := by have := HN.out; omega
                      have hz := some_lenAt HM.out.2.2.1 hkl
                      obtain ⟨z, hzz⟩ : ∃ z, z = lenAt ls k := ⟨_, rfl⟩
                      rw [← hzz] at hz
                      have hc := HC.out k _ (icells_get hz)
                      have hc2 := HC2.out k _ (crow_get n (cd ls) k hkn)
                      obtain ⟨y, hy⟩ : ∃ y, y = cd ls k := ⟨_, rfl⟩
                      rw [← hy] at hc2
                      have HZ := keepf hz
                      have HY := keepf hy
                      clear hz hzz hy
                      by_cases he : z = m
                      · have e1 : ((z : Int) == (m : Int)) = true := by simp; omega
                        by_cases hyx : y = x
                        · have e2 : ((y : Int) == (x : Int)) = true := by simp; omega
                          go_wp2_with fail
                          go_ret3
                          refine ⟨⟨k, m, 0, rfl, .ok m k ⟨by omega, by omega, by rw [HZ.out, he], by rw [← HY.out, hyx, hX.out]⟩ hNo.out⟩, rfl⟩
                        · have e2 : ((y : Int) == (x : Int)) = false := by simp; omega
                          go_wp2_with fail
                          go_round
                          case rel =>
                            refine ⟨k + 1, by omega, by go_num, fun q hq hh => ?_⟩
                            by_cases e : q = k
                            · subst e
                              exact hyx (by rw [HY.out, hX.out]; exact hh.2.2.2)
                            · exact hQ.out q (by omega) hh
                          case measure => simp [intOf]; omega
                      · have e1 : ((z : Int) == (m : Int)) = false := by simp; omega
                        go_wp2_with fail
                        go_round
                        case rel =>
                          refine ⟨k + 1, by omega, by go_num, fun q hq hh => ?_⟩
                          by_cases e : q = k
                          · subst e
                            have e2 : (z : Int) = (m : Int) := Option.some.inj (HZ.out.symm.trans hh.2.2.1)
                            exact he (by omega)
                          · exact hQ.out q (by omega) hh
                        case measure => simp [intOf]; omega
                    · obtain rfl : k = n := by omega
                      go_wp2_with fail
                      go_round
                      case rel =>
                        refine ⟨m + 1, by omega, by omega, by omega, by omega, by go_num, fun j q hj hh => ?_⟩
                        by_cases e : j = m
                        · subst e
                          have hql := (List.getElem?_eq_some_iff.1 hh.2.2.1).1
                          exact hQ.out q (by have := HN.out; omega) hh
                        · exact hNo.out j q (by omega) hh
                      case measure => simp [intOf]; omega
          · have d1 : decide (m ≤ deepL ls) = false := by simpa using hmd
            rw [d1]
            clear hlo
            go_wp2_with fail
            go_ret3
            have hd := HMD.out
            have hd2 : m - 1 = deepL ls := by omega
            have ho := Out.code (ls := ls) (B := B) (by omega) (fun j q hh => hNo.out j q (by have := deepL_of HM.out.2.2.1 hh.1 hh.2.2.1; omega) hh)
            exact ⟨⟨0, deepL ls, 13, (by rw [← hd2]; congr 1; congr 1; simp; omega), ho⟩, rfl⟩
    · obtain rfl : m = 16 := by omega
      go_wp2_with fail
      go_ret3
      have hd := HMD.out
      have hd2 := deepL_le ls
      have hd3 : deepL ls = 15 := by omega
      have ho := Out.code (ls := ls) (B := B) (by omega) (fun j q hh => hNo.out j q (by have := deepL_of HM.out.2.2.1 hh.1 hh.2.2.1; omega) hh)
      rw [hd3] at ho
      exact ⟨⟨0, 15, 13, rfl, ho⟩, rfl⟩
end Go.Proofs.Ytkhhiaggmncehaa
