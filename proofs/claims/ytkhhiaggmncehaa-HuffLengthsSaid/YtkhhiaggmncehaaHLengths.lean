/- 'HuffLengths': for every input the statement's function returns true: of any counts there are lengths that may be, at most as great as was said, complete, unless there are fewer than two, and no greater for what comes more often; or the error. Conditions: none. -/
import Derived.Test.YtkhhiaggmncehaaLensIn
import Derived.Test.YtkhhiaggmncehaaWorkH
import Derived.Test.YtkhhiaggmncehaaLengths
import Derived.Test.YtkhhiaggmncehaaRows
import Derived.OpenShut
import Derived.ChangeOld
import Derived.Lib.SmallJoins
import Derived.BigQuiet
namespace Go.Proofs.Ytkhhiaggmncehaa.hlengths
open Go.RowKit Go.ChangeShapes Go.WideShapes Go.ChangeAt
set_option linter.unusedVariables false

theorem own : ownKnob Try.prog.godebug = none := by kernel_rfl
theorem laidOut : laidOutB Try.prog = true := by kernel_rfl

/-- May the first k counts be? -/
def fb (xs : List Int) (most : Int) (k : Nat) : Bool := decide (1 ≤ xs.length ∧ xs.length ≤ 320 ∧ 1 ≤ most ∧ most ≤ 15 ∧ ∀ z ∈ xs.take k, 0 ≤ z ∧ z ≤ 2147483647)
instance (xs : List Int) (most : Int) : Decidable (Fine xs most) := by unfold Fine; infer_instance
theorem fb_step {xs : List Int} {most : Int} {k : Nat} {z : Int} (h : xs[k]? = some z) : fb xs most (k + 1) = (fb xs most k && decide (0 ≤ z ∧ z ≤ 2147483647)) := by
  unfold fb
  rw [take_more xs k z h, ← Bool.decide_and]
  congr 1
  apply propext
  simp only [List.mem_append, List.mem_singleton]
  constructor
  · rintro ⟨h1, h2, h3, h4, h5⟩
    exact ⟨⟨h1, h2, h3, h4, fun y hy => h5 y (.inl hy)⟩, h5 z (.inr rfl)⟩
  · rintro ⟨⟨h1, h2, h3, h4, h5⟩, h6⟩
    exact ⟨h1, h2, h3, h4, fun y hy => by rcases hy with hy | rfl; exact h5 y hy; exact h6⟩
theorem fb_fine {xs : List Int} {most : Int} : Fine xs most ↔ (fb xs most xs.length = true ∧ (usedTo xs xs.length).length ≤ 2 ^ most.toNat) := by
  unfold Fine fb cntOk
  simp only [decide_eq_true_eq, List.take_length]
  constructor
  · rintro ⟨⟨h1, h2, h3⟩, h4, h5, h6⟩; exact ⟨⟨h1, h2, h4, h5, h3⟩, h6⟩
  · rintro ⟨⟨h1, h2, h4, h5, h3⟩, h6⟩; exact ⟨⟨h1, h2, h3⟩, h4, h5, h6⟩

theorem lens_all {cs d D : List Int} {most : Nat} (h : LensOk cs most d D) (hu : UsedIs cs d) (y : Nat) : 0 ≤ D.getD y 0 ∧ D.getD y 0 ≤ most := by
  by_cases hy : (y : Int) ∈ d
  · have h1 := h.yes _ hy
    rw [Int.toNat_natCast] at h1
    omega
  · rw [h.no y hy]
    omega
theorem lens_ok15 {cs d D : List Int} {most : Nat} (h : LensOk cs most d D) (hm : most ≤ 15) : ∀ z ∈ D, 0 ≤ z ∧ z ≤ 15 := by
  intro z hz
  obtain ⟨i, hi, rfl⟩ := List.getElem_of_mem hz
  have e : D[i] = D.getD i 0 := by simp [List.getD_eq_getElem?_getD, hi]
  rw [e]
  by_cases hy : (i : Int) ∈ d
  · have h1 := h.yes _ hy
    rw [Int.toNat_natCast] at h1
    omega
  · rw [h.no i hy]
    omega
theorem lens_in {cs d D : List Int} {most : Nat} (h : LensOk cs most d D) (hm : most ≤ 15) : in64 D := fun z hz => by
  have := lens_ok15 h hm z hz
  omega
theorem lens_may {cs d D : List Int} {most : Nat} (h : LensOk cs most d D) (hu : UsedIs cs d) (hm : most ≤ 15) (h1 : 1 ≤ D.length) (h2 : D.length ≤ 320) : May D := ⟨h1, h2, lens_ok15 h hm, h.room⟩

theorem lens_pos {cs d D : List Int} {most : Nat} (h : LensOk cs most d D) (hu : UsedIs cs d) (y : Nat) (hy : y < cs.length) : 0 < D.getD y 0 ↔ 0 < cs.getD y 0 := by
  have hm : (y : Int) ∈ d ↔ 0 < cs.getD y 0 := by
    rw [hu.perm.mem_iff, usedTo_mem]
    unfold keyOf
    rw [Int.toNat_natCast]
    constructor
    · exact fun h => h.2.2
    · exact fun h => ⟨by omega, by omega, h⟩
  rw [← hm]
  constructor
  · intro h1
    by_cases h2 : (y : Int) ∈ d
    · exact h2
    · rw [h.no y h2] at h1; omega
  · intro h1
    have h2 := h.yes _ h1
    rw [Int.toNat_natCast] at h2
    omega
theorem lens_one {cs d D : List Int} {most : Nat} (h : LensOk cs most d D) (h1 : d.length = 1) (y : Nat) : D.getD y 0 ≤ 1 := by
  by_cases h2 : (y : Int) ∈ d
  · have := h.one h1 _ h2
    rw [Int.toNat_natCast] at this
    omega
  · rw [h.no y h2]; omega
theorem lens_mono {cs d D : List Int} {most : Nat} (h : LensOk cs most d D) (hu : UsedIs cs d) (j k : Nat) (hj : j < cs.length) (hk : k < cs.length) (pj : 0 < cs.getD j 0) (pk : 0 < cs.getD k 0) (hlt : cs.getD k 0 < cs.getD j 0) : D.getD j 0 ≤ D.getD k 0 := by
  have hm : ∀ y : Nat, y < cs.length → 0 < cs.getD y 0 → (y : Int) ∈ d := fun y hy p => by
    rw [hu.perm.mem_iff, usedTo_mem]
    unfold keyOf
    rw [Int.toNat_natCast]
    exact ⟨by omega, by omega, p⟩
  have h1 := h.mono j (hm j hj pj) k (hm k hk pk) (by unfold keyOf; rw [Int.toNat_natCast, Int.toNat_natCast]; exact hlt)
  rwa [Int.toNat_natCast, Int.toNat_natCast] at h1

set_option maxHeartbeats 4000000 in
set_option maxRecDepth 100000 in
theorem walk (A : Option Addr) (len cap : Nat) (xs : List Int) (most : Int) (w : World) (hl : xs.length = len) (hm : len ≤ maxLen) (hS : Src w 1 A len cap (xs.flatMap encI)) (hg : ∀ b ∈ xs, goodI b) (hmw : (Lit.int .i64 most).wf = true) :
    Calls Try.prog 7 #[.slice A len cap, .int .i64 most] w fun e w' => e = .returned (.bool true) ∧ Below w.heap.size w w' := by
  have hm64 : -9223372036854775808 ≤ most ∧ most ≤ 9223372036854775807 := bounds_i64 hmw
  clear hmw
  unfold maxLen at hm
  rw [flat_ints] at hS
  subst hl
  have HS := keepf hS
  clear hS hg
  by_cases hle : xs.length ≤ 400
  · have d1 : decide ((400 : Int) < xs.length) = false := by simp; omega
    have HF0 : Hid (fb xs most 0 = decide (1 ≤ xs.length ∧ xs.length ≤ 320 ∧ 1 ≤ most ∧ most ≤ 15)) := by
      show _ = _
      unfold fb
      congr 1
      apply propext
      simp
    obtain ⟨n, hn⟩ : ∃ n, n = xs.length := ⟨_, rfl⟩
    have HN := keepf hn
    rw [← hn] at HF0 d1 hle hm ⊢
    clear hn
    go_enter Try.func7, Try.ntmps7
    go_upto_region 3 with fail
    go_cut [5, 6] from 18 to 33 (fun va vb wx => va = .int .i64 0 ∧ vb = .bool (fb xs most 0) ∧ wx = w)
    case first =>
      by_cases h1 : 1 ≤ n
      · have e1 : (1 : Int) ≤ n := by omega
        by_cases h2 : n ≤ 320
        · have e2 : (n : Int) ≤ 320 := by omega
          by_cases h3 : 1 ≤ most
          · by_cases h4 : most ≤ 15
            · go_wp2_with fail
              go_meet
              exact ⟨rfl, by rw [HF0.out, decide_eq_true ⟨h1, h2, h3, h4⟩], rfl⟩
            · go_wp2_with fail
              go_meet
              exact ⟨rfl, by rw [HF0.out, decide_eq_false (fun h => by have := h.2.2.2; omega)], rfl⟩
          · go_wp2_with fail
            go_meet
            exact ⟨rfl, by rw [HF0.out, decide_eq_false (fun h => by have := h.2.2.1; omega)], rfl⟩
        · have e2 : ¬ (n : Int) ≤ 320 := by omega
          go_wp2_with fail
          go_meet
          exact ⟨rfl, by rw [HF0.out, decide_eq_false (fun h => by have := h.2.1; omega)], rfl⟩
      · have e1 : ¬ (1 : Int) ≤ n := by omega
        go_wp2_with fail
        go_meet
        exact ⟨rfl, by rw [HF0.out, decide_eq_false (fun h => by have := h.1; omega)], rfl⟩
    case rest =>
      obtain ⟨rfl, rfl, rfl⟩ := hcut
      go_wp2_with fail
      go_loop [5, 6, 7] (fun va vb vi => ∃ k : Nat, k ≤ n ∧ va = .int .i64 (usedTo xs k).length ∧ vb = .bool (fb xs most k) ∧ vi = .int .i64 k) (fun _ _ vi => n - (intOf vi).toNat)
      case atStart => exact ⟨0, Nat.zero_le _, rfl, rfl, rfl⟩
      case round =>
        obtain ⟨k, hk, rfl, rfl, rfl⟩ := hrel
        obtain ⟨bb, hbb⟩ : ∃ bb, bb = fb xs most k := ⟨_, rfl⟩
        obtain ⟨s, hs⟩ : ∃ s, s = (usedTo xs k).length := ⟨_, rfl⟩
        have hsk := usedTo_len xs k
        rw [← hs] at hsk ⊢
        rw [← hbb]
        have HBB := keepf hbb
        have HSS := keepf hs
        clear hbb hs
        by_cases hlt : k < n
        · obtain ⟨b, off, rfl, hcell⟩ := HS.out.plain (by rw [icells_len]; have := HN.out; omega)
          obtain ⟨z, hz⟩ : ∃ z, xs[k]? = some z := ⟨_, List.getElem?_eq_getElem (by have := HN.out; omega)⟩
          have hc := hcell k _ (icells_get hz)
          have HZ := keepf hz
          clear hcell hz
          have i1 : (k : Int) < n := by omega
          have HREL1 : Hid (0 < z → (usedTo xs (k + 1)).length = s + 1) := fun h => by rw [usedTo_pos HZ.out h, HSS.out]; simp
          have HREL2 : Hid (¬ 0 < z → (usedTo xs (k + 1)).length = s) := fun h => by rw [usedTo_neg HZ.out h, HSS.out]
          have HREL3 : Hid (fb xs most (k + 1) = (bb && decide (0 ≤ z ∧ z ≤ 2147483647))) := by show _ = _; rw [fb_step HZ.out, HBB.out]
          by_cases hp : 0 < z
          · have e1 : decide (0 < z) = true := by simpa using hp
            have e2 : decide (0 ≤ z) = true := by simp; omega
            rcases bb with _ | _
            · go_wp2_with fail
              go_round
              case rel => exact ⟨k + 1, by omega, by rw [HREL1.out hp]; go_num, by rw [HREL3.out]; rfl, by go_num⟩
              case measure => simp [intOf]; omega
            · by_cases hq : z ≤ 2147483647
              · have e3 : decide (z ≤ 2147483647) = true := by simpa using hq
                go_wp2_with fail
                go_round
                case rel => exact ⟨k + 1, by omega, by rw [HREL1.out hp]; go_num, by rw [HREL3.out, decide_eq_true ⟨by omega, hq⟩]; rfl, by go_num⟩
                case measure => simp [intOf]; omega
              · have e3 : decide (z ≤ 2147483647) = false := by simp; omega
                go_wp2_with fail
                go_round
                case rel => exact ⟨k + 1, by omega, by rw [HREL1.out hp]; go_num, by rw [HREL3.out, decide_eq_false (fun h => by omega)]; rfl, by go_num⟩
                case measure => simp [intOf]; omega
          · have e1 : decide (0 < z) = false := by simpa using hp
            rcases bb with _ | _
            · go_wp2_with fail
              go_round
              case rel => exact ⟨k + 1, by omega, by rw [HREL2.out hp], by rw [HREL3.out]; rfl, by go_num⟩
              case measure => simp [intOf]; omega
            · by_cases hq : 0 ≤ z
              · have e2 : decide (0 ≤ z) = true := by simpa using hq
                have e3 : decide (z ≤ 2147483647) = true := by simp; omega
                go_wp2_with fail
                go_round
                case rel => exact ⟨k + 1, by omega, by rw [HREL2.out hp], by rw [HREL3.out, decide_eq_true ⟨hq, by omega⟩]; rfl, by go_num⟩
                case measure => simp [intOf]; omega
              · have e2 : decide (0 ≤ z) = false := by simp; omega
                go_wp2_with fail
                go_round
                case rel => exact ⟨k + 1, by omega, by rw [HREL2.out hp], by rw [HREL3.out, decide_eq_false (fun h => by omega)]; rfl, by go_num⟩
                case measure => simp [intOf]; omega
        · obtain rfl : n = k := by omega
          go_wp2_with fail
          obtain ⟨F, hF⟩ : ∃ F, F = decide (Fine xs most) := ⟨_, rfl⟩
          have hFb : F = (bb && decide (s ≤ 2 ^ most.toNat)) := by
            rw [hF, HBB.out, HSS.out, HN.out, ← Bool.decide_coe (fb xs most xs.length), ← Bool.decide_and]
            exact decide_eq_decide.2 fb_fine
          have hrange : bb = true → 1 ≤ most ∧ most ≤ 15 := fun h => by
            rw [HBB.out] at h
            have h2 := of_decide_eq_true h
            exact ⟨h2.2.2.1, h2.2.2.2.1⟩
          have HF := keepf hF
          have HFB := keepf hFb
          have HRG := keepf hrange
          clear hF hFb hrange
          go_loop [6, 8, 9] (fun vf vp vk => ∃ k P : Nat, k ≤ 16 ∧ P ≤ 65536 ∧ vf = .bool (if 0 ≤ most ∧ most < k then F else bb) ∧ vp = .int .i64 P ∧ vk = .int .i64 k ∧ Hid (P = 2 ^ k)) (fun _ _ vk => 16 - (intOf vk).toNat)
          case atStart => exact ⟨0, 1, by omega, by omega, by rw [if_neg (by omega)], rfl, rfl, rfl⟩
          case round =>
            obtain ⟨k, P, hk, hP, rfl, rfl, rfl, HP⟩ := hrel
            by_cases hlt2 : k < 16
            · have hP2 : P ≤ 32768 := by
                have h1 := HP.out
                have h2 : 2 ^ k ≤ 2 ^ 15 := Nat.pow_le_pow_right (by omega) (by omega)
                omega
              have hw : IntKind.i64.wrap (2 * (P : Int)) = 2 * P := by rw [IntKind.wrap_i64]; omega
              have hPn : Hid (2 * P = 2 ^ (k + 1)) := by show _ = _; rw [HP.out, Nat.pow_succ]; omega
              have i2 : (k : Int) ≤ 15 := by omega
              by_cases hkm : (k : Int) = most
              · subst hkm
                rw [if_neg (by omega)]
                have hnew : ∀ c, (if (0 : Int) ≤ (k : Int) ∧ (k : Int) < ((k + 1 : Nat) : Int) then F else c) = F := fun c => if_pos ⟨by omega, by omega⟩
                have HNEW := keepf hnew
                clear hnew
                have hFv : F = (bb && decide (s ≤ P)) := by rw [HFB.out, HP.out, Int.toNat_natCast]
                have HFV := keepf hFv
                clear hFv
                rcases bb with _ | _
                · go_wp2_with fail
                  go_round
                  case rel => exact ⟨k + 1, 2 * P, by omega, by omega, by rw [HNEW.out, HFV.out]; rfl, by go_num, by go_num, hPn⟩
                  case measure => simp [intOf]; omega
                · by_cases hsP : s ≤ P
                  · have e4 : decide ((s : Int) ≤ P) = true := decide_eq_true (by omega)
                    go_wp2_with fail
                    go_round
                    case rel => exact ⟨k + 1, 2 * P, by omega, by omega, by rw [HNEW.out, HFV.out, decide_eq_true hsP]; rfl, by go_num, by go_num, hPn⟩
                    case measure => simp [intOf]; omega
                  · have e4 : decide ((s : Int) ≤ P) = false := decide_eq_false (by omega)
                    go_wp2_with fail
                    go_round
                    case rel => exact ⟨k + 1, 2 * P, by omega, by omega, by rw [HNEW.out, HFV.out, decide_eq_false hsP]; rfl, by go_num, by go_num, hPn⟩
                    case measure => simp [intOf]; omega
              · have hsame : (if 0 ≤ most ∧ most < ((k + 1 : Nat) : Int) then F else bb) = (if 0 ≤ most ∧ most < (k : Int) then F else bb) := by
                  by_cases h5 : 0 ≤ most ∧ most < (k : Int)
                  · rw [if_pos h5, if_pos ⟨h5.1, by omega⟩]
                  · rw [if_neg h5, if_neg (by omega)]
                obtain ⟨fl, hfl⟩ : ∃ fl, fl = (if 0 ≤ most ∧ most < (k : Int) then F else bb) := ⟨_, rfl⟩
                rw [← hfl] at hsame ⊢
                have HSAME := keepf hsame
                have e5 : ((k : Int) == most) = false := beq_eq_false_iff_ne.2 hkm
                clear hsame hfl
                go_wp2_with fail
                go_round
                case rel => exact ⟨k + 1, 2 * P, by omega, by omega, by rw [HSAME.out], by go_num, by go_num, hPn⟩
                case measure => simp [intOf]; omega
            · have hfin : (if 0 ≤ most ∧ most < (k : Int) then F else bb) = F := by
                by_cases h5 : 0 ≤ most ∧ most < (k : Int)
                · rw [if_pos h5]
                · rw [if_neg h5, HFB.out]
                  rcases bb with _ | _
                  · rfl
                  · have := HRG.out rfl
                    omega
              rw [hfin]
              clear hfin
              have i2 : ¬ (k : Int) ≤ 15 := by omega
              rcases F with _ | _
              · have HNO := keepf (lengths_no xs A cap most wc (by have := HN.out; omega) hm64 HS.out (of_decide_eq_false HF.out.symm))
                rw [← HN.out] at HNO
                go_wp2_with (first
                  | (go_at_call 24; refine HNO.out.mono ?_; rintro e w2 ⟨rfl, hc2⟩; have HC2 := keepf hc2; clear hc2)
                  | (go_at_call 8; refine (works_any4 _).mono ?_; rintro e wz ⟨rfl, hcz⟩; have HCz := keepf hcz; clear hcz))
                go_ret
                exact ⟨rfl, (HC2.out.trans HCz.out (fun _ _ h => h)).no_below⟩
              · have hfine := of_decide_eq_true HF.out.symm
                obtain ⟨mk, rfl⟩ := Int.eq_ofNat_of_zero_le (show 0 ≤ most by have := hfine.2.1; omega)
                have hmk : mk ≤ 15 := by have := hfine.2.2.1; omega
                have HOL := keepf (lengths_ok xs A cap mk wc (by have := HN.out; omega) HS.out hfine)
                rw [← HN.out] at HOL
                have hn1 : 1 ≤ n ∧ n ≤ 320 := by
                  have h1 := of_decide_eq_true hfine.1
                  have := HN.out
                  omega
                have HCOK := keepf (of_decide_eq_true hfine.1).2.2
                clear hfine
                go_wp2_with (first
                  | (go_at_call 24; refine HOL.out.mono ?_; rintro e w2 ⟨A2, c2, d, D, rfl, ho2, hu2, hlo2, hc2⟩; have hDn : D.length = n := hlo2.len.trans HN.out.symm; have hin : in64 D := lens_in hlo2 (by omega); have hmay : May D := lens_may hlo2 hu2 (by omega) (by omega) (by omega); have HRM := keepf (rmay_any D A2 c2 w2 (by omega) hin (src_own ho2)); rw [decide_eq_true hmay, hDn] at HRM; have HO2 := keepf ho2; have HU2 := keepf hu2; have HLO := keepf hlo2; have HC2 := keepf hc2; have HIN := keepf hin; have HMAY := keepf hmay; rw [hDn]; have HDN := keepf hDn; clear ho2 hu2 hlo2 hc2 hin hmay hDn)
                  | (go_at_call 19; refine HRM.out.mono ?_; rintro e w3 ⟨rfl, rfl⟩))
                obtain ⟨b, off, rfl, hcell⟩ := HS.out.plain (by rw [icells_len]; have := HN.out; omega)
                obtain ⟨g2, cg2, hA, _, _⟩ := own_form HO2.out (by have := HDN.out; omega)
                injection hA with hA1 hA2 hA3
                subst hA1
                subst hA3
                clear hA2
                have hCZ : ∀ W, Chg NoS w2 W → ∀ j, j < n → W.cell? ⟨b, off + j, none⟩ = some (.int .i64 (xs.getD j 0)) := fun W hW j hj => by
                  have h1 : xs[j]? = some (xs.getD j 0) := by rw [List.getD_eq_getElem?_getD, List.getElem?_eq_getElem (by have := HN.out; omega)]; rfl
                  have h2 := hcell j _ (icells_get h1)
                  exact ((HC2.out.trans hW (fun _ _ h => h)).cell (p := ⟨b, off + j, none⟩) (by exact cell_lt h2) (fun h => h)).trans h2
                have hCX : ∀ W, Chg NoS w2 W → ∀ j, j < n → W.cell? ⟨g2, j, none⟩ = some (.int .i64 (D.getD j 0)) := fun W hW j hj => by
                  have h1 : D[j]? = some (D.getD j 0) := by rw [List.getD_eq_getElem?_getD, List.getElem?_eq_getElem (by have := HDN.out; omega)]; rfl
                  have h2 := World.ownsRow.cellAt (own_chg (S := NoS) HO2.out hW (fun _ _ h => h)) j (by have := HDN.out; omega)
                  rw [icells_get h1] at h2
                  exact h2
                have HCZ := keepf hCZ
                have HCX := keepf hCX
                have hsd : s = d.length := by rw [HSS.out, HU2.out.perm.length_eq, HN.out]
                have HSD := keepf hsd
                clear hCZ hCX hcell hsd
                go_loopw [12] (fun v wr => ∃ k : Nat, k ≤ n ∧ v = .int .i64 k ∧ Hid (Chg NoS w2 wr)) (fun v _ => n - (intOf v).toNat)
                case atStart => exact ⟨0, Nat.zero_le _, rfl, Chg.refl _ _⟩
                case round =>
                  obtain ⟨k, hk, rfl, HK⟩ := hrel
                  by_cases hlt : k < n
                  · have hkx : k < xs.length := by have := HN.out; omega
                    have cz := HCZ.out _ HK.out k hlt
                    have cx := HCX.out _ HK.out k hlt
                    have hall := (lens_all HLO.out HU2.out k).2
                    have hpos := lens_pos HLO.out HU2.out k hkx
                    have hone := fun h => lens_one HLO.out h k
                    obtain ⟨z, hz⟩ : ∃ z, z = xs.getD k 0 := ⟨_, rfl⟩
                    obtain ⟨x, hx⟩ : ∃ x, x = D.getD k 0 := ⟨_, rfl⟩
                    rw [← hz] at cz hpos
                    rw [← hx] at cx hpos hall hone
                    have HZ := keepf hz
                    have HX := keepf hx
                    have HPOS := keepf hpos
                    have HONE := keepf hone
                    have i1 : (k : Int) < n := by omega
                    have f1 : decide ((mk : Int) < x) = false := decide_eq_false (by omega)
                    clear hz hx hpos hone hall
                    go_upto_region 24 with fail
                    go_cut [144] from 115 to 144 (fun v wx => v = .bool false ∧ Chg NoS w2 wx)
                    case first =>
                      by_cases hs1 : s = 1
                      · have g1 : ((s : Int) == 1) = true := by simp [hs1]
                        have g2' : decide (1 < x) = false := decide_eq_false (by have := HONE.out (by rw [← HSD.out]; exact hs1); omega)
                        clear hs1
                        by_cases hp : 0 < z
                        · have e1 : decide (0 < z) = true := by simpa using hp
                          have e2 : decide (0 < x) = true := decide_eq_true (HPOS.out.2 hp)
                          go_quiet (fail)
                          try go_wp2_with fail
                          go_meet
                          exact ⟨rfl, HK.out.drewN nq⟩
                        · have e1 : decide (0 < z) = false := by simpa using hp
                          have e2 : decide (0 < x) = false := decide_eq_false (fun h => hp (HPOS.out.1 h))
                          go_quiet (fail)
                          try go_wp2_with fail
                          go_meet
                          exact ⟨rfl, HK.out.drewN nq⟩
                      · have g1 : ((s : Int) == 1) = false := beq_eq_false_iff_ne.2 (by omega)
                        by_cases hp : 0 < z
                        · have e1 : decide (0 < z) = true := by simpa using hp
                          have e2 : decide (0 < x) = true := decide_eq_true (HPOS.out.2 hp)
                          go_quiet (fail)
                          try go_wp2_with fail
                          go_meet
                          exact ⟨rfl, HK.out.drewN nq⟩
                        · have e1 : decide (0 < z) = false := by simpa using hp
                          have e2 : decide (0 < x) = false := decide_eq_false (fun h => hp (HPOS.out.1 h))
                          go_quiet (fail)
                          try go_wp2_with fail
                          go_meet
                          exact ⟨rfl, HK.out.drewN nq⟩
                    case rest =>
                      obtain ⟨rfl, hcx⟩ := hcut
                      have HCX4 := keepf hcx
                      clear hcx cz cx f1
                      go_wp2_with fail
                      go_loopw [13] (fun v wr => ∃ j : Nat, j ≤ k ∧ v = .int .i64 j ∧ Hid (Chg NoS w2 wr)) (fun v _ => k - (intOf v).toNat)
                      case atStart => exact ⟨0, Nat.zero_le _, rfl, HCX4.out⟩
                      case round =>
                        obtain ⟨j, hj, rfl, HJ⟩ := hrel
                        by_cases hjk : j < k
                        · have hjx : j < xs.length := by have := HN.out; omega
                          have cz := HCZ.out _ HJ.out k hlt
                          have cx := HCX.out _ HJ.out k hlt
                          have cy := HCZ.out _ HJ.out j (by omega)
                          have cu := HCX.out _ HJ.out j (by omega)
                          have hm1 := lens_mono HLO.out HU2.out j k hjx hkx
                          have hm2 := lens_mono HLO.out HU2.out k j hkx hjx
                          rw [← HZ.out] at cz hm1 hm2
                          rw [← HX.out] at cx hm1 hm2
                          obtain ⟨y, hy⟩ : ∃ y, y = xs.getD j 0 := ⟨_, rfl⟩
                          obtain ⟨u, hu⟩ : ∃ u, u = D.getD j 0 := ⟨_, rfl⟩
                          rw [← hy] at cy hm1 hm2
                          rw [← hu] at cu hm1 hm2
                          have HM1 := keepf hm1
                          have HM2 := keepf hm2
                          have i2 : (j : Int) < n := by omega
                          have i3 : (j : Int) < k := by omega
                          clear hy hu hm1 hm2
                          go_upto_region 29 with fail
                          go_cut [205] from 150 to 205 (fun v wx => v = .bool false ∧ Chg NoS w2 wx)
                          case first =>
                            by_cases py : 0 < y
                            · have a1 : decide (0 < y) = true := by simpa using py
                              by_cases pz : 0 < z
                              · have a2 : decide (0 < z) = true := by simpa using pz
                                by_cases q1 : z < y
                                · have a3 : decide (z < y) = true := by simpa using q1
                                  have a4 : decide (y < z) = false := decide_eq_false (by omega)
                                  have a5 : decide (x < u) = false := decide_eq_false (by have := HM1.out py pz q1; omega)
                                  go_quiet (fail)
                                  try go_wp2_with fail
                                  go_meet
                                  exact ⟨rfl, HJ.out.drewN nq⟩
                                · have a3 : decide (z < y) = false := by simpa using q1
                                  by_cases q2 : y < z
                                  · have a4 : decide (y < z) = true := by simpa using q2
                                    have a5 : decide (u < x) = false := decide_eq_false (by have := HM2.out pz py q2; omega)
                                    go_quiet (fail)
                                    try go_wp2_with fail
                                    go_meet
                                    exact ⟨rfl, HJ.out.drewN nq⟩
                                  · have a4 : decide (y < z) = false := by simpa using q2
                                    go_quiet (fail)
                                    try go_wp2_with fail
                                    go_meet
                                    exact ⟨rfl, HJ.out.drewN nq⟩
                              · have a2 : decide (0 < z) = false := by simpa using pz
                                go_quiet (fail)
                                try go_wp2_with fail
                                go_meet
                                exact ⟨rfl, HJ.out.drewN nq⟩
                            · have a1 : decide (0 < y) = false := by simpa using py
                              go_quiet (fail)
                              try go_wp2_with fail
                              go_meet
                              exact ⟨rfl, HJ.out.drewN nq⟩
                          case rest =>
                            obtain ⟨rfl, hcy⟩ := hcut
                            have HCY := keepf hcy
                            clear hcy cz cx cy cu
                            go_wp2_with fail
                            go_roundw
                            case rel => exact ⟨j + 1, by omega, by go_num, HCY.out⟩
                            case measure => simp [intOf]; omega
                        · obtain rfl : k = j := by omega
                          go_wp2_with fail
                          go_roundw
                          case rel => exact ⟨k + 1, by omega, by go_num, HJ.out⟩
                          case measure => simp [intOf]; omega
                  · obtain rfl : n = k := by omega
                    have HRC := keepf (rcomplete_any D (some ⟨g2, 0, none⟩) c2 _ (by have := HDN.out; omega) HIN.out ((src_own HO2.out).below (w0 := w2) HK.out))
                    rw [HDN.out] at HRC
                    by_cases hs2 : s < 2
                    · have e1 : decide ((s : Int) < 2) = true := decide_eq_true (by omega)
                      go_wp2_with (go_at_call 8; refine (works_any4 _).mono ?_; rintro e wz ⟨rfl, hcz⟩; have HCz := keepf hcz; clear hcz)
                      go_ret
                      exact ⟨rfl, ((HC2.out.trans HK.out (fun _ _ h => h)).trans HCz.out (fun _ _ h => h)).no_below⟩
                    · have e1 : decide ((s : Int) < 2) = false := decide_eq_false (by omega)
                      have hcm : decide (May D ∧ rmOf D = 32768) = true := decide_eq_true ⟨HMAY.out, HLO.out.all (by rw [← HSD.out]; omega)⟩
                      rw [hcm] at HRC
                      clear hcm
                      go_wp2_with (first
                        | (go_at_call 12; refine HRC.out.mono ?_; rintro e w5 ⟨rfl, rfl⟩)
                        | (go_at_call 8; refine (works_any4 _).mono ?_; rintro e wz ⟨rfl, hcz⟩; have HCz := keepf hcz; clear hcz))
                      go_ret
                      exact ⟨rfl, ((HC2.out.trans HK.out (fun _ _ h => h)).trans HCz.out (fun _ _ h => h)).no_below⟩
  · have d1 : decide ((400 : Int) < xs.length) = true := by simp; omega
    go_enter Try.func7, Try.ntmps7
    go_wp2_with (go_at_call 8; refine (works_any4 _).mono ?_; rintro e wz ⟨rfl, hcz⟩; have HCz := keepf hcz; clear hcz)
    go_ret
    exact ⟨rfl, HCz.out.no_below⟩


set_option maxRecDepth 100000 in
theorem lifted (os : Os) (started : os.Started) (H : Type) (enc : TypeId × Value → H) :
    ReturnsInHanded {} Try.checked os 7 .any (Rows.huffLengthsSpec.pre6 enc Try.prog Try.f7 Rows.huffLengthsRow.domain false) (Rows.huffLengthsSpec.post enc Try.prog Try.f7 false true false false) := by
  refine returnsInHanded_of_change (C := Try.checked) own started (by kernel_rfl) Try.func7
    (ChangeSpec.witness6 (enc := enc) (C := Try.checked) false ⟨#[], #[.slice none 0 0, .int .i64 0], []⟩ 8 (by kernel_rfl) (by kernel_rfl) (by kernel_rfl) (by kernel_rfl)) ?_
  intro W base args ds gs before hval0 hW hcnd _
  have hval : ∀ (j : Nat) t v, Try.f7.params[j]? = some t → args[j]? = some v → Value.okWide Try.prog W .any base t v := hval0
  have hW' := hW
  obtain ⟨p, q, hA0, hV, rfl, hfz, hnd⟩ := hW
  have hA : DataW.TrodAll enc Try.prog W 0 (fun _ => true) true Try.f7.params.toList args.toList ds p := hA0
  rw [Try.params7] at hA hval
  obtain ⟨v0, vs0, d0, ds0, p0, q0, hargs, rfl, rfl, h0, r0⟩ := trodAll_cons hA
  obtain ⟨v1, vs1, d1, ds1, p1, q1, rfl, rfl, rfl, h1, r1⟩ := trodAll_cons r0
  obtain ⟨rfl, rfl, rfl⟩ := trodAll_nil r1
  obtain rfl : args = #[v0, v1] := by cases args; simp_all
  obtain ⟨rfl, rfl⟩ := trodVars_none hV
  obtain ⟨a0, len0, cap0, rfl⟩ := okWide_slice Try.underlying22 (hval 0 22 v0 rfl rfl)
  have k0 := h0
  have lt0 : ∀ x ∈ p0, x.block < W.heap.size := by obtain ⟨m, hm⟩ := k0; exact DataW.trod_lt m _ _ _ hm
  obtain ⟨hm0, xs0, hl0, hS0, hg0⟩ : len0 ≤ maxLen ∧ ∃ xs : List Int, xs.length = len0 ∧ Src W 1 a0 len0 cap0 (xs.flatMap encI) ∧ ∀ b ∈ xs, goodI b := by
    obtain ⟨fuel, hf⟩ := h0
    exact open_rows encI goodI 1 Try.underlying22 (by kernel_rfl) (fun _ => rfl) (fun n cs y h _ => int_el h) (by simpa [Value.cells] using hf)
  obtain ⟨a1, rfl, rfl, rfl, w1⟩ := open_int Try.underlying3 (hval 1 3 v1 rfl rfl) h1
  clear hA0 hval0
  refine (walk a0 len0 cap0 xs0 a1 W hl0 hm0 hS0 hg0 w1).mono fun e W' ⟨he, bel⟩ => ?_
  subst he
  exact ⟨_, rfl, _, _, _, [], _, [], hW', trodAll_mk1 (shut_bool Try.underlying4 _), (trodAll_cons_mk (Below.trod laidOut (by kernel_rfl) (of_decide_eq_true (by kernel_rfl)) k0 bel lt0) (trodAll_cons_mk (shut_int Try.underlying3 w1) trodAll_mk0)), rfl, bel.frame _, fun h => by cases h⟩

theorem over : Rows.huffLengthsRow.holds Try.pinned (OpenSpec.ofChange Rows.huffLengthsSpec) :=
  OpenClaim.holds_of_wide 7 Try.f7 rfl rfl rfl rfl rfl rfl rfl ⟨rfl, rfl, rfl, rfl, rfl⟩ rfl rfl rfl rfl rfl (by kernel_rfl) Try.func7 (by kernel_rfl)
    (of_decide_eq_true (by kernel_rfl)) (by unfold Func.isWrapper; first | (rw [if_pos (by decide +kernel)]; kernel_rfl) | (rw [if_neg (by decide +kernel)]; exact ⟨rfl, rfl⟩))
    (fun os started H enc _ => lifted os started H enc)

theorem proved : Rows.HuffLengthsSaid := over
#print axioms proved
end Go.Proofs.Ytkhhiaggmncehaa.hlengths
