/- The document's own reading of a text in hex. -/
import Derived.Test.YtmmehaghcfdjdaaRLx3
import Derived.Deep.RegionLaw
import Derived.BigRegion
namespace Go.Proofs.Ytmmehaghcfdjdaa
open Go.RowKit
set_option linter.unusedVariables false
set_option linter.unusedSimpArgs false

theorem pairs_odd : ∀ ds : List Nat, ds.length % 2 = 1 → pairs (ds ++ [0]) = pairs ds
  | [], h => by simp at h
  | [a], _ => rfl
  | a :: b :: l, h => by
    have := pairs_odd l (by simp only [List.length_cons] at h; omega)
    rw [List.cons_append, List.cons_append, pairs, pairs, this]
theorem hexI_no {c : Nat} (h : hexD c = none) : hexI c = -1 := by unfold hexI; rw [h]
theorem hexI_some {c d : Nat} (h : hexD c = some d) : hexI c = (d : Nat) := by unfold hexI; rw [h]
def HxIn (last : Bool) (p : Nat) (bs : List Nat) (w wr : World) (k m c2 : Nat) (ds : List Nat) (A2 : Option Addr) : Prop :=
  m = ds.length ∧ GR 3 w wr (dcells ds) m A2 c2 ∧ (∀ d ∈ ds, d < 16) ∧ hexO last [] p (bs.drop p) = hexO last ds k (bs.drop k)
set_option maxHeartbeats 4000000 in
set_option maxRecDepth 100000 in
theorem rhexes_in (bs : List Nat) (A : Option Addr) (c p : Nat) (last : Bool) (w : World) (hS : Src w 1 A bs.length c (lcells bs)) (hl : bs.length ≤ 1000000) (hc : bs.length ≤ c) (hp : p ≤ bs.length) (hb : ∀ x ∈ bs, x < 256) :
    Calls Try.prog 22 #[.slice A bs.length c, .int .i64 (p : Nat), .bool last] w (TxTo w (hexO last [] p (bs.drop p))) := by
  have HS := keepf hS
  have HB := keepf hb
  obtain ⟨n, hn⟩ : ∃ n, n = bs.length := ⟨_, rfl⟩
  have HN := keepf hn
  rw [← hn] at hl hp hc ⊢
  clear hS hn hb
  go_enter Try.func22, Try.ntmps22
  go_upto_region 2 with fail
  go_loopw [1, 9] (fun vp vo wr => ∃ (k m c2 : Nat) (ds : List Nat) (A2 : Option Addr), k ≤ n ∧ m ≤ k ∧ vp = .int .i64 (k : Nat) ∧ vo = .slice A2 m c2 ∧ Hid (HxIn last p bs w wr k m c2 ds A2)) (fun vp _ _ => n - (intOf vp).toNat)
  case atStart => exact ⟨p, 0, 0, [], none, hp, by omega, rfl, rfl, keepf ⟨rfl, GR.start w, (fun d h => by cases h), rfl⟩⟩
  case round =>
    obtain ⟨k, m, c2, ds, A2, hk, hm, rfl, rfl, HI⟩ := hrel
    by_cases h1 : k < n
    · obtain ⟨x, hx, hd⟩ := drop_at (bs := bs) (k := k) (by rw [← HN.out]; exact h1)
      obtain ⟨b, off, rfl, hcell⟩ := lcell HS.out HI.out.2.1.chg (by rw [← HN.out]; omega)
      have c0 := hcell k x hx
      have hx256 : x < 256 := HB.out x (List.mem_of_getElem? hx)
      have HR := keepf (show hexO last [] p (bs.drop p) = hexO last ds k (x :: bs.drop (k + 1)) from by rw [← hd]; exact HI.out.2.2.2)
      have i1 : (k : Int) < n := by omega
      have HSP := keepf (fun W => rspace_any x W)
      have HHX := keepf (fun W => rhex_any x hx256 W)
      clear hcell hx hd
      by_cases h62 : x = 62
      · subst h62
        have HRX := keepf (show hexO last ds k (62 :: bs.drop (k + 1)) = (0, pairs ds, k + 1) from by rw [hexO, if_pos rfl])
        by_cases hodd : m % 2 = 1
        · have o1 : ((m : Int) % 2 == 1) = true := by simp; omega
          have o2' : ((m : Int) % 2 != 1) = false := by simp; omega
          have HPD := keepf (show pairs ds = pairs (ds ++ [0]) from (pairs_odd ds (by rw [← HI.out.1]; exact hodd)).symm)
          go_upto_region 10 with (at_builtin; refine app64 (w := w) (wr := wr) (out := ds) (y := 0) rfl (.tmp 29) (.tmp 30) rfl rfl rfl HI.out.2.1 (by omega) ((Chg.refl _ _).alloc _) (by simp) ?_; intro A3 c3 w5 hg3; have HGD := keepf hg3; clear hg3)
          obtain ⟨D, hD⟩ : ∃ D, D = ds ++ [0] := ⟨_, rfl⟩
          obtain ⟨M, hM⟩ : ∃ M, M = m + 1 := ⟨_, rfl⟩
          have HM := keepf (show M = D.length from by rw [hD, hM, List.length_append, ← HI.out.1]; rfl)
          have HDL := keepf (show ∀ d ∈ D, d < 16 from by rw [hD]; intro d h; rcases List.mem_append.1 h with h | h; exact HI.out.2.2.1 d h; rw [List.mem_singleton] at h; omega)
          rw [← hD, ← hM] at HGD
          rw [← hD] at HPD
          try rw [← hM]
          have e5 : (m : Int) + 1 = (M : Nat) := by omega
          try rw [e5]
          have HCW := keepf HGD.out.chg
          have hM2 : M % 2 = 0 := by omega
          have hM9 : M ≤ 1000001 := by omega
          clear hD hM o1 o2' hodd c0 e5
          go_loopw [11, 12] (fun vo vj wr2 => ∃ (j m2 c4 : Nat) (o2 : List Nat) (A4 : Option Addr), j ≤ M ∧ 2 * m2 = j ∧ vo = .slice A4 m2 c4 ∧ vj = .int .i64 (j : Nat) ∧ Hid (m2 = o2.length ∧ GR 5 w5 wr2 (lcells o2) m2 A4 c4 ∧ pairs D = o2 ++ pairs (D.drop j))) (fun _ vj _ => M - (intOf vj).toNat)
          case atStart => exact ⟨0, 0, 0, [], none, by omega, rfl, rfl, rfl, keepf ⟨rfl, GR.start w5, rfl⟩⟩
          case round =>
            obtain ⟨j, m2, c4, o2, A4, hj, hm2, rfl, rfl, HJ⟩ := hrel
            by_cases h7 : j < M
            · obtain ⟨x0, hx0, hd0⟩ := drop_at (bs := D) (k := j) (by rw [← HM.out]; exact h7)
              obtain ⟨x1, hx1, hd1⟩ := drop_at (bs := D) (k := j + 1) (by rw [← HM.out]; omega)
              obtain ⟨bd, offd, rfl, hdc⟩ := dcell (src_own HGD.out.own) HJ.out.2.1.chg (by rw [← HM.out]; omega)
              have q0 := hdc j x0 hx0
              have q1 := hdc (j + 1) x1 hx1
              have q2 := q1
              rw [show offd + (j + 1) = offd + j + 1 from by omega] at q2
              have l0 : x0 < 16 := HDL.out x0 (List.mem_of_getElem? hx0)
              have l1 : x1 < 16 := HDL.out x1 (List.mem_of_getElem? hx1)
              have i5 : (j : Int) < M := by omega
              have i6 : (j : Int) + 1 < M := by omega
              have i7 : j + 1 < M := by omega
              have HP := keepf (show pairs D = o2 ++ [16 * x0 + x1] ++ pairs (D.drop (j + 2)) from by rw [HJ.out.2.2, hd0, hd1, pairs, List.append_assoc]; rfl)
              have hw : IntKind.u8.wrap (16 * (x0 : Int) + (x1 : Int)) = ((16 * x0 + x1 : Nat) : Int) := by rw [IntKind.wrap_u8]; omega
              have s1 : IntKind.i64.wrap (16 * (x0 : Int)) = 16 * (x0 : Int) := by rw [IntKind.wrap_i64]; omega
              have s2 : IntKind.i64.wrap ((j : Int) + 1) = (j : Int) + 1 := by rw [IntKind.wrap_i64]; omega
              have s3 : IntKind.i64.wrap (16 * (x0 : Int) + (x1 : Int)) = 16 * (x0 : Int) + (x1 : Int) := by rw [IntKind.wrap_i64]; omega
              have i8 : (0 : Int) ≤ (j : Int) + 1 := by omega
              have i9 : ((j : Int) + 1).toNat = j + 1 := by omega
              clear hx0 hx1 hd0 hd1 hdc
              go_upto_region 12 with fail
              first
                | (go_loud (go_region_law (refine step8 (w := w5) (wr := wr) (out := o2) (y := 16 * x0 + x1) (B := wr.heap.size) (by rfl) (.tmp 38) (.tmp 51) (by rfl) (by rfl) (by rfl) HJ.out.2.1 (by omega) ((Chg.refl _ _).alloc _).drew (by simp) ?_; intro g6 c6 w6 hg6)))
                | fail "region"
              all_goals
                have HG6 := keepf hg6
                clear hg6
                go_wp2_with fail
                go_roundw
                case rel => exact ⟨j + 2, m2 + 1, c6, o2 ++ [16 * x0 + x1], some ⟨g6, 0, none⟩, by omega, by omega, rfl, by go_num, keepf ⟨by rw [List.length_append, ← HJ.out.1]; rfl, HG6.out, HP.out⟩⟩
                case measure => simp [intOf]; omega
            · have hjM : j = M := by omega
              have HP := keepf (show pairs D = o2 from by rw [HJ.out.2.2, hjM, List.drop_of_length_le (by rw [← HM.out]; exact Nat.le_refl _)]; simp [pairs])
              go_wp2_with fail
              go_ret3
              refine ⟨A4, c4, m2, by rw [HR.out, HRX.out, HPD.out, HP.out]; exact HJ.out.1, by rw [HR.out, HRX.out]; rfl, ?_⟩
              rw [HR.out, HRX.out, HPD.out, HP.out]
              exact HJ.out.2.1.back HCW.out
        · have o1 : ((m : Int) % 2 == 1) = false := by simp; omega
          have o2' : ((m : Int) % 2 != 1) = true := by simp; omega
          go_upto_region 10 with fail
          obtain ⟨w5, hw5⟩ : ∃ w5, w5 = wr := ⟨_, rfl⟩
          obtain ⟨D, hD⟩ : ∃ D, D = ds := ⟨_, rfl⟩
          obtain ⟨M, hM⟩ : ∃ M, M = m := ⟨_, rfl⟩
          have HPD := keepf (show pairs ds = pairs D from by rw [hD])
          have HM := keepf (show M = D.length from by rw [hD, hM]; exact HI.out.1)
          have HDL := keepf (show ∀ d ∈ D, d < 16 from by rw [hD]; exact HI.out.2.2.1)
          have HGD := keepf (show GR 3 w w5 (dcells D) M A2 c2 from by rw [hD, hM, hw5]; exact HI.out.2.1)
          rw [← hM, ← hw5]
          have HCW := keepf HGD.out.chg
          have hM2 : M % 2 = 0 := by omega
          have hM9 : M ≤ 1000001 := by omega
          clear o1 o2' hodd c0 hw5 hD hM
          go_loopw [11, 12] (fun vo vj wr2 => ∃ (j m2 c4 : Nat) (o2 : List Nat) (A4 : Option Addr), j ≤ M ∧ 2 * m2 = j ∧ vo = .slice A4 m2 c4 ∧ vj = .int .i64 (j : Nat) ∧ Hid (m2 = o2.length ∧ GR 5 w5 wr2 (lcells o2) m2 A4 c4 ∧ pairs D = o2 ++ pairs (D.drop j))) (fun _ vj _ => M - (intOf vj).toNat)
          case atStart => exact ⟨0, 0, 0, [], none, by omega, rfl, rfl, rfl, keepf ⟨rfl, GR.start w5, rfl⟩⟩
          case round =>
            obtain ⟨j, m2, c4, o2, A4, hj, hm2, rfl, rfl, HJ⟩ := hrel
            by_cases h7 : j < M
            · obtain ⟨x0, hx0, hd0⟩ := drop_at (bs := D) (k := j) (by rw [← HM.out]; exact h7)
              obtain ⟨x1, hx1, hd1⟩ := drop_at (bs := D) (k := j + 1) (by rw [← HM.out]; omega)
              obtain ⟨bd, offd, rfl, hdc⟩ := dcell (src_own HGD.out.own) HJ.out.2.1.chg (by rw [← HM.out]; omega)
              have q0 := hdc j x0 hx0
              have q1 := hdc (j + 1) x1 hx1
              have q2 := q1
              rw [show offd + (j + 1) = offd + j + 1 from by omega] at q2
              have l0 : x0 < 16 := HDL.out x0 (List.mem_of_getElem? hx0)
              have l1 : x1 < 16 := HDL.out x1 (List.mem_of_getElem? hx1)
              have i5 : (j : Int) < M := by omega
              have i6 : (j : Int) + 1 < M := by omega
              have i7 : j + 1 < M := by omega
              have HP := keepf (show pairs D = o2 ++ [16 * x0 + x1] ++ pairs (D.drop (j + 2)) from by rw [HJ.out.2.2, hd0, hd1, pairs, List.append_assoc]; rfl)
              have hw : IntKind.u8.wrap (16 * (x0 : Int) + (x1 : Int)) = ((16 * x0 + x1 : Nat) : Int) := by rw [IntKind.wrap_u8]; omega
              have s1 : IntKind.i64.wrap (16 * (x0 : Int)) = 16 * (x0 : Int) := by rw [IntKind.wrap_i64]; omega
              have s2 : IntKind.i64.wrap ((j : Int) + 1) = (j : Int) + 1 := by rw [IntKind.wrap_i64]; omega
              have s3 : IntKind.i64.wrap (16 * (x0 : Int) + (x1 : Int)) = 16 * (x0 : Int) + (x1 : Int) := by rw [IntKind.wrap_i64]; omega
              have i8 : (0 : Int) ≤ (j : Int) + 1 := by omega
              have i9 : ((j : Int) + 1).toNat = j + 1 := by omega
              clear hx0 hx1 hd0 hd1 hdc
              go_upto_region 12 with fail
              first
                | (go_loud (go_region_law (refine step8 (w := w5) (wr := wr) (out := o2) (y := 16 * x0 + x1) (B := wr.heap.size) (by rfl) (.tmp 38) (.tmp 51) (by rfl) (by rfl) (by rfl) HJ.out.2.1 (by omega) ((Chg.refl _ _).alloc _).drew (by simp) ?_; intro g6 c6 w6 hg6)))
                | fail "region"
              all_goals
                have HG6 := keepf hg6
                clear hg6
                go_wp2_with fail
                go_roundw
                case rel => exact ⟨j + 2, m2 + 1, c6, o2 ++ [16 * x0 + x1], some ⟨g6, 0, none⟩, by omega, by omega, rfl, by go_num, keepf ⟨by rw [List.length_append, ← HJ.out.1]; rfl, HG6.out, HP.out⟩⟩
                case measure => simp [intOf]; omega
            · have hjM : j = M := by omega
              have HP := keepf (show pairs D = o2 from by rw [HJ.out.2.2, hjM, List.drop_of_length_le (by rw [← HM.out]; exact Nat.le_refl _)]; simp [pairs])
              go_wp2_with fail
              go_ret3
              refine ⟨A4, c4, m2, by rw [HR.out, HRX.out, HPD.out, HP.out]; exact HJ.out.1, by rw [HR.out, HRX.out]; rfl, ?_⟩
              rw [HR.out, HRX.out, HPD.out, HP.out]
              exact HJ.out.2.1.back HCW.out
      have e1 : ((x : Int) == 62) = false := by simp; omega
      have e2 : ((x : Int) != 62) = true := by simp; omega
      by_cases hsp : isSp x = true
      · have HRX := keepf (show hexO last ds k (x :: bs.drop (k + 1)) = hexO last ds (k + 1) (bs.drop (k + 1)) from by rw [hexO, if_neg h62, if_pos hsp])
        rw [hsp] at HSP
        clear hsp h62
        go_wp2_with (go_at_call 14; refine (HSP.out _).mono ?_; rintro e w3 ⟨rfl, rfl⟩)
        go_roundw
        case rel => exact ⟨k + 1, m, c2, ds, A2, by omega, by omega, by go_num, rfl, keepf ⟨HI.out.1, HI.out.2.1, HI.out.2.2.1, by rw [HR.out, HRX.out]⟩⟩
        case measure => simp [intOf]; omega
      · rw [show isSp x = false from by simpa using hsp] at HSP
        cases hh : hexD x with
        | none =>
          have HRX := keepf (show hexO last ds k (x :: bs.drop (k + 1)) = (11, [], 0) from by rw [hexO, if_neg h62, if_neg hsp, hh])
          rw [hexI_no hh] at HHX
          clear hsp h62 hh
          go_wp2_with (first
            | (go_at_call 14; refine (HSP.out _).mono ?_; rintro e w3 ⟨rfl, rfl⟩)
            | (go_at_call 35; refine (HHX.out _).mono ?_; rintro e w3 ⟨rfl, rfl⟩))
          go_ret3
          exact TxTo.err (by rw [HR.out, HRX.out]) HI.out.2.1.chg
        | some d =>
          have HRX := keepf (show hexO last ds k (x :: bs.drop (k + 1)) = hexO last (ds ++ [d]) (k + 1) (bs.drop (k + 1)) from by rw [hexO, if_neg h62, if_neg hsp, hh])
          have hd16 := hexD_lt hh
          rw [hexI_some hh] at HHX
          clear hsp h62 hh
          go_wp2_with (first
            | (go_at_call 14; refine (HSP.out _).mono ?_; rintro e w3 ⟨rfl, rfl⟩)
            | (go_at_call 35; refine (HHX.out _).mono ?_; rintro e w3 ⟨rfl, rfl⟩)
            | (at_builtin; refine app64 (w := w) (wr := wr) (out := ds) (y := d) rfl (.tmp 60) (.tmp 63) rfl rfl rfl HI.out.2.1 (by omega) ((Chg.refl _ _).alloc _) (by simp) ?_; intro A3 c3 w5 hg3; have HG3 := keepf hg3; clear hg3))
          go_roundw
          case rel => exact ⟨k + 1, m + 1, c3, ds ++ [d], A3, by omega, by omega, by go_num, rfl, keepf ⟨by rw [List.length_append, ← HI.out.1]; rfl, HG3.out, by intro y h; rcases List.mem_append.1 h with h | h; exact HI.out.2.2.1 y h; rw [List.mem_singleton] at h; omega, by rw [HR.out, HRX.out]⟩⟩
          case measure => simp [intOf]; omega
    · obtain rfl : k = n := by omega
      have HC := keepf (fun W => rcut_any last W)
      have HT := keepf (show hexO last [] p (bs.drop p) = (cutE last, [], 0) from by rw [HI.out.2.2.2, List.drop_of_length_le (by rw [← HN.out]; exact Nat.le_refl _), hexO])
      go_wp2_with (go_at_call 36; refine (HC.out _).mono ?_; rintro e w' ⟨rfl, rfl⟩)
      go_ret3
      exact TxTo.err HT.out HI.out.2.1.chg
end Go.Proofs.Ytmmehaghcfdjdaa
