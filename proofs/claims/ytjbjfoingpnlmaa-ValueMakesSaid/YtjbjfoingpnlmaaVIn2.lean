/- The library's insertion sort over a row of pairs. -/
import Derived.Test.YtjbjfoingpnlmaaVIns
namespace Go.Proofs.Ytjbjfoingpnlmaa
open Go.RowKit
set_option linter.unusedVariables false
set_option linter.unusedSimpArgs false

/-- A contract that leaves the world alone but for draws, inside a region that draws. -/
theorem quiet_draw {P : Program} {f : FuncId} {args : Array Value} {w : World} {n : Nat} {v : Value}
    (h : Calls P f args (w.drewN n) fun e w' => e = .returned v ∧ ∃ m, w' = (w.drewN n).drewN m) : Calls P f args (w.drewN n) fun e w' => e = .returned v ∧ ∃ m, w' = w.drewN m :=
  h.mono fun e w' k => ⟨k.1, by obtain ⟨m, hm⟩ := k.2; exact ⟨n + m, by rw [hm, World.drewN_drewN]⟩⟩
theorem cmpS_neg (a b : ByteArray) : decide (cmpS a b < 0) = Op.bytesLess a.toList b.toList := by
  cases h : Op.bytesLess a.toList b.toList with
  | true => rw [show cmpS a b = -1 from by unfold cmpS; rw [if_pos h]]; rfl
  | false =>
    have h2 : ¬ cmpS a b < 0 := by
      unfold cmpS
      rw [if_neg (by rw [h]; decide)]
      split <;> decide
    simpa using h2

set_option maxHeartbeats 4000000 in
set_option maxRecDepth 100000 in
theorem insP_any (g b off M gs cap : Nat) (S : Nat → ByteArray) (w0 : World) (eg : ∀ args w, (callFunc g args).run Try.prog w = .ok (.enter g args) w) (hcmp : CmpP g b off S M gs w0)
    (d : List Nat) (w : World) (hL : d.length ≤ 1000) (hM : ∀ x ∈ d, x < M) (hR : PRow w gs cap b off d) (hch : Chg (fun i => i = gs) w0 w) :
    Calls Try.prog 67 #[.slice (some ⟨gs, 0, none⟩) d.length cap, .int .i64 0, .int .i64 d.length, .func (.func g) #[] #[]] w fun e w' => e = .returned (.tuple #[]) ∧ PRow w' gs cap b off (sortR S d).reverse ∧ Chg (fun i => i = gs) w w' := by
  have HR := keepf hR
  have HCH := keepf hch
  have HM := keepf hM
  have HCMP := keepf hcmp
  clear hR hch hM hcmp
  obtain ⟨N, hN⟩ : ∃ N, N = d.length := ⟨_, rfl⟩
  have HN := keepf hN
  rw [← hN] at hL ⊢
  clear hN
  go_enter Try.func67, Try.ntmps67
  go_wp2_with fail
  go_loopw [8] (fun v wr => ∃ i : Nat, 1 ≤ i ∧ i ≤ N + 1 ∧ v = .int .i64 i ∧ Hid (PRow wr gs cap b off ((sortR S (d.take i)).reverse ++ d.drop i)) ∧ Hid (Chg (fun i => i = gs) w wr)) (fun v _ => N + 1 - (intOf v).toNat)
  case atStart =>
    refine ⟨1, by omega, by omega, by go_num, ?_, Chg.refl _ _⟩
    show PRow _ _ _ _ _ _
    have e : (sortR S (d.take 1)).reverse ++ d.drop 1 = d := by
      cases d with
      | nil => rfl
      | cons x d => rfl
    rw [e]
    exact HR.out
  case round =>
    obtain ⟨i, hi1, hi2, rfl, HRw, HCw⟩ := hrel
    by_cases hlt : i < N
    · obtain ⟨x, hx⟩ : ∃ x, d[i]? = some x := ⟨_, List.getElem?_eq_getElem (by have := HN.out; omega)⟩
      have HX := keepf hx
      have HXM := keepf (HM.out x (List.mem_of_getElem? hx))
      have hdr : d.drop i = x :: d.drop (i + 1) := by
        have h1 : i < d.length := (List.getElem?_eq_some_iff.1 hx).1
        rw [List.drop_eq_getElem_cons h1]
        congr 1
        rw [List.getElem?_eq_getElem h1] at hx
        exact Option.some.inj hx
      have htk : d.take (i + 1) = d.take i ++ [x] := by rw [List.take_add_one, hx]; rfl
      have HP : Hid (∀ p ∈ sortR S (d.take i), p < M) := fun p hp => HM.out p (List.mem_of_mem_take (sortR_mem hp))
      have hPl : (sortR S (d.take i)).length = i := by rw [sortR_len, List.length_take]; have := HN.out; omega
      have hst := Way.start S x (sortR S (d.take i)) (d.drop (i + 1))
      rw [hPl, ← hdr] at hst
      have HST := keepf hst
      have HFIN : Hid (∀ L, L = (insR S x (sortR S (d.take i))).reverse ++ d.drop (i + 1) → L = (sortR S (d.take (i + 1))).reverse ++ d.drop (i + 1)) := fun L h => by rw [h, htk, sortR_snoc]
      obtain ⟨PP, hPP⟩ : ∃ PP, PP = sortR S (d.take i) := ⟨_, rfl⟩
      rw [← hPP] at HST HP HFIN
      have HRw2 := keepf (show PRow wr gs cap b off (PP.reverse ++ d.drop i) from by rw [hPP]; exact HRw.out)
      clear hx hdr htk hPl hst hPP HRw
      go_wp2_with fail
      go_loopw [9] (fun v wr2 => ∃ (j : Nat) (d2 U T : List Nat), j ≤ i ∧ v = .int .i64 j ∧ Hid (Way S x PP (d.drop (i + 1)) d2 j U T) ∧ Hid (PRow wr2 gs cap b off d2 ∧ d2.length = N) ∧ Hid (Chg (fun i => i = gs) w wr2)) (fun v _ => (intOf v).toNat)
      case atStart =>
        refine ⟨i, _, [], PP, Nat.le_refl _, rfl, HST, ⟨HRw2.out, ?_⟩, HCw⟩
        have h1 := HST.out.jl
        have h2 := HN.out
        rw [List.length_append, List.length_reverse, List.length_drop]
        omega
      case round =>
        obtain ⟨j, d2, U, T, hj2, rfl, HW, HR2, HC2⟩ := hrel
        cases T with
        | nil =>
          obtain rfl : j = 0 := HW.out.jl
          have HE := keepf (HFIN.out _ (HW.out.stop (.inl rfl)))
          have dd : decide ((0 : Int) < 0) = false := by decide
          go_upto_region 4 with fail
          go_quiet (fail)
          go_wp2_with fail
          go_roundw
          case rel => exact ⟨i + 1, by omega, by omega, by go_num, by show PRow _ _ _ _ _ _; rw [← HE.out]; exact HR2.out.1.drewN nq, HC2.out.drewN nq⟩
          case measure => simp [intOf]; omega
        | cons p T =>
          obtain ⟨j', rfl⟩ : ∃ j', j = j' + 1 := ⟨T.length, by have := HW.out.jl; rw [List.length_cons] at this; exact this⟩
          obtain ⟨h1, h2, h3⟩ := HW.out.at_
          have HPM := keepf (HP.out p (by rw [← HW.out.parts]; simp))
          have k1 := HR2.out.1.cell h1
          have k2 := HR2.out.1.cell h2
          have hl2 := HR2.out.2
          obtain ⟨j, hj⟩ : ∃ j, j = j' + 1 := ⟨_, rfl⟩
          rw [← hj] at k1 hj2 ⊢
          have e1 : ((j : Int) - 1) = (j' : Int) := by omega
          have b1 : (j : Int) < N := by omega
          have b2 : (j' : Int) < N := by omega
          have b3 : (0 : Int) ≤ (j : Int) := by omega
          have hja : decide ((0 : Int) < (j : Int)) = true := by simp; omega
          have hja' : decide (0 < j) = true := by simp; omega
          have hcl := keepf (fun n => quiet_draw (n := n) (HCMP.out x p (wr.drewN n) HXM.out HPM.out ((HCH.out.trans HC2.out (fun _ _ h => h)).drewN n)))
          obtain ⟨cv, hcv⟩ : ∃ cv, cv = cmpS (S x) (S p) := ⟨_, rfl⟩
          have hcd : decide (cv < 0) = Op.bytesLess (S x).toList (S p).toList := by rw [hcv, cmpS_neg]
          rw [← hcv] at hcl
          unfold pcell at k1 k2 hcl
          have HJ := keepf hj
          clear hcv hj h1 h2 h3
          cases hb : Op.bytesLess (S x).toList (S p).toList with
          | true =>
            have hd : decide (cv < 0) = true := by rw [hcd, hb]
            have HSW := keepf (HW.out.step hb)
            clear hcd hb
            go_upto_region 4 with fail
            go_quiet ((go_at_fn g; exact hcl.out _))
            go_upto_region 6 with fail
            have hR3 := HR2.out.1.drewN nq
            have hC3 := HC2.out.drewN nq
            have k1' : (wr.drewN nq).cell? ⟨gs, j, none⟩ = some (.slice (some ⟨b, off + 2 * x * 4, none⟩) 2 2) := k1
            have k2' : (wr.drewN nq).cell? ⟨gs, j', none⟩ = some (.slice (some ⟨b, off + 2 * p * 4, none⟩) 2 2) := k2
            have f1' := hR3.frozen j
            have f2' := hR3.frozen j'
            clear k1 k2 hcl
            generalize wr.drewN nq = wq at *
            have HR3 := keepf hR3
            have HC3 := keepf hC3
            clear hR3 hC3
            go_region
            go_wp2_with fail
            go_roundw
            case rel =>
              have hsw := (HR3.out.set j p).set j' x
              refine ⟨j', _, U ++ [p], T, by omega, by go_num, HSW.out, ⟨?_, by rw [List.length_set, List.length_set]; exact hl2⟩, ?_⟩
              · have := HJ.out
                subst this
                exact hsw.drewN 1
              · exact ((HC3.out.setCell (p := ⟨gs, j, none⟩) (fun _ => rfl) _).setCell (p := ⟨gs, j', none⟩) (fun _ => rfl) _).drew
            case measure => simp [intOf]; have := HJ.out; omega
          | false =>
            have hd : decide (cv < 0) = false := by rw [hcd, hb]
            have HE := keepf (HFIN.out _ (HW.out.stop (.inr ⟨p, T, rfl, hb⟩)))
            clear hcd hb
            go_upto_region 4 with fail
            go_quiet ((go_at_fn g; exact hcl.out _))
            go_wp2_with fail
            go_roundw
            case rel => exact ⟨i + 1, by omega, by omega, by go_num, by show PRow _ _ _ _ _ _; rw [← HE.out]; exact HR2.out.1.drewN nq, HC2.out.drewN nq⟩
            case measure => simp [intOf]; omega
    · have he : (sortR S (d.take i)).reverse ++ d.drop i = (sortR S d).reverse := by
        rw [List.take_of_length_le (by have := HN.out; omega), List.drop_of_length_le (by have := HN.out; omega), List.append_nil]
      have HE := keepf he
      clear he
      go_wp2_with fail
      go_end0
      exact ⟨rfl, by rw [← HE.out]; exact HRw.out, HCw.out⟩
end Go.Proofs.Ytjbjfoingpnlmaa
