/- 'LzBack': for every input the statement's function returns true: any bytes' tokens may be, and are of these bytes. Conditions: none. -/
import Derived.Test.YtomkejeofcpchaaLzIn
import Derived.Test.YtomkejeofcpchaaRows
import Derived.OpenShut
import Derived.ChangeOld
import Derived.Lib.SmallJoins
namespace Go.Proofs.Ytomkejeofcpchaa.lzback
open Go.RowKit Go.ChangeShapes Go.WideShapes Go.ChangeAt
set_option linter.unusedVariables false

theorem own : ownKnob Try.prog.godebug = none := by kernel_rfl
theorem laidOut : laidOutB Try.prog = true := by kernel_rfl

theorem ok_expand {bs : List Nat} {T : List Tk} (h : TokensOk bs T) (hl : bs.length ≤ 16777216) : expandT T bs.length = .ok bs ∧ expandT T 16777216 = .ok bs := by
  refine ⟨?_, ?_⟩
  · unfold expandT
    rw [if_neg (by omega)]
    exact h.run
  · unfold expandT
    rw [if_neg (by decide)]
    exact runT_mono (by omega) _ _ _ h.run

set_option maxHeartbeats 4000000 in
set_option maxRecDepth 100000 in
theorem walk (A : Option Addr) (len cap : Nat) (bs : List Nat) (w : World)
    (hl : bs.length = len) (hm : len ≤ maxLen) (hS : Src w 1 A len cap (bs.flatMap encO)) (hg : ∀ p ∈ bs, p < 256) (hc : len ≤ cap) :
    Calls Try.prog 4 #[.slice A len cap] w fun e w' => e = .returned (.bool true) ∧ Below w.heap.size w w' := by
  rw [flat_bytesO] at hS
  subst hl
  by_cases hle : bs.length ≤ 3000
  · have d1 : decide ((3000 : Int) < bs.length) = false := by simp; omega
    have HS := keepf (fun (W : World) (h : Chg NoS w W) => Src.below (w0 := w) hS h)
    have HT := keepf (tokens_any bs A cap w hS (by omega) hc hg)
    obtain ⟨n, hn⟩ : ∃ n, n = bs.length := ⟨_, rfl⟩
    have HN := keepf hn
    rw [← hn] at HT HS hle d1 ⊢
    clear hS hm hg hc hn
    go_enter Try.func4, Try.ntmps4
    go_upto_region 4 with (go_at_call 12; refine HT.out.mono ?_; rintro e w1 ⟨T, A1, c1, rfl, hnew, hok, _⟩; have HNEW := keepf hnew; have HOK := keepf (hok (by have := HN.out; omega)); clear hnew hok)
    have hcount := HOK.out.count
    have hex := ok_expand HOK.out (by have := HN.out; omega)
    rw [← HN.out] at hcount hex
    have HSRC := keepf (fun (W : World) (h : Chg NoS w1 W) => (show Src W 3 A1 T.length c1 (kcells T) from Src.below (w0 := w1) (src_own HNEW.out.1) h))
    have HCK := keepf (show Calls Try.prog 11 #[.slice A1 T.length c1] w1 fun e w' => e = .returned (.int .i64 0) ∧ Chg NoS w1 w' from (checkt_any T A1 c1 w1 (HSRC.out _ (Chg.refl _ _)) (by unfold maxLen; omega)).mono fun e w' h => by rw [hex.2] at h; exact h)
    have HBK := keepf (fun (W : World) (h : Chg NoS w1 W) => back_any T A1 c1 W (HSRC.out W h) (by omega))
    have HRX := keepf (fun (W : World) (B : Option Addr) (cB : Nat) (hB : Src W 3 B T.length cB (kcells T)) => show Calls Try.prog 10 #[.slice B T.length cB, .int .i64 (n : Nat)] W fun e w' => ∃ A c, e = .returned (.tuple #[.slice A n c, .int .i64 0]) ∧ NewB W bs A c w' from
      (rexpand_any T B cB n W hB (by unfold maxLen; omega)).mono fun e w' ⟨A, c, h1, h2⟩ => by
        rw [hex.1] at h1 h2
        exact ⟨A, c, by rw [h1, HN.out]; rfl, h2⟩)
    have HPX := keepf (fun (W : World) (h : Chg NoS w1 W) => show Calls Try.prog 8 #[.slice A1 T.length c1, .int .i64 (n : Nat)] W fun e w' => ∃ A c, e = .returned (.tuple #[.slice A n c, .int .i64 0]) ∧ NewB W bs A c w' from
      (expand_any T A1 c1 n W (HSRC.out W h) (by unfold maxLen; omega)).mono fun e w' ⟨A, c, h1, h2⟩ => by
        rw [hex.1] at h1 h2
        exact ⟨A, c, by rw [h1, HN.out]; rfl, h2⟩)
    have HC1 := keepf HNEW.out.2.1
    obtain ⟨m, hm⟩ : ∃ m, m = T.length := ⟨_, rfl⟩
    rw [← hm] at hcount HCK HBK HRX HPX ⊢
    have d2 : decide ((n : Int) < m) = false := by simp; omega
    have d2' : decide (n < m) = false := by simp; omega
    clear hex hm HT
    go_upto_region 8 with (first
      | (go_at_call 11; refine HCK.out.mono ?_; rintro e w2 ⟨rfl, hc2⟩; have HC2 := keepf hc2; clear hc2)
      | (go_at_call 13; refine (HBK.out _ HC2.out).mono ?_; rintro e w3 ⟨A3, c3, rfl, hs3, hc3⟩; have HC3 := keepf (HC2.out.trans hc3 (fun _ _ h => h)); have HS3 := keepf hs3; clear hc3 hs3)
      | (go_at_call 10; refine (HRX.out _ _ _ HS3.out).mono ?_; rintro e w4 ⟨A4, c4, rfl, hb4⟩; have HB4 := keepf hb4; have HC4 := keepf (HC3.out.trans hb4.2.1 (fun _ _ h => h)); clear hb4)
      | (go_at_call 8; refine (HPX.out _ HC4.out).mono ?_; rintro e w5 ⟨A5, c5, rfl, hb5⟩; have HB5 := keepf hb5; have HC5 := keepf (HC4.out.trans hb5.2.1 (fun _ _ h => h)); clear hb5))
    have hcv4 := convert_bytes (Src.below (w0 := w4) (src_own HB4.out.1) HB5.out.2.1)
    have hcv5 := convert_bytes (src_own HB5.out.1)
    have hcv0 := convert_bytes (HS.out _ (HC1.out.trans HC5.out (fun _ _ h => h)))
    rw [← HN.out] at hcv4 hcv5
    obtain ⟨s, hs⟩ : ∃ s, s = ostr bs := ⟨_, rfl⟩
    rw [← hs] at hcv4 hcv5 hcv0
    clear hs
    go_wp2_with (go_at_call 7; refine (works_any6 _).mono ?_; rintro e wz ⟨rfl, hcz⟩; have HCz := keepf hcz; clear hcz)
    go_ret
    exact ⟨rfl, ((HC1.out.trans HC5.out (fun _ _ h => h)).trans HCz.out (fun _ _ h => h)).no_below⟩
  · have d1 : decide ((3000 : Int) < bs.length) = true := by simp; omega
    have d1' : decide (3000 < bs.length) = true := by simp; omega
    unfold maxLen at hm
    go_enter Try.func4, Try.ntmps4
    go_wp2_with (go_at_call 7; refine (works_any6 _).mono ?_; rintro e wz ⟨rfl, hcz⟩; have HCz := keepf hcz; clear hcz)
    go_ret
    exact ⟨rfl, HCz.out.no_below⟩


set_option maxRecDepth 100000 in
theorem lifted (os : Os) (started : os.Started) (H : Type) (enc : TypeId × Value → H) :
    ReturnsInHanded {} Try.checked os 4 .any (Rows.lzBackSpec.pre6 enc Try.prog Try.f4 Rows.lzBackRow.domain false) (Rows.lzBackSpec.post enc Try.prog Try.f4 false true false false) := by
  refine returnsInHanded_of_change (C := Try.checked) own started (by kernel_rfl) Try.func4
    (ChangeSpec.witness6 (enc := enc) (C := Try.checked) false ⟨#[], #[.slice none 0 0], []⟩ 8 (by kernel_rfl) (by kernel_rfl) (by kernel_rfl) (by kernel_rfl)) ?_
  intro W base args ds gs before hval0 hW hcnd _
  have hval : ∀ (j : Nat) t v, Try.f4.params[j]? = some t → args[j]? = some v → Value.okWide Try.prog W .any base t v := hval0
  have hW' := hW
  obtain ⟨p, q, hA0, hV, rfl, hfz, hnd⟩ := hW
  have hA : DataW.TrodAll enc Try.prog W 0 (fun _ => true) true Try.f4.params.toList args.toList ds p := hA0
  rw [Try.params4] at hA hval
  obtain ⟨v0, vs0, d0, ds0, p0, q0, hargs, rfl, rfl, h0, r0⟩ := trodAll_cons hA
  obtain ⟨rfl, rfl, rfl⟩ := trodAll_nil r0
  obtain rfl : args = #[v0] := by cases args; simp_all
  obtain ⟨rfl, rfl⟩ := trodVars_none hV
  obtain ⟨a0, len0, cap0, rfl⟩ := okWide_slice Try.underlying24 (hval 0 24 v0 rfl rfl)
  have k0 := h0
  have lt0 : ∀ x ∈ p0, x.block < W.heap.size := by obtain ⟨m, hm⟩ := k0; exact DataW.trod_lt m _ _ _ hm
  obtain ⟨hm0, xs0, hl0, hS0, hg0⟩ : len0 ≤ maxLen ∧ ∃ xs : List Nat, xs.length = len0 ∧ Src W 1 a0 len0 cap0 (xs.flatMap encO) ∧ ∀ b ∈ xs, (fun p : Nat => p < 256) b := by
    obtain ⟨fuel, hf⟩ := h0
    exact open_rows encO (fun p : Nat => p < 256) 1 Try.underlying24 (by kernel_rfl) (fun _ => rfl) (fun n cs y h _ => byte_elO h) (by simpa [Value.cells] using hf)
  have hc0 : len0 ≤ cap0 := by
    obtain ⟨fuel, hf⟩ := h0
    exact open_capO Try.underlying24 (by simpa [Value.cells] using hf)
  clear hA0 hval0
  refine (walk a0 len0 cap0 xs0 W hl0 hm0 hS0 hg0 hc0).mono fun e W' ⟨he, bel⟩ => ?_
  subst he
  exact ⟨_, rfl, _, _, _, [], _, [], hW', trodAll_mk1 (shut_bool Try.underlying4 _), (trodAll_cons_mk (Below.trod laidOut (by kernel_rfl) (of_decide_eq_true (by kernel_rfl)) k0 bel lt0) trodAll_mk0), rfl, bel.frame _, fun h => by cases h⟩

theorem over : Rows.lzBackRow.holds Try.pinned (OpenSpec.ofChange Rows.lzBackSpec) :=
  OpenClaim.holds_of_wide 4 Try.f4 rfl rfl rfl rfl rfl rfl rfl ⟨rfl, rfl, rfl, rfl, rfl⟩ rfl rfl rfl rfl rfl (by kernel_rfl) Try.func4 (by kernel_rfl)
    (of_decide_eq_true (by kernel_rfl)) (by unfold Func.isWrapper; first | (rw [if_pos (by decide +kernel)]; kernel_rfl) | (rw [if_neg (by decide +kernel)]; exact ⟨rfl, rfl⟩))
    (fun os started H enc _ => lifted os started H enc)

theorem proved : Rows.LzBackSaid := over
#print axioms proved
end Go.Proofs.Ytomkejeofcpchaa.lzback
