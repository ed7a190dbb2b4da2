/- 'ZlibCut': for every input the statement's function returns true: of packed bytes that end too early there is an error, always. Conditions: none. -/
import Derived.Test.YtmmilchmnimjoaaGreatN33
import Derived.Test.YtmmilchmnimjoaaGreatN39
import Derived.Test.YtmmilchmnimjoaaGreatRows
import Derived.OpenShut
import Derived.ChangeOld
import Derived.Lib.SmallJoins
import Derived.BigQuiet
namespace Go.Proofs.YtmmilchmnimjoaaGreat.zcut
open Go.RowKit Go.ChangeShapes Go.WideShapes Go.ChangeAt
set_option linter.unusedVariables false
theorem own : ownKnob Tryz.prog.godebug = none := by kernel_rfl
theorem laidOut : laidOutB Tryz.prog = true := by kernel_rfl
set_option maxHeartbeats 4000000 in
set_option maxRecDepth 100000 in
theorem walk (A : Option Addr) (len cap : Nat) (bs : List Nat) (z a : Int) (w : World) (hl : bs.length = len) (hm : len ≤ maxLen) (hS : Src w 1 A len cap (bs.flatMap encU)) (hg : ∀ b ∈ bs, b < 256) (hc : len ≤ cap) (wz : (Lit.int .u8 z).wf = true) (wa : (Lit.int .u16 a).wf = true) :
    Calls Tryz.prog 6 #[.slice A len cap, .int .u8 z, .int .u16 a] w fun e w' => e = .returned (.bool true) ∧ Below w.heap.size w w' := by
  have bz := bounds_u8 wz
  have ba := bounds_u16 wa
  unfold maxLen at hm
  rw [flat_bytesU] at hS
  subst hl
  by_cases hle : bs.length ≤ 1500
  · have d1 : decide ((1500 : Int) < bs.length) = false := by simp; omega
    obtain ⟨z, rfl⟩ := Int.eq_ofNat_of_zero_le bz.1
    obtain ⟨a, rfl⟩ := Int.eq_ofNat_of_zero_le ba.1
    obtain ⟨k, hk⟩ : ∃ k, k = z % 4 := ⟨_, rfl⟩
    have ek : (z : Int) % 4 = (k : Int) := by omega
    have HP := keepf (zpack_ok bs A cap k w hS hc hg hle (by omega))
    have HG := keepf hg
    have HLE := keepf hle
    have hk3 : k ≤ 3 := by omega
    obtain ⟨n, hn⟩ : ∃ n, n = bs.length := ⟨_, rfl⟩
    have HN := keepf hn
    rw [← hn] at d1 HP hm hle ⊢
    clear hS hg hn hk wz wa
    go_enter Tryz.func6, Tryz.ntmps6
    go_upto_region 4 with (go_at_call 14; refine HP.out.mono ?_; rintro e w2 ⟨L, A2, c2, p, hp, rfl, hP, ho2, hc2, _⟩; have HPN := keepf hp; have HPK := keepf hP; have HO2 := keepf ho2; have HC2 := keepf hc2; clear hp hP ho2 hc2)
    have hp6 := zpk_len L bs
    have hsm := zpk_small HPK.out HLE.out
    have hcap := own_cap7 HO2.out
    rw [← HPN.out] at hp6 hsm
    have u1 : ((p : Int) == 0) = false := by simp; omega
    obtain ⟨m, hmm⟩ : ∃ m, m = a % p := ⟨_, rfl⟩
    have em : (a : Int) % (p : Int) = (m : Int) := by rw [hmm]; exact (Int.natCast_emod a p).symm
    have hmp : m < p := by rw [hmm]; exact Nat.mod_lt _ (by omega)
    have hto : ∀ W : World, (Instr.sliceAt 22 (.slice A2 p c2) none (some (.int .i64 (m : Nat))) none).run Tryz.prog W = .ok (.slice A2 m c2) W := fun W => toB A2 p c2 m (by omega) W
    have hlt : ((zpk L bs).take m).length = m := by rw [List.length_take, ← HPN.out]; omega
    have hU := zun_any ((zpk L bs).take m) A2 c2 bs.length w2 (by rw [hlt]; exact src_toU (src_own HO2.out) hcap (by omega)) (by rw [hlt]; omega) (fun x hx => zpk_lt L bs x (List.mem_of_mem_take hx)) (by omega) (by have := HLE.out; omega) (head_take L bs m)
    rw [hlt, ← HN.out] at hU
    have HU := keepf hU
    have HCT := keepf (fun (k : Int) (n2 : Nat) (out : List Nat) (h : UnIs ((zpk L bs).take m) n k n2 out) => un_cut (m := m) HPK.out HG.out (by rw [← HPN.out]; exact hmp) (by rw [← HN.out]; exact h))
    clear hU hlt hp6 hcap hmm
    have q1 : ¬ (p : Int) = 0 := by omega
    go_upto_region 7 with (go_at_call 8; refine HU.out.mono ?_; rintro e w3 ⟨A3, c3, m3, n3, k3, out3, hm3, rfl, hu3, hs3, hc3⟩; obtain ⟨rfl, hn3, rfl⟩ := HCT.out _ _ _ hu3; have HM3 := keepf hm3; have HN3 := keepf hn3; have HC3 := keepf (HC2.out.trans hc3 (fun _ _ e => e)); clear hm3 hn3 hu3 hs3 hc3)
    obtain rfl : n3 = 0 := HN3.out
    obtain rfl : m3 = 0 := HM3.out
    go_wp2_with (go_at_call 7; refine (works_any8 _).mono ?_; rintro e wx ⟨rfl, hcx⟩; have HCx := keepf (HC3.out.trans hcx (fun _ _ e => e)); clear hcx)
    go_ret
    exact ⟨rfl, HCx.out.no_below⟩
  · have d1 : decide ((1500 : Int) < bs.length) = true := by simp; omega
    obtain ⟨n, hn⟩ : ∃ n, n = bs.length := ⟨_, rfl⟩
    rw [← hn] at d1 hm ⊢
    clear hS hg hn wz wa bz ba hle
    go_enter Tryz.func6, Tryz.ntmps6
    go_wp2_with (go_at_call 7; refine (works_any8 _).mono ?_; rintro e wx ⟨rfl, hcx⟩; have HCx := keepf hcx; clear hcx)
    go_ret
    exact ⟨rfl, HCx.out.no_below⟩
set_option maxRecDepth 100000 in
theorem lifted (os : Os) (started : os.Started) (H : Type) (enc : TypeId × Value → H) :
    ReturnsInHanded {} Tryz.checked os 6 .any (Rows.zlibCutSpec.pre6 enc Tryz.prog Tryz.f6 Rows.zlibCutRow.domain false) (Rows.zlibCutSpec.post enc Tryz.prog Tryz.f6 false true false false) := by
  refine returnsInHanded_of_change (C := Tryz.checked) own started (by kernel_rfl) Tryz.func6
    (ChangeSpec.witness6 (enc := enc) (C := Tryz.checked) false ⟨#[], #[.slice none 0 0, .int .u8 0, .int .u16 0], []⟩ 8 (by kernel_rfl) (by kernel_rfl) (by kernel_rfl) (by kernel_rfl)) ?_
  intro W base args ds gs before hval0 hW hcnd _
  have hval : ∀ (j : Nat) t v, Tryz.f6.params[j]? = some t → args[j]? = some v → Value.okWide Tryz.prog W .any base t v := hval0
  have hW' := hW
  obtain ⟨p, q, hA0, hV, rfl, hfz, hnd⟩ := hW
  have hA : DataW.TrodAll enc Tryz.prog W 0 (fun _ => true) true Tryz.f6.params.toList args.toList ds p := hA0
  rw [Tryz.params6] at hA hval
  obtain ⟨v0, vs0, d0, ds0, p0, q0, hargs, rfl, rfl, h0, r0⟩ := trodAll_cons hA
  obtain ⟨v1, vs1, d1, ds1, p1, q1, rfl, rfl, rfl, h1, r1⟩ := trodAll_cons r0
  obtain ⟨v2, vs2, d2, ds2, p2, q2, rfl, rfl, rfl, h2, r2⟩ := trodAll_cons r1
  obtain ⟨rfl, rfl, rfl⟩ := trodAll_nil r2
  obtain rfl : args = #[v0, v1, v2] := by cases args; simp_all
  obtain ⟨rfl, rfl⟩ := trodVars_none hV
  obtain ⟨a0, len0, cap0, rfl⟩ := okWide_slice Tryz.underlying22 (hval 0 22 v0 rfl rfl)
  have k0 := h0
  have lt0 : ∀ x ∈ p0, x.block < W.heap.size := by obtain ⟨m, hm⟩ := k0; exact DataW.trod_lt m _ _ _ hm
  obtain ⟨hm0, xs0, hl0, hS0, hg0⟩ : len0 ≤ maxLen ∧ ∃ xs : List Nat, xs.length = len0 ∧ Src W 1 a0 len0 cap0 (xs.flatMap encU) ∧ ∀ b ∈ xs, (fun p : Nat => p < 256) b := by
    obtain ⟨fuel, hf⟩ := h0
    exact open_rows encU (fun p : Nat => p < 256) 1 Tryz.underlying22 (by kernel_rfl) (fun _ => rfl) (fun n cs y h _ => byte_elU h) (by simpa [Value.cells] using hf)
  have hc0 : len0 ≤ cap0 := by
    obtain ⟨fuel, hf⟩ := h0
    exact open_cap Tryz.underlying22 (by simpa [Value.cells] using hf)
  obtain ⟨a1, rfl, rfl, rfl, w1⟩ := open_int Tryz.underlying5 (hval 1 5 v1 rfl rfl) h1
  obtain ⟨a2, rfl, rfl, rfl, w2⟩ := open_int Tryz.underlying37 (hval 2 37 v2 rfl rfl) h2
  clear hA0 hval0
  refine (walk a0 len0 cap0 xs0 a1 a2 W hl0 hm0 hS0 hg0 hc0 w1 w2).mono fun e W' ⟨he, bel⟩ => ?_
  subst he
  exact ⟨_, rfl, _, _, _, [], _, [], hW', trodAll_mk1 (shut_bool Tryz.underlying4 _), (trodAll_cons_mk (Below.trod laidOut (by kernel_rfl) (of_decide_eq_true (by kernel_rfl)) k0 bel lt0) (trodAll_cons_mk (shut_int Tryz.underlying5 w1) (trodAll_cons_mk (shut_int Tryz.underlying37 w2) trodAll_mk0))), rfl, bel.frame _, fun h => by cases h⟩
theorem over : Rows.zlibCutRow.holds Tryz.pinned (OpenSpec.ofChange Rows.zlibCutSpec) :=
  OpenClaim.holds_of_wide 6 Tryz.f6 rfl rfl rfl rfl rfl rfl rfl ⟨rfl, rfl, rfl, rfl, rfl⟩ rfl rfl rfl rfl rfl (by kernel_rfl) Tryz.func6 (by kernel_rfl)
    (of_decide_eq_true (by kernel_rfl)) (by unfold Func.isWrapper; first | (rw [if_pos (by decide +kernel)]; kernel_rfl) | (rw [if_neg (by decide +kernel)]; exact ⟨rfl, rfl⟩))
    (fun os started H enc _ => lifted os started H enc)
theorem proved : Rows.ZlibCutSaid := over
#print axioms proved
end Go.Proofs.YtmmilchmnimjoaaGreat.zcut
