/- 'ZlibSees': for every input the statement's function returns true: of bytes packed by kind 0, of which one is changed, there is an error, or the same bytes come. Conditions: none. -/
import Derived.Test.YtmmilchmnimjoaaGreatN33
import Derived.Test.YtmmilchmnimjoaaGreatN39
import Derived.Test.YtmmilchmnimjoaaGreatRows
import Derived.OpenShut
import Derived.ChangeOld
import Derived.Lib.SmallJoins
import Derived.BigQuiet
namespace Go.Proofs.YtmmilchmnimjoaaGreat.zsees
open Go.RowKit Go.ChangeShapes Go.WideShapes Go.ChangeAt
set_option linter.unusedVariables false
theorem own : ownKnob Tryz.prog.godebug = none := by kernel_rfl
theorem laidOut : laidOutB Tryz.prog = true := by kernel_rfl
theorem ucells_set (l : List Nat) (k x : Nat) : (ucells l).set k (.int .u8 (x : Nat)) = ucells (l.set k x) := by
  unfold ucells
  rw [List.map_set]
set_option maxHeartbeats 1000000 in
set_option maxRecDepth 100000 in
theorem walk (A : Option Addr) (len cap : Nat) (bs : List Nat) (a x : Int) (w : World) (hl : bs.length = len) (hm : len ≤ maxLen) (hS : Src w 1 A len cap (bs.flatMap encU)) (hg : ∀ b ∈ bs, b < 256) (hc : len ≤ cap) (wa : (Lit.int .u16 a).wf = true) (wx : (Lit.int .u8 x).wf = true) :
    Calls Tryz.prog 5 #[.slice A len cap, .int .u16 a, .int .u8 x] w fun e w' => e = .returned (.bool true) ∧ Below w.heap.size w w' := by
  have bx := bounds_u8 wx
  have ba := bounds_u16 wa
  unfold maxLen at hm
  rw [flat_bytesU] at hS
  subst hl
  by_cases hle : bs.length ≤ 1500
  · have d1 : decide ((1500 : Int) < bs.length) = false := by simp; omega
    obtain ⟨x, rfl⟩ := Int.eq_ofNat_of_zero_le bx.1
    obtain ⟨a, rfl⟩ := Int.eq_ofNat_of_zero_le ba.1
    have HP := keepf (zpack_ok bs A cap 0 w hS hc hg hle (by omega))
    have HG := keepf hg
    have HLE := keepf hle
    have HS := keepf hS
    obtain ⟨n, hn⟩ : ∃ n, n = bs.length := ⟨_, rfl⟩
    have HN := keepf hn
    rw [← hn] at d1 HP HS hm hle hc ⊢
    clear hS hg hn wx wa
    go_enter Tryz.func5, Tryz.ntmps5
    go_upto_region 4 with (go_at_call 14; refine HP.out.mono ?_; rintro e w2 ⟨L, A2, c2, p, hp, rfl, hP, ho2, hc2, hnew⟩; have HPN := keepf hp; have HPK := keepf hP; have HO2 := keepf ho2; have HC2 := keepf hc2; have HNEW := keepf hnew; clear hp hP ho2 hc2 hnew)
    have hL : L = storedL true bs [] := by
      have h := HPK.out
      unfold Packed at h
      rw [if_neg (by decide)] at h
      cases h
      rfl
    subst hL
    have hpn : p = n + 11 := by
      have h1 := zpk_len (storedL true bs []) bs
      have h2 := st5_len bs
      rw [st5_bytes bs (by have := HLE.out; omega) HG.out] at h1
      have := HPN.out
      have := HN.out
      omega
    have u1 : ((p : Int) == (n : Int) + 11) = true := by simp; omega
    have u2 : ((p : Int) != (n : Int) + 11) = false := by simp; omega
    obtain ⟨i, hi⟩ : ∃ i, i = a % (n + 4) := ⟨_, rfl⟩
    have hi4 : i < n + 4 := by rw [hi]; exact Nat.mod_lt _ (by omega)
    have em : (a : Int) % ((n : Int) + 4) = (i : Int) := by rw [hi]; exact (Int.natCast_emod a (n + 4)).symm
    obtain ⟨kx, hkx⟩ : ∃ kx, kx = 7 + i := ⟨_, rfl⟩
    have e7 : (7 : Int) + (i : Int) = (kx : Int) := by omega
    have hkp : kx < p := by omega
    obtain ⟨g, cg, hA, hpc, _⟩ := own_form HO2.out (by omega)
    injection hA with hA h2 h3
    subst hA
    subst h3
    clear h2
    have hgn : w.heap.size ≤ g := HNEW.out _ rfl
    obtain ⟨y, hy⟩ : ∃ y, (zpk (storedL true bs []) bs)[kx]? = some y := ⟨_, List.getElem?_eq_getElem (by rw [← HPN.out]; exact hkp)⟩
    have hcy := HO2.out.cellAt kx (by omega)
    rw [ucells_get hy] at hcy
    have hfz := HO2.out.frozenAt kx
    have hset := ownSet HO2.out kx (.int .u8 (x : Nat))
    rw [ucells_set] at hset
    have hlset : ((zpk (storedL true bs []) bs).set kx x).length = p := by rw [List.length_set, ← HPN.out]
    have hU := fun (W : World) h => zun_any ((zpk (storedL true bs []) bs).set kx x) (some ⟨g, 0, none⟩) c2 bs.length W h (by rw [hlset]; exact hpc) (fun v hv => by rcases List.mem_or_eq_of_mem_set hv with h1 | h1; exact zpk_lt _ bs v h1; omega) (by omega) (by have := HLE.out; omega) (by rw [hkx]; exact head_set _ bs i x)
    rw [hlset, ← HN.out] at hU
    have HU := keepf (hU _ (src_own hset))
    have hsee := fun (k : Int) (n2 : Nat) (out : List Nat) (h : UnIs ((zpk (storedL true bs []) bs).set kx x) n k n2 out) => un_sees (i := i) (x := x) HG.out HLE.out (by rw [← HN.out]; exact hi4) (by omega) (by rw [← HN.out, ← hkx]; exact h)
    rw [← hkx, hy] at hsee
    have HSEE := keepf hsee
    have HST := keepf ((Chg.refl (fun j => j = g) w2).setCell (p := ⟨g, kx, none⟩) (fun _ => rfl) (.int .u8 (x : Nat)))
    have HC3 := keepf (HC2.out.trans HST.out (fun j h1 h2 => by omega))
    have hp2k : p ≤ 2000 := by omega
    have b0 : (0 : Int) ≤ kx := by omega
    have b1 : (kx : Int) < p := by omega
    have q1 : ¬ (n : Int) + 4 = 0 := by omega
    clear hset hlset hU hsee hi hkx hpc hy hpn hi4 hkp
    by_cases hxy : y = x
    · subst hxy
      have v1 : ((y : Int) == (y : Int)) = true := by simp
      go_upto_region 10 with (go_at_call 8; refine HU.out.mono ?_; rintro e w3 ⟨A3, c3, m3, n3, k3, out3, hm3, rfl, hu3, hs3, hc3⟩; have HSE := keepf (HSEE.out _ _ _ hu3); have HM3 := keepf hm3; have HS3 := keepf hs3; have HC4 := keepf (HC3.out.trans hc3 (fun _ _ e => e)); clear hm3 hu3 hs3 hc3)
      obtain rfl : k3 = 0 := HSE.out.1.2 (by simp)
      have hout : out3 = bs := HSE.out.2 rfl
      have hm3 : m3 = n := by rw [HM3.out, hout, HN.out]
      subst hm3
      have hs3 := HS3.out
      rw [hout] at hs3
      obtain ⟨s, hs⟩ : ∃ s, s = bstr bs := ⟨_, rfl⟩
      have hcv1 : Cs A3 m3 c3 s w3 := by rw [hs]; exact conv_src hs3
      have hcv2 : Cs A m3 cap s w3 := by rw [hs]; exact conv_src (Src.below (w0 := w) HS.out HC4.out)
      clear hs hs3 hout
      go_wp2_with (go_at_call 7; refine (works_any8 _).mono ?_; rintro e wz ⟨rfl, hcz⟩; have HCz := keepf (HC4.out.trans hcz (fun _ _ e => e)); clear hcz)
      go_ret
      exact ⟨rfl, HCz.out.no_below⟩
    · have v1 : ((y : Int) == (x : Int)) = false := by simp; omega
      go_upto_region 10 with (go_at_call 8; refine HU.out.mono ?_; rintro e w3 ⟨A3, c3, m3, n3, k3, out3, hm3, rfl, hu3, hs3, hc3⟩; have HSE := keepf (HSEE.out _ _ _ hu3); have HC4 := keepf (HC3.out.trans hc3 (fun _ _ e => e)); clear hm3 hu3 hs3 hc3)
      have hk3 : k3 ≠ 0 := fun h => by
        have h1 := HSE.out.1.1 h
        injection h1 with h1
        exact hxy h1
      have v2 : (k3 == 0) = false := by simpa using hk3
      clear hk3
      go_wp2_with (go_at_call 7; refine (works_any8 _).mono ?_; rintro e wz ⟨rfl, hcz⟩; have HCz := keepf (HC4.out.trans hcz (fun _ _ e => e)); clear hcz)
      go_ret
      exact ⟨rfl, HCz.out.no_below⟩
  · have d1 : decide ((1500 : Int) < bs.length) = true := by simp; omega
    obtain ⟨n, hn⟩ : ∃ n, n = bs.length := ⟨_, rfl⟩
    rw [← hn] at d1 hm ⊢
    clear hS hg hn wx wa bx ba hle
    go_enter Tryz.func5, Tryz.ntmps5
    go_wp2_with (go_at_call 7; refine (works_any8 _).mono ?_; rintro e wz ⟨rfl, hcz⟩; have HCz := keepf hcz; clear hcz)
    go_ret
    exact ⟨rfl, HCz.out.no_below⟩
set_option maxRecDepth 100000 in
theorem lifted (os : Os) (started : os.Started) (H : Type) (enc : TypeId × Value → H) :
    ReturnsInHanded {} Tryz.checked os 5 .any (Rows.zlibSeesSpec.pre6 enc Tryz.prog Tryz.f5 Rows.zlibSeesRow.domain false) (Rows.zlibSeesSpec.post enc Tryz.prog Tryz.f5 false true false false) := by
  refine returnsInHanded_of_change (C := Tryz.checked) own started (by kernel_rfl) Tryz.func5
    (ChangeSpec.witness6 (enc := enc) (C := Tryz.checked) false ⟨#[], #[.slice none 0 0, .int .u16 0, .int .u8 0], []⟩ 8 (by kernel_rfl) (by kernel_rfl) (by kernel_rfl) (by kernel_rfl)) ?_
  intro W base args ds gs before hval0 hW hcnd _
  have hval : ∀ (j : Nat) t v, Tryz.f5.params[j]? = some t → args[j]? = some v → Value.okWide Tryz.prog W .any base t v := hval0
  have hW' := hW
  obtain ⟨p, q, hA0, hV, rfl, hfz, hnd⟩ := hW
  have hA : DataW.TrodAll enc Tryz.prog W 0 (fun _ => true) true Tryz.f5.params.toList args.toList ds p := hA0
  rw [Tryz.params5] at hA hval
  obtain ⟨v0, vs0, d0, ds0, p0, q0, hargs, rfl, rfl, h0, r0⟩ := trodAll_cons hA
  obtain ⟨v1, vs1, d1, ds1, p1, q1, rfl, rfl, rfl, h1, r1⟩ := trodAll_cons r0
  obtain ⟨v2, vs2, d2, ds2, p2, q2, rfl, rfl, rfl, h2, r2⟩ := trodAll_cons r1
  obtain ⟨rfl, rfl, rfl⟩ := trodAll_nil r2
  obtain rfl : args = #[v0, v1, v2] := by cases args; simp_all
  obtain ⟨rfl, rfl⟩ := trodVars_none hV
  obtain ⟨a0, len0, cap0, rfl⟩ := okWide_slice Tryz.underlying22 (hval 0 22 v0 rfl rfl)
  have k0 := h0
  have lt0 : ∀ x ∈ p0, x.block < W.heap.size := by obtain ⟨m, hm⟩ := k0; exact DataW.trod_lt m _ _ _ hm
  obtain ⟨hm0, xs0, hl0, hS0, hg0⟩ : len0 ≤ maxLen ∧ ∃ xs : List Nat, xs.length = len0 ∧ Src W 1 a0 len0 cap0 (xs.flatMap encU) ∧ ∀ b ∈ xs, (fun p : Nat => p < 256) b := by
    obtain ⟨fuel, hf⟩ := h0
    exact open_rows encU (fun p : Nat => p < 256) 1 Tryz.underlying22 (by kernel_rfl) (fun _ => rfl) (fun n cs y h _ => byte_elU h) (by simpa [Value.cells] using hf)
  have hc0 : len0 ≤ cap0 := by
    obtain ⟨fuel, hf⟩ := h0
    exact open_cap Tryz.underlying22 (by simpa [Value.cells] using hf)
  obtain ⟨a1, rfl, rfl, rfl, w1⟩ := open_int Tryz.underlying37 (hval 1 37 v1 rfl rfl) h1
  obtain ⟨a2, rfl, rfl, rfl, w2⟩ := open_int Tryz.underlying5 (hval 2 5 v2 rfl rfl) h2
  clear hA0 hval0
  refine (walk a0 len0 cap0 xs0 a1 a2 W hl0 hm0 hS0 hg0 hc0 w1 w2).mono fun e W' ⟨he, bel⟩ => ?_
  subst he
  exact ⟨_, rfl, _, _, _, [], _, [], hW', trodAll_mk1 (shut_bool Tryz.underlying4 _), (trodAll_cons_mk (Below.trod laidOut (by kernel_rfl) (of_decide_eq_true (by kernel_rfl)) k0 bel lt0) (trodAll_cons_mk (shut_int Tryz.underlying37 w1) (trodAll_cons_mk (shut_int Tryz.underlying5 w2) trodAll_mk0))), rfl, bel.frame _, fun h => by cases h⟩
theorem over : Rows.zlibSeesRow.holds Tryz.pinned (OpenSpec.ofChange Rows.zlibSeesSpec) :=
  OpenClaim.holds_of_wide 5 Tryz.f5 rfl rfl rfl rfl rfl rfl rfl ⟨rfl, rfl, rfl, rfl, rfl⟩ rfl rfl rfl rfl rfl (by kernel_rfl) Tryz.func5 (by kernel_rfl)
    (of_decide_eq_true (by kernel_rfl)) (by unfold Func.isWrapper; first | (rw [if_pos (by decide +kernel)]; kernel_rfl) | (rw [if_neg (by decide +kernel)]; exact ⟨rfl, rfl⟩))
    (fun os started H enc _ => lifted os started H enc)
theorem proved : Rows.ZlibSeesSaid := over
#print axioms proved
end Go.Proofs.YtmmilchmnimjoaaGreat.zsees
