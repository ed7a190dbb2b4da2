/- 'InflateBehind': for every input the statement's function returns true: what comes behind the bytes that are looked at changes nothing. Conditions: none. -/
import Derived.Test.YtbdnhhhagpgibaaInfIn
import Derived.Test.YtbdnhhhagpgibaaRows
import Derived.OpenShut
import Derived.ChangeOld
import Derived.Lib.SmallJoins
import Derived.BigQuiet
namespace Go.Proofs.Ytbdnhhhagpgibaa.ibehind
open Go.RowKit Go.ChangeShapes Go.WideShapes Go.ChangeAt
set_option linter.unusedVariables false

theorem own : ownKnob Try.prog.godebug = none := by kernel_rfl
theorem laidOut : laidOutB Try.prog = true := by kernel_rfl

theorem size_u8 (w : World) : (sizeOf (Try.prog.elem 22)).run Try.prog w = .ok 1 w := by go_simp
set_option maxRecDepth 100000 in
theorem slice_toU (A : Option Addr) (len cap m : Nat) (hm : m ≤ cap) (w : World) : (Instr.sliceAt 22 (.slice A len cap) none (some (.int .i64 (m : Nat))) none).run Try.prog w = .ok (.slice A m cap) w := by
  rw [run_sliceAt_slice w _ _ _ _ _ Try.underlying22, run_slice_h w _ A len cap Try.underlying22 .i64 (m : Nat) (by omega) (by omega), size_u8]
  simp [Result.andThen, sliced, Addr.add]
theorem own_emptyU (w : World) (t : TypeId) : (w.alloc (.cells #[] t)).ownsRow 0 t 1 (.slice (some ⟨w.heap.size, 0, none⟩) 0 0) 0 [] :=
  ⟨rfl, .inr ⟨_, 0, #[], rfl, Nat.zero_le _, Blk.new w t #[], Nat.le_refl _, by unfold maxLen; omega, rfl, rfl⟩⟩
theorem src_takeU {w : World} {A : Option Addr} {c k : Nat} {bs : List Nat} (h : Src w 1 A bs.length c (ucells bs)) (hk : k ≤ bs.length) : Src w 1 A k c (ucells (bs.take k)) := by
  refine ⟨by simp [ucells]; omega, fun hA => ?_, fun ad hA j u hu => ?_⟩
  · obtain ⟨h1, h2⟩ := h.2.1 hA
    exact ⟨by omega, h2⟩
  · refine h.2.2 ad hA j u ?_
    have hj : j < k := by
      have := (List.getElem?_eq_some_iff.1 hu).1
      simp [ucells] at this
      omega
    simp only [ucells, List.map_take] at hu ⊢
    rw [List.getElem?_take, if_pos hj] at hu
    exact hu

/-- The bytes that were looked at, and others. -/
theorem agree_take (bs ms : List Nat) (n : Nat) (hn : n ≤ bs.length) : Agree bs (bs.take n ++ ms) (8 * n) := by
  refine ⟨by omega, by simp; omega, fun i hi => ?_⟩
  unfold bitAt
  congr 1
  have h8 : i / 8 < n := by omega
  simp only [List.getD_eq_getElem?_getD]
  rw [List.getElem?_append_left (by simp; omega), List.getElem?_take, if_pos h8]

set_option maxHeartbeats 4000000 in
set_option maxRecDepth 100000 in
theorem walk (A : Option Addr) (len cap : Nat) (bs : List Nat) (A2 : Option Addr) (len2 cap2 : Nat) (ms : List Nat) (most : Int) (w : World)
    (hl : bs.length = len) (hm : len ≤ maxLen) (hS : Src w 1 A len cap (bs.flatMap encU)) (hg : ∀ p ∈ bs, p < 256) (hc : len ≤ cap)
    (hl2 : ms.length = len2) (hm2 : len2 ≤ maxLen) (hS2 : Src w 1 A2 len2 cap2 (ms.flatMap encU)) (hg2 : ∀ p ∈ ms, p < 256) (wm : (Lit.int .u16 most).wf = true) :
    Calls Try.prog 5 #[.slice A len cap, .slice A2 len2 cap2, .int .u16 most] w fun e w' => e = .returned (.bool true) ∧ Below w.heap.size w w' := by
  unfold maxLen at hm hm2
  rw [flat_bytesU] at hS hS2
  subst hl hl2
  have b1 := bounds_u16 wm
  obtain ⟨most, rfl⟩ := Int.eq_ofNat_of_zero_le b1.1
  clear wm
  have HS := keepf hS
  have HG := keepf hg
  have HS2 := keepf hS2
  have HG2 := keepf hg2
  clear hS hg hS2 hg2
  by_cases hle : bs.length ≤ 300
  · have d1 : decide ((300 : Int) < bs.length) = false := by simp; omega
    have d1' : decide (300 < bs.length) = false := by simp; omega
    by_cases hle2 : ms.length ≤ 300
    · have d2 : decide ((300 : Int) < ms.length) = false := by simp; omega
      have d2' : decide (300 < ms.length) = false := by simp; omega
      obtain ⟨lim, hlim⟩ : ∃ lim, lim = most % 2001 := ⟨_, rfl⟩
      have elim : ((most : Int) % 2001) = (lim : Int) := by omega
      have hlim2 : lim ≤ 2000 := by omega
      have HI1 := keepf (inflate_any bs A cap lim w HS.out (by omega) HG.out (by omega))
      clear hlim
      go_enter Try.func5, Try.ntmps5
      go_upto_region 5 with (go_at_call 8; refine HI1.out.mono ?_; rintro e w2 ⟨A3, c3, n, k, out, rfl, hch2, ho2, hb2, hle2, hr2⟩; have HC2 := keepf hch2; have HO2 := keepf ho2; have HR2 := keepf hr2; clear hch2 ho2 hb2 hle2 hr2)
      by_cases h0 : k = 0
      · subst h0
        obtain ⟨b, hbl, hnb, hrun⟩ : ∃ b, b ≤ 8 * bs.length ∧ n = (b + 7) / 8 ∧ Runs bs lim st0 (.ok out b) := by
          rcases HR2.out with ⟨_, b, h1, h2, h3⟩ | ⟨h, _⟩
          · exact ⟨b, h1, h2, h3⟩
          · exact absurd rfl h
        have hnl : n ≤ bs.length := by omega
        have hr2 := hrun.behind (agree_take bs ms n hnl) (by omega)
        have HRu := keepf hr2
        have HNB := keepf hnb
        have e1 : decide ((bs.length : Int) < n) = false := by simp; omega
        have e1' : decide (bs.length < n) = false := by simp; omega
        have hs1 := fun W => slice_toU A bs.length cap n (by omega) W
        obtain ⟨i0, hi, hz0, hz1, hz2⟩ := info_parts info_u8
        have hsrcT := fun W (h : Chg NoS w W) => src_takeU (HS.out.below (w0 := w) h) hnl
        have HST := keepf hsrcT
        have hcl : (bs.take n ++ ms).length = n + ms.length := by simp; omega
        have hby : ∀ x ∈ bs.take n ++ ms, x < 256 := fun x hx => by
          rcases List.mem_append.1 hx with h | h
          · exact HG.out x (List.mem_of_mem_take h)
          · exact HG2.out x h
        have HI2 : Hid (∀ (W : World) (A5 : Option Addr) (c5 : Nat), W.ownsRow 0 5 1 (.slice A5 (n + ms.length) c5) (n + ms.length) (ucells (bs.take n) ++ ucells ms) → Calls Try.prog 8 #[.slice A5 (n + ms.length) c5, .int .i64 lim] W (InfTo W (bs.take n ++ ms) lim)) := fun W A5 c5 h => by
          have e : ucells (bs.take n) ++ ucells ms = ucells (bs.take n ++ ms) := by simp [ucells]
          rw [e] at h
          have h1 := inflate_any (bs.take n ++ ms) A5 c5 lim W (by rw [hcl]; exact src_own h) (by omega) hby (by omega)
          rw [hcl] at h1
          exact h1
        have HOE := keepf (own_emptyU w2 5)
        clear hrun hr2 hnb hsrcT hcl hby HI1 HR2
        go_upto_region 10 with (first
          | (at_builtin; go_loud (refine wpList_append_src rfl (.tmp 45) (.tmp 48) 22 rfl 5 i0 (.int .u8 0) 1 1 Try.underlying22 hi hz0 hz1 hz2 rfl (by decide) (.slice (some ⟨w2.heap.size, 0, none⟩) 0 0) 0 [] rfl HOE.out _ _ _ (ucells (bs.take n)) rfl (HST.out _ (HC2.out.alloc _)) (ucells_one _) (by unfold maxLen; omega) (by omega) ?_); intro S4 w4 hown4 hgr4 hat4; rw [Nat.zero_add, List.nil_append] at hown4; obtain ⟨A4, c4, rfl, _⟩ := own_slice hown4; have HO4 := keepf hown4; have HGR4 := keepf hgr4; have HAT4 := keepf hat4; have HC4 : Hid (Chg NoS w w4) := (HC2.out.trans (((Chg.refl (fun i => i = w2.heap.size) w2).alloc (.cells #[] 5)).grown hgr4 (fun i e _ => by simp [Value.ownBlock] at e; exact e.symm)) (fun i hi e => by have := HC2.out.size; omega)); clear hown4 hgr4 hat4)
          | (at_builtin; go_loud (refine wpList_append_src rfl (.tmp 49) (.tmp 50) 22 rfl 5 i0 (.int .u8 0) 1 1 Try.underlying22 hi hz0 hz1 hz2 rfl (by decide) (.slice A4 n c4) n (ucells (bs.take n)) rfl HO4.out _ _ _ (ucells ms) rfl (HS2.out.below (w0 := w) HC4.out) (ucells_one _) (by unfold maxLen; omega) (by omega) ?_); intro S5 w5 hown5 hgr5 hat5; obtain ⟨A5, c5, rfl, _⟩ := own_slice hown5; have HO5 := keepf hown5; have HGR5 := keepf hgr5; have HI3 := keepf (HI2.out w5 A5 c5 hown5); clear hown5 hgr5 hat5)
          | (go_at_call 8; refine HI3.out.mono ?_; rintro e w6 ⟨A6, c6, n6, k6, out6, rfl, hch6, ho6, hb6, hle6, hr6⟩; have HC6 := keepf hch6; have HO6 := keepf ho6; have HR6 := keepf hr6; clear hch6 ho6 hb6 hle6 hr6))
        have hc24 : Chg NoS w2 w4 := ((Chg.refl (fun i => i = w2.heap.size) w2).alloc (.cells #[] 5)).grown HGR4.out (fun i e _ => by simp [Value.ownBlock] at e; exact e.symm) |>.mono (fun i hi e => by omega)
        have hc25 : Chg NoS w2 w5 := hc24.trans ((Chg.refl (fun i => (Value.slice A4 n c4).ownBlock = some i) w4).grown HGR5.out (fun i e _ => e)) (fun i hi e => by
          rcases HAT4.out with h | h
          · rw [h] at e; simp [Value.ownBlock] at e; omega
          · rw [h] at e; simp at e; omega)
        have hc26 : Chg NoS w2 w6 := hc25.trans HC6.out (fun _ _ h => h)
        have HALL := keepf (HC2.out.trans hc26 (fun _ _ h => h))
        have hsame : k6 = 0 ∧ n6 = n ∧ out6 = out := by
          rcases HR6.out with ⟨rfl, b6, _, rfl, hr6⟩ | ⟨_, _, _, hr6⟩
          · have h1 := hr6.one HRu.out
            injection h1 with h1 h2
            subst h1 h2
            exact ⟨rfl, HNB.out.symm, rfl⟩
          · cases hr6.one HRu.out
        obtain ⟨rfl, rfl, rfl⟩ := hsame
        have hcv2 := convert_own (own_chg HO2.out hc26 (fun _ _ h => h))
        have hcv3 := convert_own HO6.out
        obtain ⟨s, hs⟩ : ∃ s, s = bstr out6 := ⟨_, rfl⟩
        rw [← hs] at hcv2 hcv3
        clear hs hc24 hc25 hc26
        go_wp2_with (go_at_call 7; refine (works_any5 _).mono ?_; rintro e wz ⟨rfl, hcz⟩; have HCz := keepf hcz; clear hcz)
        go_ret
        exact ⟨rfl, (HALL.out.trans HCz.out (fun _ _ h => h)).no_below⟩
      · have e1 : (k == 0) = false := by simpa using h0
        go_wp2_with (go_at_call 7; refine (works_any5 _).mono ?_; rintro e wz ⟨rfl, hcz⟩; have HCz := keepf hcz; clear hcz)
        go_ret
        exact ⟨rfl, (HC2.out.trans HCz.out (fun _ _ h => h)).no_below⟩
    · have d2 : decide ((300 : Int) < ms.length) = true := by simp; omega
      have d2' : decide (300 < ms.length) = true := by simp; omega
      go_enter Try.func5, Try.ntmps5
      go_wp2_with (go_at_call 7; refine (works_any5 _).mono ?_; rintro e wz ⟨rfl, hcz⟩; have HCz := keepf hcz; clear hcz)
      go_ret
      exact ⟨rfl, HCz.out.no_below⟩
  · have d1 : decide ((300 : Int) < bs.length) = true := by simp; omega
    have d1' : decide (300 < bs.length) = true := by simp; omega
    go_enter Try.func5, Try.ntmps5
    go_wp2_with (go_at_call 7; refine (works_any5 _).mono ?_; rintro e wz ⟨rfl, hcz⟩; have HCz := keepf hcz; clear hcz)
    go_ret
    exact ⟨rfl, HCz.out.no_below⟩


set_option maxRecDepth 100000 in
theorem lifted (os : Os) (started : os.Started) (H : Type) (enc : TypeId × Value → H) :
    ReturnsInHanded {} Try.checked os 5 .any (Rows.inflateBehindSpec.pre6 enc Try.prog Try.f5 Rows.inflateBehindRow.domain false) (Rows.inflateBehindSpec.post enc Try.prog Try.f5 false true false false) := by
  refine returnsInHanded_of_change (C := Try.checked) own started (by kernel_rfl) Try.func5
    (ChangeSpec.witness6 (enc := enc) (C := Try.checked) false ⟨#[], #[.slice none 0 0, .slice none 0 0, .int .u16 0], []⟩ 8 (by kernel_rfl) (by kernel_rfl) (by kernel_rfl) (by kernel_rfl)) ?_
  intro W base args ds gs before hval0 hW hcnd _
  have hval : ∀ (j : Nat) t v, Try.f5.params[j]? = some t → args[j]? = some v → Value.okWide Try.prog W .any base t v := hval0
  have hW' := hW
  obtain ⟨p, q, hA0, hV, rfl, hfz, hnd⟩ := hW
  have hA : DataW.TrodAll enc Try.prog W 0 (fun _ => true) true Try.f5.params.toList args.toList ds p := hA0
  rw [Try.params5] at hA hval
  obtain ⟨v0, vs0, d0, ds0, p0, q0, hargs, rfl, rfl, h0, r0⟩ := trodAll_cons hA
  obtain ⟨v1, vs1, d1, ds1, p1, q1, rfl, rfl, rfl, h1, r1⟩ := trodAll_cons r0
  obtain ⟨v2, vs2, d2, ds2, p2, q2, rfl, rfl, rfl, h2, r2⟩ := trodAll_cons r1
  obtain ⟨rfl, rfl, rfl⟩ := trodAll_nil r2
  obtain rfl : args = #[v0, v1, v2] := by cases args; simp_all
  obtain ⟨rfl, rfl⟩ := trodVars_none hV
  obtain ⟨a0, len0, cap0, rfl⟩ := okWide_slice Try.underlying22 (hval 0 22 v0 rfl rfl)
  have k0 := h0
  have lt0 : ∀ x ∈ p0, x.block < W.heap.size := by obtain ⟨m, hm⟩ := k0; exact DataW.trod_lt m _ _ _ hm
  obtain ⟨hm0, xs0, hl0, hS0, hg0⟩ : len0 ≤ maxLen ∧ ∃ xs : List Nat, xs.length = len0 ∧ Src W 1 a0 len0 cap0 (xs.flatMap encU) ∧ ∀ b ∈ xs, (fun p : Nat => p < 256) b := by
    obtain ⟨fuel, hf⟩ := h0
    exact open_rows encU (fun p : Nat => p < 256) 1 Try.underlying22 (by kernel_rfl) (fun _ => rfl) (fun n cs y h _ => byte_elU h) (by simpa [Value.cells] using hf)
  have hc0 : len0 ≤ cap0 := by
    obtain ⟨fuel, hf⟩ := h0
    exact open_capU Try.underlying22 (by simpa [Value.cells] using hf)
  obtain ⟨a1, len1, cap1, rfl⟩ := okWide_slice Try.underlying22 (hval 1 22 v1 rfl rfl)
  have k1 := h1
  have lt1 : ∀ x ∈ p1, x.block < W.heap.size := by obtain ⟨m, hm⟩ := k1; exact DataW.trod_lt m _ _ _ hm
  obtain ⟨hm1, xs1, hl1, hS1, hg1⟩ : len1 ≤ maxLen ∧ ∃ xs : List Nat, xs.length = len1 ∧ Src W 1 a1 len1 cap1 (xs.flatMap encU) ∧ ∀ b ∈ xs, (fun p : Nat => p < 256) b := by
    obtain ⟨fuel, hf⟩ := h1
    exact open_rows encU (fun p : Nat => p < 256) 1 Try.underlying22 (by kernel_rfl) (fun _ => rfl) (fun n cs y h _ => byte_elU h) (by simpa [Value.cells] using hf)
  obtain ⟨a2, rfl, rfl, rfl, w2⟩ := open_int Try.underlying38 (hval 2 38 v2 rfl rfl) h2
  clear hA0 hval0
  refine (walk a0 len0 cap0 xs0 a1 len1 cap1 xs1 a2 W hl0 hm0 hS0 hg0 hc0 hl1 hm1 hS1 hg1 w2).mono fun e W' ⟨he, bel⟩ => ?_
  subst he
  exact ⟨_, rfl, _, _, _, [], _, [], hW', trodAll_mk1 (shut_bool Try.underlying4 _), (trodAll_cons_mk (Below.trod laidOut (by kernel_rfl) (of_decide_eq_true (by kernel_rfl)) k0 bel lt0) (trodAll_cons_mk (Below.trod laidOut (by kernel_rfl) (of_decide_eq_true (by kernel_rfl)) k1 bel lt1) (trodAll_cons_mk (shut_int Try.underlying38 w2) trodAll_mk0))), rfl, bel.frame _, fun h => by cases h⟩

theorem over : Rows.inflateBehindRow.holds Try.pinned (OpenSpec.ofChange Rows.inflateBehindSpec) :=
  OpenClaim.holds_of_wide 5 Try.f5 rfl rfl rfl rfl rfl rfl rfl ⟨rfl, rfl, rfl, rfl, rfl⟩ rfl rfl rfl rfl rfl (by kernel_rfl) Try.func5 (by kernel_rfl)
    (of_decide_eq_true (by kernel_rfl)) (by unfold Func.isWrapper; first | (rw [if_pos (by decide +kernel)]; kernel_rfl) | (rw [if_neg (by decide +kernel)]; exact ⟨rfl, rfl⟩))
    (fun os started H enc _ => lifted os started H enc)

theorem proved : Rows.InflateBehindSaid := over
#print axioms proved
end Go.Proofs.Ytbdnhhhagpgibaa.ibehind
