/- The reader's text in hex (written by mkphex.py). -/
import Derived.Test.YtmmehaghcfdjdaaPTxtW
import Derived.Test.YtmmehaghcfdjdaaRLx4
namespace Go.Proofs.Ytmmehaghcfdjdaa
open Go.RowKit
set_option linter.unusedVariables false
set_option linter.unusedSimpArgs false

theorem pairs_even : ∀ (ds l : List Nat), ds.length % 2 = 0 → pairs (ds ++ l) = pairs ds ++ pairs l
  | [], _, _ => rfl
  | [a], _, h => by simp at h
  | a :: b :: ds, l, h => by
    have := pairs_even ds l (by simp only [List.length_cons] at h; omega)
    rw [List.cons_append, List.cons_append, pairs, pairs, this]
    rfl
/-- The digits so far, what was put together of them, and the one that is left, times 16. -/
def HxS (ds : List Nat) (odd : Bool) (h : Nat) (out : List Nat) : Prop :=
  if odd then ∃ es a, ds = es ++ [a] ∧ es.length % 2 = 0 ∧ out = pairs es ∧ h = 16 * a ∧ a < 16 else ds.length % 2 = 0 ∧ out = pairs ds
theorem HxS.nil (h : Nat) : HxS [] false h [] := ⟨rfl, rfl⟩
theorem HxS.one {ds out : List Nat} {h d : Nat} (k : HxS ds false h out) (hd : d < 16) : HxS (ds ++ [d]) true (16 * d) out := ⟨ds, d, rfl, k.1, k.2, rfl, hd⟩
theorem HxS.two {ds out : List Nat} {h d h' : Nat} (k : HxS ds true h out) : HxS (ds ++ [d]) false h' (out ++ [h + d]) := by
  obtain ⟨es, a, rfl, e1, rfl, rfl, _⟩ := k
  refine ⟨by simp; omega, ?_⟩
  rw [List.append_assoc, pairs_even _ _ e1]
  rfl
theorem HxS.end0 {ds out : List Nat} {h : Nat} (k : HxS ds false h out) : pairs ds = out := k.2.symm
theorem HxS.end1 {ds out : List Nat} {h : Nat} (k : HxS ds true h out) : pairs ds = out ++ [h] := by
  obtain ⟨es, a, rfl, e1, rfl, rfl, _⟩ := k
  rw [pairs_even _ _ e1]
  rfl
theorem HxS.lt {ds out : List Nat} {h : Nat} (k : HxS ds true h out) : ∃ a, h = 16 * a ∧ a < 16 := by
  obtain ⟨es, a, rfl, e1, rfl, rfl, h3⟩ := k
  exact ⟨a, rfl, h3⟩
theorem or_16 {h a d : Nat} (hh : h = 16 * a) (ha : a < 16) (hd : d < 16) : bits BinOp.or IntKind.u8 (h : Int) (d : Int) = ((h + d : Nat) : Int) := by
  rw [u8_or_nat h d (by omega) (by omega), hh]
  have := (Nat.two_pow_add_eq_or_of_lt (i := 4) (b := d) (by omega) a).symm
  exact congrArg Nat.cast this
section
variable {last : Bool} {ds l : List Nat} {p c d : Nat}
theorem hex_end : hexO last ds p (62 :: l) = (0, pairs ds, p + 1) := by rw [hexO, if_pos rfl]
theorem hex_sp (h1 : c ≠ 62) (h2 : isSp c = true) : hexO last ds p (c :: l) = hexO last ds (p + 1) l := by rw [hexO, if_neg h1, if_pos h2]
theorem hex_bad (h1 : c ≠ 62) (h2 : isSp c = false) (h3 : hexD c = none) : hexO last ds p (c :: l) = (11, [], 0) := by rw [hexO, if_neg h1, if_neg (by rw [h2]; decide), h3]
theorem hex_dig (h1 : c ≠ 62) (h2 : isSp c = false) (h3 : hexD c = some d) : hexO last ds p (c :: l) = hexO last (ds ++ [d]) (p + 1) l := by rw [hexO, if_neg h1, if_neg (by rw [h2]; decide), h3]
end
def HxJ0 (V w : World) (A : Option Addr) (bs : List Nat) (c : Nat) (last : Bool) (R g p : Nat) (n : Nat) (x : Act) (w' : World) : Prop :=
  x.defers = [] ∧ x.tmps.size = 57 ∧ x.tmps.getD 0 undef = .pointer (some ⟨R, 0, none⟩) ∧ x.tmps.getD 2 undef = .pointer (some ⟨g, 0, none⟩) ∧ ∃ (k h : Nat) (odd : Bool) (ds out : List Nat), x.tmps.getD 4 undef = .bool odd ∧ x.tmps.getD 5 undef = .int .u8 (h : Nat) ∧ n = (bs.length - k) + 1 ∧ k ≤ bs.length ∧ out.length ≤ k ∧
    Hid (TxR V w A bs c last R g p k 0 out w' ∧ hexO last [] p (bs.drop p) = hexO last ds k (bs.drop k) ∧ HxS ds odd h out)
def HxJ1 (V w : World) (A : Option Addr) (bs : List Nat) (c : Nat) (last : Bool) (R g p : Nat) (n : Nat) (x : Act) (w' : World) : Prop :=
  x.defers = [] ∧ x.tmps.size = 57 ∧ x.tmps.getD 0 undef = .pointer (some ⟨R, 0, none⟩) ∧ x.tmps.getD 2 undef = .pointer (some ⟨g, 0, none⟩) ∧ ∃ (k h : Nat) (odd : Bool) (ds out : List Nat), x.tmps.getD 4 undef = .bool odd ∧ x.tmps.getD 5 undef = .int .u8 (h : Nat) ∧ n = 0 ∧ k ≤ bs.length ∧ out.length ≤ k ∧
    Hid (TxR V w A bs c last R g p k 0 out w' ∧ hexO last [] p (bs.drop p) = (0, pairs ds, k) ∧ HxS ds odd h out)
theorem slots_57 {x : Act} {v0 v2 : Value} {C : Act → Prop} (h1 : x.defers = []) (h2 : x.tmps.size = 57) (h3 : x.tmps.getD 0 undef = v0) (h4 : x.tmps.getD 2 undef = v2)
    (k : ∀ f : Nat → Value, f 4 = x.tmps.getD 4 undef → f 5 = x.tmps.getD 5 undef → C { tmps := #[v0, f 1, v2, f 3, f 4, f 5, f 6, f 7, f 8, f 9, f 10, f 11, f 12, f 13, f 14, f 15, f 16, f 17, f 18, f 19, f 20, f 21, f 22, f 23, f 24, f 25, f 26, f 27, f 28, f 29, f 30, f 31, f 32, f 33, f 34, f 35, f 36, f 37, f 38, f 39, f 40, f 41, f 42, f 43, f 44, f 45, f 46, f 47, f 48, f 49, f 50, f 51, f 52, f 53, f 54, f 55, f 56], defers := [] }) : C x := by
  obtain ⟨t, d⟩ := x
  simp only at h1 h2 h3 h4
  subst h1
  have h5 := k (fun i => t.getD i undef) rfl rfl
  rw [← h3, ← h4] at h5
  rw [arr_slots t 57 h2]
  exact h5
set_option maxHeartbeats 8000000 in
set_option maxRecDepth 100000 in
theorem phex_any {V w W : World} {A : Option Addr} {bs : List Nat} {c R p : Nat} {last : Bool} (h : RD V w W A bs.length c last R p []) (hS : Src w 1 A bs.length c (lcells bs)) (hl : bs.length ≤ 100000) (hc : bs.length ≤ c) (hp : p ≤ bs.length) (hb : ∀ d ∈ bs, d < 256) :
    Calls Try.prog 31 #[.pointer (some ⟨R, 0, none⟩)] W (PTo V w R 4 (hexO last [] p (bs.drop p))) := by
  have hl6 : bs.length ≤ 1000000 := by omega
  have HTE := keepf (fun X out (hX : RD X w X A bs.length c last R bs.length out) => ptake_end hX)
  have HTA := keepf (fun X out k x (hX : RD X w X A bs.length c last R k out) (hx : bs[k]? = some x) => ptake_at hX hS hl6 hc hx)
  have HWB := keepf (fun X out k y (hX : RD X w X A bs.length c last R k out) (ho : out.length ≤ 1000000) => pwbyte_any hX y ho)
  have HCU := keepf (fun X out k (hX : RD X w X A bs.length c last R k out) => pcut_any hX 10)
  have HBU := keepf (fun X out k (hX : RD X w X A bs.length c last R k out) (ho : ∀ d ∈ out, d < 256) (hm : out.length ≤ 1000000) => pbuilt_any hX ho hm 4)
  have HDG := keepf (fun y (hy : y < 256) X => pdigit_any y hy X)
  have HSP := keepf (fun y X => pspace_any y X)
  have HB := keepf hb
  have HKB := keepf h.kb
  have HR0 := keepf h.here
  have hRW := h.lt
  have hwW := h.chg.size
  obtain ⟨g, hg⟩ : ∃ g, g = W.heap.size := ⟨_, rfl⟩
  have HG := keepf hg
  have hgR : g ≠ R := by omega
  have hgW : W.heap.size ≤ g := by omega
  have hgw : w.heap.size ≤ g := by omega
  have HTR := keepf (fun (X X' : World) (k k' deep deep' : Nat) (out out' : List Nat) (h : TxR W w A bs c last R g p k deep out X) (h' : RD X w X' A bs.length c last R k' out') (hb : ∀ d ∈ out', d < 256) => TxR.step (deep' := deep') h h' hgR hb)
  have HL6 := keepf hl6
  clear h hS hb hc hl6 hg hwW hRW
  go_enter Try.func31, Try.ntmps31
  go_wp2
  refine wp_scope2 (HxJ0 W w A bs c last R g p) (HxJ1 W w A bs c last R g p) rfl rfl ?pass0 ?pass1 ?first
  case first =>
    intro hpass _
    have HPass := keepf hpass
    clear hpass
    go_wp2
    go_step3
    rename_i hK
    refine hK _ _ (HPass.out _ _ _ ⟨rfl, rfl, rfl, by rw [HG.out]; rfl, p, 0, false, [], [], rfl, rfl, rfl, hp, Nat.zero_le _, keepf ⟨⟨HR0.out.call ((Chg.refl NoS W).alloc _), by rw [HG.out]; exact Blk.new _ _ _, fun d hd => by cases hd⟩, rfl, HxS.nil 0⟩⟩)
  case pass1 =>
    intro n x w1 hx
    obtain ⟨h1, h2, h3, h4, k, h, odd, ds, out, h5, h6, rfl, hk, hm, HT⟩ := hx
    refine slots_57 h1 h2 h3 h4 (C := fun y => Code.wp _ _ _ y w1) ?_
    intro f hf hf2
    rw [h5] at hf
    rw [h6] at hf2
    simp only [hf, hf2]
    clear h1 h2 h3 h4 h5 h6 hf hf2
    have HV := keepf HT.out.2.1
    have HT1 := keepf HT.out.1
    cases odd
    · have HE := keepf HT.out.2.2.end0
      go_wp2_with (go_at_call 38; refine (HBU.out _ _ _ HT1.out.1.here HT1.out.2.2 (by (try simp only [List.length_append, List.length_cons, List.length_nil]); omega)).mono ?_; rintro e w4 ⟨rfl, h4⟩; obtain ⟨r0, r1, r2, r3, z0, z1, z2, z3⟩ := (h4.kb _ _ _ hgR (by decide) HT1.out.2.1).cl4; have HRE := keepf (h4.back HT1.out.1.kb); clear h4)
      simp only [hops]
      refine bodyPost_ret (v := .tuple #[.agg #[.int .i64 4, .int .i64 0, .string (sb (out)), .slice none 0 0], .int .i64 0]) (by simp [results, Try.results31, go_sem, r0, r1, r2, r3]) rfl ?_
      refine ⟨by rw [HV.out, HE.out]; rfl, k, fun e => by rw [HV.out], ?_⟩
      exact (HRE.out.set4 hgR hgW hgw _ _ _ _).back HKB.out
    · have HE := keepf HT.out.2.2.end1
      have hh256 : h < 256 := by obtain ⟨a, h7, h8⟩ := HT.out.2.2.lt; omega
      go_wp2_with first
        | (go_at_call 39; refine (HWB.out _ _ _ h HT1.out.1.here (by omega)).mono ?_; rintro e w3 ⟨rfl, h3⟩; have HT2 := keepf (HTR.out _ _ _ _ _ 0 _ _ HT1.out h3 (mem_snoc HT1.out.2.2 hh256)); clear h3)
        | (go_at_call 38; refine (HBU.out _ _ _ HT2.out.1.here HT2.out.2.2 (by (try simp only [List.length_append, List.length_cons, List.length_nil]); omega)).mono ?_; rintro e w4 ⟨rfl, h4⟩; obtain ⟨r0, r1, r2, r3, z0, z1, z2, z3⟩ := (h4.kb _ _ _ hgR (by decide) HT2.out.2.1).cl4; have HRE := keepf (h4.back HT2.out.1.kb); clear h4)
      simp only [hops]
      refine bodyPost_ret (v := .tuple #[.agg #[.int .i64 4, .int .i64 0, .string (sb (out ++ [h])), .slice none 0 0], .int .i64 0]) (by simp [results, Try.results31, go_sem, r0, r1, r2, r3]) rfl ?_
      refine ⟨by rw [HV.out, HE.out]; rfl, k, fun e => by rw [HV.out], ?_⟩
      exact (HRE.out.set4 hgR hgW hgw _ _ _ _).back HKB.out
  case pass0 =>
    intro n x w1 hx
    obtain ⟨h1, h2, h3, h4, k, h, odd, ds, out, h5, h6, rfl, hk, hm, HT⟩ := hx
    refine slots_57 h1 h2 h3 h4 (C := fun y => Code.wp _ _ _ y w1) ?_
    intro f hf hf2
    rw [h5] at hf
    rw [h6] at hf2
    simp only [hf, hf2]
    clear h1 h2 h3 h4 h5 h6 hf hf2
    by_cases hkn : k = bs.length
    · subst hkn
      have HV := keepf (show hexO last [] p (bs.drop p) = (cutE last, [], 0) from by rw [HT.out.2.1, List.drop_of_length_le (Nat.le_refl _), hexO])
      have hec : (if last then (10 : Int) else 6) = cutE last := rfl
      have hne := cutE_ne last
      obtain ⟨er, her⟩ : ∃ er, er = cutE last := ⟨_, rfl⟩
      have HCU1 := keepf (fun X hX => HCU.out X out bs.length hX)
      rw [hec, ← her] at HCU1
      rw [← her] at HV hne
      have HNE := keepf hne
      clear hec her hne
      go_wp2_with first
        | (go_at_call 26; refine (HTE.out _ _ HT.out.1.1.here).mono ?_; rintro e w3 ⟨rfl, h3⟩; have HT3 := keepf (HTR.out _ _ _ _ _ 0 _ _ HT.out.1 h3 HT.out.1.2.2); clear h3; obtain ⟨r0, r1, r2, r3, z0, z1, z2, z3⟩ := HT3.out.2.1.cl4)
        | (go_at_call 27; refine (HCU1.out _ HT3.out.1.here).mono ?_; rintro e w4 ⟨rfl, rfl⟩)
      simp only [hops]
      refine bodyPost_ret (v := .tuple #[.agg #[.int .i64 0, .int .i64 0, .string ⟨#[]⟩, .slice none 0 0], .int .i64 er]) (by simp [results, Try.results31, go_sem, r0, r1, r2, r3]) rfl ?_
      refine ⟨by rw [HV.out, TkV_err HNE.out], bs.length, fun e => absurd (by rw [HV.out] at e; exact e) HNE.out, ?_⟩
      exact (HT3.out.1.re.set4 hgR hgW hgw _ _ _ _).back HKB.out
    obtain ⟨x, hx, hd⟩ := drop_at (bs := bs) (k := k) (by omega)
    have hx256 := HB.out x (List.mem_of_getElem? hx)
    have HX := keepf hx
    have HV := keepf (show hexO last [] p (bs.drop p) = hexO last ds k (x :: bs.drop (k + 1)) from by rw [HT.out.2.1, hd])
    have hk1 : k + 1 ≤ bs.length := by omega
    have HDG1 := keepf (fun X => HDG.out x hx256 X)
    have HSP1 := keepf (fun X => HSP.out x X)
    have hv16 := hexV_lt x
    clear hx hd
    by_cases hs : isSp x = true
    · have HGS := keepf hs
      have hx62 : x ≠ 62 := by rintro rfl; cases hs
      have HV2 := keepf (hex_sp (last := last) (ds := ds) (p := k) (l := bs.drop (k + 1)) hx62 hs)
      rw [hs] at HSP1
      obtain ⟨v, hv⟩ : ∃ v, hexV x = v := ⟨_, rfl⟩
      obtain ⟨b, hb⟩ : ∃ b, (hexD x).isSome = b := ⟨_, rfl⟩
      rw [hv, hb] at HDG1
      clear hs hv hb hx62
      go_wp2_with first | (go_at_call 26; refine (HTA.out _ _ _ _ HT.out.1.1.here HX.out).mono ?_; rintro e w3 ⟨rfl, h3⟩; have HT3 := keepf (HTR.out _ _ _ _ _ 0 _ _ HT.out.1 h3 HT.out.1.2.2); clear h3) | (go_at_call 42; refine (HDG1.out _).mono ?_; rintro e w5 ⟨rfl, rfl⟩) | (go_at_call 13; refine (HSP1.out _).mono ?_; rintro e w5 ⟨rfl, rfl⟩)
      go_step3
      exact ⟨(bs.length - (k + 1)) + 1, by omega, .inl ⟨rfl, rfl, rfl, rfl, rfl, k + 1, h, odd, ds, out, rfl, rfl, rfl, hk1, by omega, keepf ⟨HT3.out, by rw [HV.out, HV2.out], HT.out.2.2⟩⟩⟩
    have HGS := keepf (show isSp x = false from by simpa using hs)
    rw [HGS.out] at HSP1
    clear hs
    by_cases h62 : x = 62
    · subst h62
      have HV2 := keepf (hex_end (last := last) (ds := ds) (p := k) (l := bs.drop (k + 1)))
      obtain ⟨v, hv⟩ : ∃ v, hexV 62 = v := ⟨_, rfl⟩
      obtain ⟨b, hb⟩ : ∃ b, (hexD 62).isSome = b := ⟨_, rfl⟩
      rw [hv, hb] at HDG1
      clear hv hb
      go_wp2_with first | (go_at_call 26; refine (HTA.out _ _ _ _ HT.out.1.1.here HX.out).mono ?_; rintro e w3 ⟨rfl, h3⟩; have HT3 := keepf (HTR.out _ _ _ _ _ 0 _ _ HT.out.1 h3 HT.out.1.2.2); clear h3) | (go_at_call 42; refine (HDG1.out _).mono ?_; rintro e w5 ⟨rfl, rfl⟩) | (go_at_call 13; refine (HSP1.out _).mono ?_; rintro e w5 ⟨rfl, rfl⟩)
      go_step3
      exact ⟨0, by omega, .inr ⟨rfl, rfl, rfl, rfl, rfl, k + 1, h, odd, ds, out, rfl, rfl, rfl, hk1, by omega, keepf ⟨HT3.out, by rw [HV.out, HV2.out], HT.out.2.2⟩⟩⟩
    have e62 : ((x : Int) == 62) = false := by simp; omega
    cases hD : hexD x with
    | none =>
      have HV2 := keepf (hex_bad (last := last) (ds := ds) (p := k) (l := bs.drop (k + 1)) h62 HGS.out hD)
      have hv : hexV x = 0 := by unfold hexV; rw [hD]; rfl
      rw [hv, hD] at HDG1
      clear hv hD hv16
      simp only [Option.isSome_none] at HDG1
      go_wp2_with first
        | (go_at_call 26; refine (HTA.out _ _ _ _ HT.out.1.1.here HX.out).mono ?_; rintro e w3 ⟨rfl, h3⟩; have HT3 := keepf (HTR.out _ _ _ _ _ 0 _ _ HT.out.1 h3 HT.out.1.2.2); clear h3; obtain ⟨r0, r1, r2, r3, z0, z1, z2, z3⟩ := HT3.out.2.1.cl4)
        | (go_at_call 42; refine (HDG1.out _).mono ?_; rintro e w5 ⟨rfl, rfl⟩)
        | (go_at_call 13; refine (HSP1.out _).mono ?_; rintro e w5 ⟨rfl, rfl⟩)
      simp only [hops]
      refine bodyPost_ret (v := .tuple #[.agg #[.int .i64 0, .int .i64 0, .string ⟨#[]⟩, .slice none 0 0], .int .i64 11]) (by simp [results, Try.results31, go_sem, r0, r1, r2, r3]) rfl ?_
      refine ⟨by rw [HV.out, HV2.out, TkV_err (by decide)], k + 1, fun e => absurd (by rw [HV.out, HV2.out] at e; exact e) (by decide), ?_⟩
      exact (HT3.out.1.re.set4 hgR hgW hgw _ _ _ _).back HKB.out
    | some d =>
      have HV2 := keepf (hex_dig (last := last) (ds := ds) (p := k) (l := bs.drop (k + 1)) h62 HGS.out hD)
      have hv : hexV x = d := by unfold hexV; rw [hD]; rfl
      rw [hv, hD] at HDG1
      rw [hv] at hv16
      clear hv hD
      simp only [Option.isSome_some] at HDG1
      have hsh : ((d : Int) * 2 ^ 4 % 256) = ((16 * d : Nat) : Int) := by omega
      have hsh2 : ((d : Int) * 16 % 256) = ((16 * d : Nat) : Int) := by omega
      cases odd
      · have HN := keepf (HT.out.2.2.one hv16)
        go_wp2_with first | (go_at_call 26; refine (HTA.out _ _ _ _ HT.out.1.1.here HX.out).mono ?_; rintro e w3 ⟨rfl, h3⟩; have HT3 := keepf (HTR.out _ _ _ _ _ 0 _ _ HT.out.1 h3 HT.out.1.2.2); clear h3) | (go_at_call 42; refine (HDG1.out _).mono ?_; rintro e w5 ⟨rfl, rfl⟩) | (go_at_call 13; refine (HSP1.out _).mono ?_; rintro e w5 ⟨rfl, rfl⟩)
        go_step3
        exact ⟨(bs.length - (k + 1)) + 1, by omega, .inl ⟨rfl, rfl, rfl, rfl, rfl, k + 1, 16 * d, true, ds ++ [d], out, rfl, by first | rfl | exact congrArg (Value.int .u8) (by simp; omega), rfl, hk1, by omega, keepf ⟨HT3.out, by rw [HV.out, HV2.out], HN.out⟩⟩⟩
      · have HN := keepf (fun h' => HT.out.2.2.two (d := d) (h' := h'))
        obtain ⟨a, ha, ha2⟩ := HT.out.2.2.lt
        have hor := or_16 ha ha2 hv16
        have hy256 : h + d < 256 := by omega
        obtain ⟨y, hy⟩ : ∃ y, y = h + d := ⟨_, rfl⟩
        rw [← hy] at hor hy256 HN
        clear hy ha ha2
        go_wp2_with first | (go_at_call 26; refine (HTA.out _ _ _ _ HT.out.1.1.here HX.out).mono ?_; rintro e w3 ⟨rfl, h3⟩; have HT3 := keepf (HTR.out _ _ _ _ _ 0 _ _ HT.out.1 h3 HT.out.1.2.2); clear h3) | (go_at_call 42; refine (HDG1.out _).mono ?_; rintro e w5 ⟨rfl, rfl⟩) | (go_at_call 13; refine (HSP1.out _).mono ?_; rintro e w5 ⟨rfl, rfl⟩) | (go_at_call 39; refine (HWB.out _ _ _ y HT3.out.1.here (by omega)).mono ?_; rintro e w4 ⟨rfl, h4⟩; have HT4 := keepf (HTR.out _ _ _ _ _ 0 _ _ HT3.out h4 (mem_snoc HT3.out.2.2 hy256)); clear h4)
        go_step3
        exact ⟨(bs.length - (k + 1)) + 1, by omega, .inl ⟨rfl, rfl, rfl, rfl, rfl, k + 1, 16 * d, false, ds ++ [d], out ++ [y], rfl, by first | rfl | exact congrArg (Value.int .u8) (by simp; omega), rfl, hk1, by simp only [List.length_append, List.length_cons, List.length_nil]; omega, keepf ⟨HT4.out, by rw [HV.out, HV2.out], HN.out _⟩⟩⟩
end Go.Proofs.Ytmmehaghcfdjdaa
