/- Merged by program: PTxtW LexC PRun RLx4 PHex. -/
import Derived.Test.YtaababegolfjeaaG01
import Derived.Test.YtaababegolfjeaaG09
import Derived.Deep.RegionHeld3
import Derived.BigRegion
import Derived.Deep.RegionLaw
/- The reader's text in brackets: the walk (written by mkptxt.py). -/
namespace Go.Proofs.Ytaababegolfjeaa
open Go.RowKit
set_option linter.unusedVariables false
set_option linter.unusedSimpArgs false

theorem TxR.step {V w X X' : World} {A : Option Addr} {bs : List Nat} {c : Nat} {last : Bool} {R g p k deep k' deep' : Nat} {out out' : List Nat} (h : TxR V w A bs c last R g p k deep out X) (h' : RD X w X' A bs.length c last R k' out') (hg : g ≠ R) (hb : ∀ d ∈ out', d < 256) : TxR V w A bs c last R g p k' deep' out' X' :=
  ⟨h'.base (h.1.kb.trans h'.kb), h'.kb _ _ _ hg (by decide) h.2.1, hb⟩

theorem mem_snoc {out : List Nat} {x : Nat} (h : ∀ d ∈ out, d < 256) (hx : x < 256) : ∀ d ∈ out ++ [x], d < 256 := by
  intro d hd
  rcases List.mem_append.1 hd with h1 | h1
  · exact h d h1
  · rw [List.mem_singleton.1 h1]; exact hx

theorem TkV_err {kind : Nat} {er : Int} {l : List Nat} (h : er ≠ 0) : TkV kind (er, l) = .tuple #[.agg #[.int .i64 0, .int .i64 0, .string ⟨#[]⟩, .slice none 0 0], .int .i64 er] := by
  unfold TkV
  rw [if_neg h]

theorem TkV_ok {kind : Nat} {l : List Nat} : TkV kind (0, l) = .tuple #[.agg #[.int .i64 (kind : Nat), .int .i64 0, .string (sb l), .slice none 0 0], .int .i64 0] := rfl

set_option maxHeartbeats 8000000 in
set_option maxRecDepth 100000 in
theorem ptext_any {V w W : World} {A : Option Addr} {bs : List Nat} {c R p : Nat} {last : Bool} (h : RD V w W A bs.length c last R p []) (hS : Src w 1 A bs.length c (lcells bs)) (hl : bs.length ≤ 100000) (hc : bs.length ≤ c) (hp : p ≤ bs.length) (hb : ∀ d ∈ bs, d < 256) :
    Calls Try.prog 34 #[.pointer (some ⟨R, 0, none⟩)] W (PTo V w R 4 (txtO last 1 [] p (bs.drop p))) := by
  have hl6 : bs.length ≤ 1000000 := by omega
  have HTE := keepf (fun X out (hX : RD X w X A bs.length c last R bs.length out) => ptake_end hX)
  have HTA := keepf (fun X out k x (hX : RD X w X A bs.length c last R k out) (hx : bs[k]? = some x) => ptake_at hX hS hl6 hc hx)
  have HPE := keepf (fun X out (hX : RD X w X A bs.length c last R bs.length out) => ppass_end hX 10)
  have HPN := keepf (fun X out k x (hX : RD X w X A bs.length c last R k out) (hx : bs[k]? = some x) (hy : x ≠ 10) => ppass_no hX hS hl6 hc hx 10 hy)
  have HPA := keepf (fun X out k (hX : RD X w X A bs.length c last R k out) (hx : bs[k]? = some 10) => ppass_at hX hS hl6 hc hx)
  have HWB := keepf (fun X out k y (hX : RD X w X A bs.length c last R k out) (ho : out.length ≤ 1000000) => pwbyte_any hX y ho)
  have HOC := keepf (fun X out k y (hX : RD X w X A bs.length c last R k out) (hk : k ≤ bs.length) (hy : y < 8) => poctal_any hX hS hl6 hc hk hb y hy)
  have HCU := keepf (fun X out k (hX : RD X w X A bs.length c last R k out) => pcut_any hX 10)
  have HBU := keepf (fun X out k (hX : RD X w X A bs.length c last R k out) (ho : ∀ d ∈ out, d < 256) (hm : out.length ≤ 1000000) => pbuilt_any hX ho hm 4)
  have HME := keepf (fun y X => pmeant_any y X)
  have HB := keepf hb
  have HKB := keepf h.kb
  have HR0 := keepf h.here
  have hRW := h.lt
  have hwW := h.chg.size
  obtain ⟨g, hg⟩ : ∃ g, g = W.heap.size := ⟨_, rfl⟩
  have HG := keepf hg
  have hgR : g ≠ R := by omega
  have hgW : W.heap.size ≤ g := by omega
  have hgw : w.heap.size ≤ g := by omega
  have HTR := keepf (fun (X X' : World) (k k' deep deep' : Nat) (out out' : List Nat) (h : TxR W w A bs c last R g p k deep out X) (h' : RD X w X' A bs.length c last R k' out') (hb : ∀ d ∈ out', d < 256) => TxR.step (deep' := deep') h h' hgR hb)
  have HL6 := keepf hl6
  clear h hS hb hc hl6 hg hwW hRW
  go_enter Try.func34, Try.ntmps34
  go_wp2
  refine wp_scope3 (TxJ0 W w A bs c last R g p) (TxJ1 W w A bs c last R g p) (TxJ2 W w A bs c last R g p) rfl rfl rfl ?pass0 ?pass1 ?pass2 ?first
  case first =>
    intro hpass
    have HPass := keepf hpass
    clear hpass
    go_wp2
    go_step3
    rename_i hK
    refine hK _ _ (HPass.out _ _ _ ⟨rfl, rfl, rfl, by rw [HG.out]; rfl, p, 1, [], rfl, rfl, hp, Nat.le_refl _, by omega, Nat.zero_le _, keepf ⟨⟨HR0.out.call ((Chg.refl NoS W).alloc _), by rw [HG.out]; exact Blk.new _ _ _, fun d hd => by cases hd⟩, rfl⟩⟩)
  case pass1 =>
    intro n x w1 hx
    obtain ⟨h1, h2, h3, h4, k, deep, out, rfl, HT⟩ := hx
    refine slots_80 h1 h2 h3 h4 (C := fun y => Code.wp _ _ _ y w1) ?_
    intro f _
    obtain ⟨r0, r1, r2, r3, z0, z1, z2, z3⟩ := HT.out.1.2.1.cl4
    have HRD := keepf HT.out.1.1
    have HV := keepf HT.out.2
    clear h1 h2 h3 h4 HT
    have hec : (if last then (10 : Int) else 6) = cutE last := rfl
    have hne := cutE_ne last
    obtain ⟨er, her⟩ : ∃ er, er = cutE last := ⟨_, rfl⟩
    have HCU1 := keepf (HCU.out w1 _ _ HRD.out.here)
    rw [hec, ← her] at HCU1
    rw [← her] at HV hne
    have HNE := keepf hne
    clear hec her hne
    go_wp2_with (go_at_call 32; refine HCU1.out.mono ?_; rintro e w3 ⟨rfl, rfl⟩)
    simp only [hops]
    refine bodyPost_ret (v := .tuple #[.agg #[.int .i64 0, .int .i64 0, .string ⟨#[]⟩, .slice none 0 0], .int .i64 er]) (by simp [results, Try.results34, go_sem, r0, r1, r2, r3]) rfl ?_
    refine ⟨by rw [HV.out, TkV_err HNE.out], k, fun e => absurd (by rw [HV.out] at e; exact e) HNE.out, ?_⟩
    exact (HRD.out.re.set4 hgR hgW hgw _ _ _ _).back HKB.out
  case pass0 =>
    intro n x w1 hx
    obtain ⟨h1, h2, h3, h4, k, deep, out, h5, rfl, hk, hd1, hd2, hm, HT⟩ := hx
    refine slots_80 h1 h2 h3 h4 (C := fun y => Code.wp _ _ _ y w1) ?_
    intro f hf
    rw [h5] at hf
    simp only [hf]
    clear h1 h2 h3 h4 h5 hf
    by_cases hkn : k = bs.length
    · subst hkn
      have HV := keepf (show txtO last 1 [] p (bs.drop p) = (cutE last, [], 0) from by rw [HT.out.2, List.drop_of_length_le (Nat.le_refl _), txtO_nil])
      go_wp2_with (go_at_call 31; refine (HTE.out _ _ HT.out.1.1.here).mono ?_; rintro e w3 ⟨rfl, h3⟩; have HT3 := keepf (HTR.out _ _ _ _ _ deep _ _ HT.out.1 h3 HT.out.1.2.2); clear h3)
      go_step3
      exact ⟨0, by omega, .inr (.inl ⟨rfl, rfl, rfl, rfl, rfl, _, deep, _, rfl, keepf ⟨HT3.out, HV.out⟩⟩)⟩
    obtain ⟨x, hx, hd⟩ := drop_at (bs := bs) (k := k) (by omega)
    have hx256 := HB.out x (List.mem_of_getElem? hx)
    have HX := keepf hx
    have HV := keepf (show txtO last 1 [] p (bs.drop p) = txtO last deep out k (x :: bs.drop (k + 1)) from by rw [HT.out.2, hd])
    have HLX := keepf (show (bs.drop (k + 1)).length = bs.length - (k + 1) from List.length_drop)
    have hk1 : k + 1 ≤ bs.length := by omega
    clear hx hd
    by_cases h92 : x = 92
    · subst h92
      go_wp2_with (go_at_call 31; refine (HTA.out _ _ _ _ HT.out.1.1.here HX.out).mono ?_; rintro e w3 ⟨rfl, h3⟩; have HT3 := keepf (HTR.out _ _ _ _ _ deep _ _ HT.out.1 h3 HT.out.1.2.2); clear h3)
      go_step3
      exact ⟨2 * (bs.length - (k + 1)) + 2, by omega, .inr (.inr ⟨rfl, rfl, rfl, rfl, rfl, k, deep, out, rfl, rfl, hk1, hd1, hd2, hm, keepf ⟨HT3.out, HV.out⟩⟩)⟩
    have e92 : ((x : Int) == 92) = false := by simp; omega
    by_cases h40 : x = 40
    · subst h40
      have d0 : ((deep : Int) + 1 == 0) = false := by simp; omega
      clear h92 e92
      go_wp2_with first | (go_at_call 31; refine (HTA.out _ _ _ _ HT.out.1.1.here HX.out).mono ?_; rintro e w3 ⟨rfl, h3⟩; have HT3 := keepf (HTR.out _ _ _ _ _ deep _ _ HT.out.1 h3 HT.out.1.2.2); clear h3) | (go_at_call 47; refine (HWB.out _ _ _ 40 HT3.out.1.here (by omega)).mono ?_; rintro e w4 ⟨rfl, h4⟩; have HT4 := keepf (HTR.out _ _ _ _ _ (deep + 1) _ _ HT3.out h4 (mem_snoc HT3.out.2.2 (by decide))); clear h4)
      go_step3
      refine ⟨2 * (bs.length - (k + 1)) + 1, by omega, .inl ⟨rfl, rfl, rfl, rfl, rfl, k + 1, deep + 1, out ++ [40], rfl, rfl, by omega, by omega, by omega, by (try simp only [List.length_append, List.length_cons, List.length_nil]); omega, keepf ⟨HT4.out, by rw [HV.out, txt_40]⟩⟩⟩
    have e40 : ((x : Int) == 40) = false := by simp; omega
    by_cases h41 : x = 41
    · subst h41
      clear h92 e92 h40 e40
      by_cases hd : deep = 1
      · subst hd
        have HE := keepf (txt_41e (last := last) (deep := 1) (k := k) (out := out) (l := bs.drop (k + 1)) rfl)
        go_upto_region 14 with (go_at_call 31; refine (HTA.out _ _ _ _ HT.out.1.1.here HX.out).mono ?_; rintro e w3 ⟨rfl, h3⟩; have HT3 := keepf (HTR.out _ _ _ _ _ 1 _ _ HT.out.1 h3 HT.out.1.2.2); clear h3)
        have hKB3 := HT3.out.1.here
        go_upto_region 24 with (go_at_call 46; refine (HBU.out _ _ _ HT3.out.1.here HT3.out.2.2 (by omega)).mono ?_; rintro e w4 ⟨rfl, h4⟩; obtain ⟨r0, r1, r2, r3, z0, z1, z2, z3⟩ := (h4.kb _ _ _ hgR (by decide) HT3.out.2.1).cl4; have HRE := keepf (h4.back HT3.out.1.kb); clear h4)
        simp only [hops]
        refine bodyPost_ret (v := .tuple #[.agg #[.int .i64 4, .int .i64 0, .string (sb out), .slice none 0 0], .int .i64 0]) (by simp [results, Try.results34, go_sem, r0, r1, r2, r3]) rfl ?_
        refine ⟨by rw [HV.out, HE.out]; rfl, k + 1, fun e => by rw [HV.out, HE.out], ?_⟩
        exact (HRE.out.set4 hgR hgW hgw _ _ _ _).back HKB.out
      · have d0 : ((deep : Int) - 1 == 0) = false := by simp; omega
        have d1 : (0 : Int) ≤ (deep : Int) - 1 := by omega
        go_wp2_with first | (go_at_call 31; refine (HTA.out _ _ _ _ HT.out.1.1.here HX.out).mono ?_; rintro e w3 ⟨rfl, h3⟩; have HT3 := keepf (HTR.out _ _ _ _ _ deep _ _ HT.out.1 h3 HT.out.1.2.2); clear h3) | (go_at_call 47; refine (HWB.out _ _ _ 41 HT3.out.1.here (by omega)).mono ?_; rintro e w4 ⟨rfl, h4⟩; have HT4 := keepf (HTR.out _ _ _ _ _ (deep - 1) _ _ HT3.out h4 (mem_snoc HT3.out.2.2 (by decide))); clear h4)
        go_step3
        refine ⟨2 * (bs.length - (k + 1)) + 1, by omega, .inl ⟨rfl, rfl, rfl, rfl, rfl, k + 1, deep - 1, out ++ [41], congrArg (Value.int .i64) (by omega), rfl, by omega, by omega, by omega, by (try simp only [List.length_append, List.length_cons, List.length_nil]); omega, keepf ⟨HT4.out, by rw [HV.out, txt_41 hd]⟩⟩⟩
    have e41 : ((x : Int) == 41) = false := by simp; omega
    have d0 : ((deep : Int) == 0) = false := by simp; omega
    by_cases h13 : x = 13
    · subst h13
      clear h92 e92 h40 e40 h41 e41
      by_cases hkz : k + 1 = bs.length
      · have HZ := keepf (show bs.drop (k + 1) = [] from List.drop_of_length_le (by omega))
        have HT3E := keepf (fun X out (hX : RD X w X A bs.length c last R (k + 1) out) => HPE.out X out (by rw [← hkz]; rw [← hkz] at hX; exact hX))
        go_wp2_with first | (go_at_call 35; refine (HT3E.out _ _ HT3.out.1.here).mono ?_; rintro e w5 ⟨rfl, h5⟩; have HT5 := keepf (HTR.out _ _ _ _ _ deep _ _ HT3.out (by rw [← hkz]; rw [← hkz] at h5; exact h5) HT3.out.2.2); clear h5) | (go_at_call 31; refine (HTA.out _ _ _ _ HT.out.1.1.here HX.out).mono ?_; rintro e w3 ⟨rfl, h3⟩; have HT3 := keepf (HTR.out _ _ _ _ _ deep _ _ HT.out.1 h3 HT.out.1.2.2); clear h3) | (go_at_call 47; refine (HWB.out _ _ _ 10 HT5.out.1.here (by omega)).mono ?_; rintro e w4 ⟨rfl, h4⟩; have HT4 := keepf (HTR.out _ _ _ _ _ deep _ _ HT5.out h4 (mem_snoc HT5.out.2.2 (by decide))); clear h4)
        go_step3
        refine ⟨2 * (bs.length - (k + 1)) + 1, by omega, .inl ⟨rfl, rfl, rfl, rfl, rfl, k + 1, deep, out ++ [10], rfl, rfl, by omega, by omega, by omega, by (try simp only [List.length_append, List.length_cons, List.length_nil]); omega, keepf ⟨HT4.out, by rw [HV.out, HZ.out, txt_13z]⟩⟩⟩
      obtain ⟨y, hy, hdy⟩ := drop_at (bs := bs) (k := k + 1) (by omega)
      have HY := keepf hy
      have HDY := keepf hdy
      have hk2 : k + 2 ≤ bs.length := by omega
      clear hy hdy
      by_cases hy10 : y = 10
      · subst hy10
        go_wp2_with first | (go_at_call 35; refine (HPA.out _ _ _ HT3.out.1.here HY.out).mono ?_; rintro e w5 ⟨rfl, h5⟩; have HT5 := keepf (HTR.out _ _ _ _ _ deep _ _ HT3.out h5 HT3.out.2.2); clear h5) | (go_at_call 31; refine (HTA.out _ _ _ _ HT.out.1.1.here HX.out).mono ?_; rintro e w3 ⟨rfl, h3⟩; have HT3 := keepf (HTR.out _ _ _ _ _ deep _ _ HT.out.1 h3 HT.out.1.2.2); clear h3) | (go_at_call 47; refine (HWB.out _ _ _ 10 HT5.out.1.here (by omega)).mono ?_; rintro e w4 ⟨rfl, h4⟩; have HT4 := keepf (HTR.out _ _ _ _ _ deep _ _ HT5.out h4 (mem_snoc HT5.out.2.2 (by decide))); clear h4)
        go_step3
        refine ⟨2 * (bs.length - (k + 2)) + 1, by omega, .inl ⟨rfl, rfl, rfl, rfl, rfl, k + 2, deep, out ++ [10], rfl, rfl, by omega, by omega, by omega, by (try simp only [List.length_append, List.length_cons, List.length_nil]); omega, keepf ⟨HT4.out, by rw [HV.out, txt_13b (by rw [HDY.out]; simp) (by rw [HDY.out]; rfl), List.drop_drop]⟩⟩⟩
      · go_wp2_with first | (go_at_call 35; refine (HPN.out _ _ _ _ HT3.out.1.here HY.out hy10).mono ?_; rintro e w5 ⟨rfl, h5⟩; have HT5 := keepf (HTR.out _ _ _ _ _ deep _ _ HT3.out h5 HT3.out.2.2); clear h5) | (go_at_call 31; refine (HTA.out _ _ _ _ HT.out.1.1.here HX.out).mono ?_; rintro e w3 ⟨rfl, h3⟩; have HT3 := keepf (HTR.out _ _ _ _ _ deep _ _ HT.out.1 h3 HT.out.1.2.2); clear h3) | (go_at_call 47; refine (HWB.out _ _ _ 10 HT5.out.1.here (by omega)).mono ?_; rintro e w4 ⟨rfl, h4⟩; have HT4 := keepf (HTR.out _ _ _ _ _ deep _ _ HT5.out h4 (mem_snoc HT5.out.2.2 (by decide))); clear h4)
        go_step3
        refine ⟨2 * (bs.length - (k + 1)) + 1, by omega, .inl ⟨rfl, rfl, rfl, rfl, rfl, k + 1, deep, out ++ [10], rfl, rfl, by omega, by omega, by omega, by (try simp only [List.length_append, List.length_cons, List.length_nil]); omega, keepf ⟨HT4.out, by rw [HV.out, txt_13n (by rw [HDY.out]; simp) (by rw [HDY.out]; simpa using hy10)]⟩⟩⟩
    have e13 : ((x : Int) == 13) = false := by simp; omega
    go_wp2_with first | (go_at_call 31; refine (HTA.out _ _ _ _ HT.out.1.1.here HX.out).mono ?_; rintro e w3 ⟨rfl, h3⟩; have HT3 := keepf (HTR.out _ _ _ _ _ deep _ _ HT.out.1 h3 HT.out.1.2.2); clear h3) | (go_at_call 47; refine (HWB.out _ _ _ x HT3.out.1.here (by omega)).mono ?_; rintro e w4 ⟨rfl, h4⟩; have HT4 := keepf (HTR.out _ _ _ _ _ deep _ _ HT3.out h4 (mem_snoc HT3.out.2.2 hx256)); clear h4)
    go_step3
    refine ⟨2 * (bs.length - (k + 1)) + 1, by omega, .inl ⟨rfl, rfl, rfl, rfl, rfl, k + 1, deep, out ++ [x], rfl, rfl, by omega, by omega, by omega, by (try simp only [List.length_append, List.length_cons, List.length_nil]); omega, keepf ⟨HT4.out, by rw [HV.out, txt_x h92 h13 h40 h41]⟩⟩⟩
  case pass2 =>
    intro n x w1 hx
    obtain ⟨h1, h2, h3, h4, k, deep, out, h5, rfl, hk, hd1, hd2, hm, HT⟩ := hx
    refine slots_80 h1 h2 h3 h4 (C := fun y => Code.wp _ _ _ y w1) ?_
    intro f hf
    rw [h5] at hf
    simp only [hf]
    clear h1 h2 h3 h4 h5 hf
    by_cases hkn : k + 1 = bs.length
    · have HV := keepf (show txtO last 1 [] p (bs.drop p) = (cutE last, [], 0) from by rw [HT.out.2, List.drop_of_length_le (by omega), txt_sz])
      have HTE1 := keepf (fun X out (hX : RD X w X A bs.length c last R (k + 1) out) => HTE.out X out (by rw [← hkn]; rw [← hkn] at hX; exact hX))
      go_wp2_with (go_at_call 31; refine (HTE1.out _ _ HT.out.1.1.here).mono ?_; rintro e w3 ⟨rfl, h3⟩; have HT3 := keepf (HTR.out _ _ _ _ _ deep _ _ HT.out.1 h3 HT.out.1.2.2); clear h3)
      go_step3
      exact ⟨0, by omega, .inr (.inl ⟨rfl, rfl, rfl, rfl, rfl, _, deep, _, rfl, keepf ⟨HT3.out, HV.out⟩⟩)⟩
    obtain ⟨x, hx, hd⟩ := drop_at (bs := bs) (k := k + 1) (by omega)
    have hx256 := HB.out x (List.mem_of_getElem? hx)
    have HX := keepf hx
    have HV := keepf (show txtO last 1 [] p (bs.drop p) = txtO last deep out k (92 :: x :: bs.drop (k + 2)) from by rw [HT.out.2, hd])
    have hk1 : k + 2 ≤ bs.length := by omega
    clear hx hd
    by_cases h13 : x = 13
    · subst h13
      by_cases hkz : k + 2 = bs.length
      · have HZ := keepf (show bs.drop (k + 2) = [] from List.drop_of_length_le (by omega))
        have HT3E := keepf (fun X out (hX : RD X w X A bs.length c last R (k + 1 + 1) out) => HPE.out X out (by rw [← hkz]; rw [← hkz] at hX; exact hX))
        go_wp2_with first | (go_at_call 35; refine (HT3E.out _ _ HT3.out.1.here).mono ?_; rintro e w5 ⟨rfl, h5⟩; have HT4 := keepf (HTR.out _ _ _ _ _ deep _ _ HT3.out (by rw [← hkz]; rw [← hkz] at h5; exact h5) HT3.out.2.2); clear h5) | (go_at_call 31; refine (HTA.out _ _ _ _ HT.out.1.1.here HX.out).mono ?_; rintro e w3 ⟨rfl, h3⟩; have HT3 := keepf (HTR.out _ _ _ _ _ deep _ _ HT.out.1 h3 HT.out.1.2.2); clear h3)
        go_step3
        refine ⟨2 * (bs.length - (k + 2)) + 1, by omega, .inl ⟨rfl, rfl, rfl, rfl, rfl, k + 2, deep, out, rfl, rfl, by omega, by omega, by omega, by (try simp only [List.length_append, List.length_cons, List.length_nil]); omega, keepf ⟨HT4.out, by rw [HV.out, HZ.out, txt_s13z]⟩⟩⟩
      obtain ⟨y, hy, hdy⟩ := drop_at (bs := bs) (k := k + 2) (by omega)
      have HY := keepf hy
      have HDY := keepf hdy
      have hk2 : k + 3 ≤ bs.length := by omega
      clear hy hdy
      by_cases hy10 : y = 10
      · subst hy10
        go_wp2_with first | (go_at_call 35; refine (HPA.out _ _ _ HT3.out.1.here HY.out).mono ?_; rintro e w5 ⟨rfl, h5⟩; have HT4 := keepf (HTR.out _ _ _ _ _ deep _ _ HT3.out h5 HT3.out.2.2); clear h5) | (go_at_call 31; refine (HTA.out _ _ _ _ HT.out.1.1.here HX.out).mono ?_; rintro e w3 ⟨rfl, h3⟩; have HT3 := keepf (HTR.out _ _ _ _ _ deep _ _ HT.out.1 h3 HT.out.1.2.2); clear h3)
        go_step3
        refine ⟨2 * (bs.length - (k + 3)) + 1, by omega, .inl ⟨rfl, rfl, rfl, rfl, rfl, k + 3, deep, out, rfl, rfl, by omega, by omega, by omega, by (try simp only [List.length_append, List.length_cons, List.length_nil]); omega, keepf ⟨HT4.out, by rw [HV.out, txt_s13b (by rw [HDY.out]; rfl), List.drop_drop]⟩⟩⟩
      · go_wp2_with first | (go_at_call 35; refine (HPN.out _ _ _ _ HT3.out.1.here HY.out hy10).mono ?_; rintro e w5 ⟨rfl, h5⟩; have HT4 := keepf (HTR.out _ _ _ _ _ deep _ _ HT3.out h5 HT3.out.2.2); clear h5) | (go_at_call 31; refine (HTA.out _ _ _ _ HT.out.1.1.here HX.out).mono ?_; rintro e w3 ⟨rfl, h3⟩; have HT3 := keepf (HTR.out _ _ _ _ _ deep _ _ HT.out.1 h3 HT.out.1.2.2); clear h3)
        go_step3
        refine ⟨2 * (bs.length - (k + 2)) + 1, by omega, .inl ⟨rfl, rfl, rfl, rfl, rfl, k + 2, deep, out, rfl, rfl, by omega, by omega, by omega, by (try simp only [List.length_append, List.length_cons, List.length_nil]); omega, keepf ⟨HT4.out, by rw [HV.out, txt_s13n (by rw [HDY.out]; simpa using hy10) (by rw [HDY.out]; simp)]⟩⟩⟩
    have e13 : ((x : Int) == 13) = false := by simp; omega
    by_cases h10 : x = 10
    · subst h10
      go_wp2_with (go_at_call 31; refine (HTA.out _ _ _ _ HT.out.1.1.here HX.out).mono ?_; rintro e w3 ⟨rfl, h3⟩; have HT4 := keepf (HTR.out _ _ _ _ _ deep _ _ HT.out.1 h3 HT.out.1.2.2); clear h3)
      go_step3
      refine ⟨2 * (bs.length - (k + 2)) + 1, by omega, .inl ⟨rfl, rfl, rfl, rfl, rfl, k + 2, deep, out, rfl, rfl, by omega, by omega, by omega, by (try simp only [List.length_append, List.length_cons, List.length_nil]); omega, keepf ⟨HT4.out, by rw [HV.out, txt_s10]⟩⟩⟩
    have e10 : ((x : Int) == 10) = false := by simp; omega
    by_cases hoct : 48 ≤ x ∧ x ≤ 55
    · have HO := keepf (txt_soct (last := last) (deep := deep) (k := k) (out := out) (l := bs.drop (k + 2)) hoct)
      have hle := octs_le 2 (x - 48) (bs.drop (k + 2))
      rw [List.length_drop] at hle
      obtain ⟨u, hu⟩ : ∃ u, u = x - 48 := ⟨_, rfl⟩
      have hu8 : u < 8 := by omega
      have w2 : IntKind.u8.wrap ((x : Int) - 48) = (u : Int) := by rw [IntKind.wrap_u8]; omega
      have m1 : decide ((48 : Int) ≤ x) = true := by simp; omega
      have m2 : decide ((x : Int) ≤ 55) = true := by simp; omega
      have m3 : decide (48 ≤ x) = true := by simp; omega
      have m4 : decide (x ≤ 55) = true := by simp; omega
      rw [← hu] at HO hle
      obtain ⟨v, hv⟩ : ∃ v, (octs 2 u (bs.drop (k + 2))).1 % 256 = v := ⟨_, rfl⟩
      obtain ⟨q, hq⟩ : ∃ q, (octs 2 u (bs.drop (k + 2))).2 = q := ⟨_, rfl⟩
      have HOC1 := keepf (fun X out (hX : RD X w X A bs.length c last R (k + 1 + 1) out) => HOC.out X out (k + 1 + 1) u hX hk1 hu8)
      have hv256 : v < 256 := by rw [← hv]; exact Nat.mod_lt _ (by decide)
      have hvq : (octs 2 u (bs.drop (k + 1 + 1))).1 % 256 = v ∧ (octs 2 u (bs.drop (k + 1 + 1))).2 = q := ⟨hv, hq⟩
      rw [hvq.1, hvq.2] at HOC1
      rw [hv, hq] at HO
      rw [hq] at hle
      have hq2 := hle.2
      clear hle hv hq hvq hu hoct
      go_upto_region 22 with (go_at_call 31; refine (HTA.out _ _ _ _ HT.out.1.1.here HX.out).mono ?_; rintro e w3 ⟨rfl, h3⟩; have HT3 := keepf (HTR.out _ _ _ _ _ deep _ _ HT.out.1 h3 HT.out.1.2.2); clear h3)
      have hRR := HT3.out.1.new
      first
        | (go_loud (go_region_held3 (fun _ => True) (first | trivial | (go_keep; done))
            (first
              | (go_at_call 48; refine (HOC1.out _ _ (HT3.out.1.call ((Chg.refl NoS _).drew)).here).mono ?_; rintro e w5 ⟨rfl, h5⟩; have HT5 := keepf (HTR.out _ _ _ _ _ deep _ _ HT3.out (h5.base ((KB.chg ((Chg.refl NoS _).drew)).trans h5.kb)) HT3.out.2.2); clear h5)
              | (go_at_call 47; refine (HWB.out _ _ _ v HT5.out.1.here (by omega)).mono ?_; rintro e w4 ⟨rfl, h4⟩; have HT4 := keepf (HTR.out _ _ _ _ _ deep _ _ HT5.out h4 (mem_snoc HT5.out.2.2 hv256)); clear h4))))
        | fail "region"
      go_wp2_with fail
      go_step3
      refine ⟨2 * (bs.length - (k + 2 + q)) + 1, by omega, .inl ⟨rfl, rfl, rfl, rfl, rfl, k + 2 + q, deep, out ++ [v], rfl, rfl, by omega, by omega, by omega, by (try simp only [List.length_append, List.length_cons, List.length_nil]); omega, keepf ⟨HT4.out, by rw [HV.out, HO.out, List.drop_drop]⟩⟩⟩
    have HM := keepf (txt_sx (last := last) (deep := deep) (k := k) (out := out) (l := bs.drop (k + 2)) h10 h13 hoct)
    have hm256 : mnt x < 256 := mnt_lt hx256
    have HME1 := keepf (fun X => HME.out x X)
    obtain ⟨v, hv⟩ : ∃ v, mnt x = v := ⟨_, rfl⟩
    rw [hv] at HM HME1 hm256
    have m0 : (decide ((48 : Int) ≤ x) && decide ((x : Int) ≤ 55)) = false := by simp; omega
    clear hv
    by_cases hlo : 48 ≤ x
    · have hhi : ¬ x ≤ 55 := by omega
      have m1 : decide ((48 : Int) ≤ x) = true := by simp; omega
      have m2 : decide ((x : Int) ≤ 55) = false := by simp; omega
      have m3 : decide (48 ≤ x) = true := by simp; omega
      have m4 : decide (x ≤ 55) = false := by simp; omega
      clear hoct
      go_upto_region 23 with (go_at_call 31; refine (HTA.out _ _ _ _ HT.out.1.1.here HX.out).mono ?_; rintro e w3 ⟨rfl, h3⟩; have HT3 := keepf (HTR.out _ _ _ _ _ deep _ _ HT.out.1 h3 HT.out.1.2.2); clear h3)
      first
        | (go_loud (go_region_held3 (fun _ => True) (first | trivial | (go_keep; done))
            (first
              | (go_at_call 49; refine (HME1.out _).mono ?_; rintro e w5 ⟨rfl, rfl⟩; have HT5 := keepf (HTR.out _ _ _ _ _ deep _ _ HT3.out (HT3.out.1.here.call ((Chg.refl NoS _).drew)) HT3.out.2.2))
              | (go_at_call 47; refine (HWB.out _ _ _ v HT5.out.1.here (by omega)).mono ?_; rintro e w4 ⟨rfl, h4⟩; have HT4 := keepf (HTR.out _ _ _ _ _ deep _ _ HT5.out h4 (mem_snoc HT5.out.2.2 hm256)); clear h4))))
        | fail "region"
      go_wp2_with fail
      go_step3
      refine ⟨2 * (bs.length - (k + 2)) + 1, by omega, .inl ⟨rfl, rfl, rfl, rfl, rfl, k + 2, deep, out ++ [v], rfl, rfl, by omega, by omega, by omega, by (try simp only [List.length_append, List.length_cons, List.length_nil]); omega, keepf ⟨HT4.out, by rw [HV.out, HM.out]⟩⟩⟩
    · have m1 : decide ((48 : Int) ≤ x) = false := by simp; omega
      have m3 : decide (48 ≤ x) = false := by simp; omega
      clear hoct
      go_upto_region 23 with (go_at_call 31; refine (HTA.out _ _ _ _ HT.out.1.1.here HX.out).mono ?_; rintro e w3 ⟨rfl, h3⟩; have HT3 := keepf (HTR.out _ _ _ _ _ deep _ _ HT.out.1 h3 HT.out.1.2.2); clear h3)
      first
        | (go_loud (go_region_held3 (fun _ => True) (first | trivial | (go_keep; done))
            (first
              | (go_at_call 49; refine (HME1.out _).mono ?_; rintro e w5 ⟨rfl, rfl⟩; have HT5 := keepf (HTR.out _ _ _ _ _ deep _ _ HT3.out (HT3.out.1.here.call ((Chg.refl NoS _).drew)) HT3.out.2.2))
              | (go_at_call 47; refine (HWB.out _ _ _ v HT5.out.1.here (by omega)).mono ?_; rintro e w4 ⟨rfl, h4⟩; have HT4 := keepf (HTR.out _ _ _ _ _ deep _ _ HT5.out h4 (mem_snoc HT5.out.2.2 hm256)); clear h4))))
        | fail "region"
      go_wp2_with fail
      go_step3
      refine ⟨2 * (bs.length - (k + 2)) + 1, by omega, .inl ⟨rfl, rfl, rfl, rfl, rfl, k + 2, deep, out ++ [v], rfl, rfl, by omega, by omega, by omega, by (try simp only [List.length_append, List.length_cons, List.length_nil]); omega, keepf ⟨HT4.out, by rw [HV.out, HM.out]⟩⟩⟩

end Go.Proofs.Ytaababegolfjeaa

/- Slices cut out of slices of bytes (as stage 7's text Cut7 has it, under names of its own). -/
namespace Go.Proofs.Ytaababegolfjeaa
open Go.RowKit
set_option linter.unusedVariables false
set_option linter.unusedSimpArgs false

/-- Where a slice begins that is cut out of one of so great a capacity. -/
def cutL (A : Option Addr) (lo cap : Nat) : Option Addr := if cap = lo then A else A.map (·.add (lo * 1))

theorem cutL_block {A : Option Addr} {lo cap : Nat} {ad : Addr} (h : cutL A lo cap = some ad) : ∃ b, A = some b ∧ b.block = ad.block := by
  unfold cutL at h
  split at h
  · exact ⟨ad, h, rfl⟩
  · rcases A with _ | b
    · cases h
    · simp only [Option.map_some, Option.some.injEq] at h
      subst h
      refine ⟨b, rfl, ?_⟩
      unfold Addr.add
      split <;> rfl

theorem cutL_zero (A : Option Addr) (cap : Nat) : cutL A 0 cap = A := by
  unfold cutL
  split
  · rfl
  · rcases A with _ | b
    · rfl
    · simp [Addr.add]

theorem add_addL (a : Addr) (i j : Nat) : (a.add (i * 1)).add j = a.add (i + j) := by
  unfold Addr.add
  by_cases hi : i = 0
  · subst hi; simp
  · by_cases hj : j = 0
    · subst hj; simp [hi]
    · simp [hi, hj]; omega

theorem src_cutL {w : World} {A : Option Addr} {n c lo m : Nat} {xs : List Value} (h : Src w 1 A n c xs) (hc : n ≤ c) (hm : lo + m ≤ n) : Src w 1 (cutL A lo c) m (c - lo) ((xs.drop lo).take m) := by
  have hl := h.1
  refine ⟨by simp; omega, fun e => ?_, fun ad e j u hu => ?_⟩
  · unfold cutL at e
    split at e
    · have := h.2.1 e; omega
    · rcases A with _ | b
      · have := h.2.1 rfl; omega
      · cases e
  · have hj : j < m := by
      have := (List.getElem?_eq_some_iff.1 hu).1
      simp at this
      omega
    rw [List.getElem?_take_of_lt hj, List.getElem?_drop] at hu
    unfold cutL at e
    rw [if_neg (by omega)] at e
    rcases A with _ | b
    · cases e
    · simp only [Option.map_some, Option.some.injEq] at e
      subst e
      rw [add_addL]
      exact h.2.2 b rfl (lo + j) u hu

theorem sizeL (w : World) : (sizeOf (Try.prog.elem 22)).run Try.prog w = .ok 1 w := by go_simp

set_option maxRecDepth 100000 in
theorem fromL (A : Option Addr) (len cap lo : Nat) (h : lo ≤ len) (w : World) : (Instr.sliceAt 22 (.slice A len cap) (some (.int .i64 (lo : Nat))) none none).run Try.prog w = .ok (.slice (cutL A lo cap) (len - lo) (cap - lo)) w := by
  rw [run_sliceAt_slice w _ _ _ _ _ Try.underlying22, run_slice_l w _ A len cap Try.underlying22 .i64 (lo : Nat) (by omega) (by omega), sizeL]
  simp [Result.andThen, sliced, cutL]

set_option maxRecDepth 100000 in
theorem toL (A : Option Addr) (len cap hi : Nat) (h : hi ≤ cap) (w : World) : (Instr.sliceAt 22 (.slice A len cap) none (some (.int .i64 (hi : Nat))) none).run Try.prog w = .ok (.slice A hi cap) w := by
  rw [run_sliceAt_slice w _ _ _ _ _ Try.underlying22, run_slice_h w _ A len cap Try.underlying22 .i64 (hi : Nat) (by omega) (by omega), sizeL]
  simp [Result.andThen, sliced, Addr.add]

set_option maxRecDepth 100000 in
theorem midL (A : Option Addr) (len cap lo hi : Nat) (h : lo ≤ hi) (h2 : hi ≤ cap) (w : World) : (Instr.sliceAt 22 (.slice A len cap) (some (.int .i64 (lo : Nat))) (some (.int .i64 (hi : Nat))) none).run Try.prog w = .ok (.slice (cutL A lo cap) (hi - lo) (cap - lo)) w := by
  rw [run_sliceAt_slice w _ _ _ _ _ Try.underlying22, run_slice_lh w _ A len cap Try.underlying22 .i64 .i64 (lo : Nat) (hi : Nat) (by omega) (by omega) (by omega), sizeL]
  simp [Result.andThen, sliced, cutL]

theorem cutL_some (b off lo c : Nat) : cutL (some ⟨b, off, none⟩) lo c = if c = lo then some ⟨b, off, none⟩ else some ⟨b, off + lo, none⟩ := by
  unfold cutL
  split
  · rfl
  · by_cases h : lo = 0
    · subst h; rfl
    · simp [Addr.add, h]

end Go.Proofs.Ytaababegolfjeaa

/- The reader's run of regular bytes (written by mkprun.py). -/
namespace Go.Proofs.Ytaababegolfjeaa
open Go.RowKit
set_option linter.unusedVariables false
set_option linter.unusedSimpArgs false

def RuJ (w w0 : World) (A : Option Addr) (bs : List Nat) (c : Nat) (last : Bool) (R p : Nat) (out : List Nat) (n : Nat) (x : Act) (w' : World) : Prop :=
  x.defers = [] ∧ x.tmps.size = 60 ∧ x.tmps.getD 0 undef = .pointer (some ⟨R, 0, none⟩) ∧ x.tmps.getD 4 undef = .int .i64 (p : Nat) ∧ x.tmps.getD 5 undef = .int .i64 0 ∧ ∃ k : Nat, n = (bs.length - k) + 1 ∧ k ≤ bs.length ∧ p ≤ k ∧
    Hid (RD w w0 w' A bs.length c last R k out ∧ p + rgs (bs.drop p) = k + rgs (bs.drop k))

theorem slots_60 {x : Act} {v0 v4 v5 : Value} {C : Act → Prop} (h1 : x.defers = []) (h2 : x.tmps.size = 60) (h3 : x.tmps.getD 0 undef = v0) (h4 : x.tmps.getD 4 undef = v4) (h5 : x.tmps.getD 5 undef = v5)
    (k : ∀ f : Nat → Value, C { tmps := #[v0, f 1, f 2, f 3, v4, v5, f 6, f 7, f 8, f 9, f 10, f 11, f 12, f 13, f 14, f 15, f 16, f 17, f 18, f 19, f 20, f 21, f 22, f 23, f 24, f 25, f 26, f 27, f 28, f 29, f 30, f 31, f 32, f 33, f 34, f 35, f 36, f 37, f 38, f 39, f 40, f 41, f 42, f 43, f 44, f 45, f 46, f 47, f 48, f 49, f 50, f 51, f 52, f 53, f 54, f 55, f 56, f 57, f 58, f 59], defers := [] }) : C x := by
  obtain ⟨t, d⟩ := x
  simp only at h1 h2 h3 h4 h5
  subst h1
  have h6 := k (fun i => t.getD i undef)
  rw [← h3, ← h4, ← h5] at h6
  rw [arr_slots t 60 h2]
  exact h6

theorem rgs_stop {x : Nat} {l : List Nat} (h : isRg x = false) : rgs (x :: l) = 0 := by rw [rgs, if_neg (by rw [h]; decide)]

theorem rgs_go {x : Nat} {l : List Nat} (h : isRg x = true) : rgs (x :: l) = rgs l + 1 := by rw [rgs, if_pos h]

def runE (last : Bool) (l : List Nat) : Int := if rgs l = l.length ∧ last = false then 6 else 0

set_option maxHeartbeats 4000000 in
set_option maxRecDepth 100000 in
theorem prun_any {V w W : World} {A : Option Addr} {bs : List Nat} {c R p : Nat} {last : Bool} {out : List Nat} (h : RD V w W A bs.length c last R p out) (hS : Src w 1 A bs.length c (lcells bs)) (hl : bs.length ≤ 100000) (hc : bs.length ≤ c) (hp : p ≤ bs.length) (hn0 : 0 < bs.length) :
    Calls Try.prog 51 #[.pointer (some ⟨R, 0, none⟩)] W fun e W' => e = .returned (.tuple #[.string (sb ((bs.drop p).take (rgs (bs.drop p)))), .int .i64 (runE last (bs.drop p))]) ∧ RD V w W' A bs.length c last R (p + rgs (bs.drop p)) out := by
  have HSP := keepf (fun y X => pspace_any y X)
  have HDL := keepf (fun y X => pdelim_any y X)
  have HCU := keepf (fun X k (hX : RD V w X A bs.length c last R k out) => pcut_any hX 0)
  have HR0 := keepf h
  have HS := keepf hS
  obtain ⟨c2, c3, c4, f3⟩ := h.cells
  obtain ⟨b, off, rfl, hcell⟩ := lcell hS (Chg.refl NoS w) hn0
  have HCELL := keepf hcell
  have HBR := keepf (fun (k x : Nat) (hx : bs[k]? = some x) => (show b ≠ R from by have h1 := cell_lt (hcell k x hx); have h2 := h.new; simp only at h1; omega))
  have HCV := keepf (fun (X : World) (hX : Chg NoS w X) (m : Nat) (hm : p + m ≤ bs.length) => (show (convert 22 9 (.slice (cutL (some ⟨b, off, none⟩) p c) m (c - p))).run Try.prog X = .ok (.string (sb ((bs.drop p).take m))) X from by
    have h1 := src_cutL (lo := p) (m := m) (Src.below (w0 := w) hS hX) hc hm
    have e : ((lcells bs).drop p).take m = lcells ((bs.drop p).take m) := by unfold lcells; rw [← List.map_drop, ← List.map_take]
    rw [e] at h1
    exact conv_l h1))
  obtain ⟨L, hL⟩ : ∃ L, L = rgs (bs.drop p) := ⟨_, rfl⟩
  have HLen := keepf (show p + L ≤ bs.length from by have := rgs_le (bs.drop p); rw [List.length_drop, ← hL] at this; omega)
  obtain ⟨S, hS2⟩ : ∃ S, S = sb ((bs.drop p).take L) := ⟨_, rfl⟩
  have HS2 := keepf hS2
  have HL := keepf hL
  have HEr := keepf (show runE last (bs.drop p) = if p + L = bs.length ∧ last = false then 6 else 0 from by
    unfold runE
    rw [← hL, List.length_drop]
    by_cases h1 : p + L = bs.length
    · by_cases h2 : last = false
      · rw [if_pos ⟨by omega, h2⟩, if_pos ⟨h1, h2⟩]
      · rw [if_neg (fun e => h2 e.2), if_neg (fun e => h2 e.2)]
    · rw [if_neg (fun e => h1 (by omega)), if_neg (fun e => h1 e.1)])
  rw [← hL, ← hS2]
  obtain ⟨E, hE⟩ : ∃ E, E = runE last (bs.drop p) := ⟨_, rfl⟩
  rw [← hE]
  rw [← hE] at HEr
  clear h hS hcell hE hL hS2
  go_enter Try.func51, Try.ntmps51
  go_wp2
  refine wp_scope1 (RuJ V w (some ⟨b, off, none⟩) bs c last R p out) rfl ?pass0 ?first
  case first =>
    intro hpass
    have HPass := keepf hpass
    clear hpass
    go_wp2
    go_step3
    rename_i hK
    refine hK _ _ (HPass.out _ _ _ ⟨rfl, rfl, rfl, rfl, rfl, p, rfl, hp, Nat.le_refl _, keepf ⟨HR0.out, rfl⟩⟩)
  case pass0 =>
    intro n x w1 hx
    obtain ⟨h1, h2, h3, h4, h5, k, rfl, hk, hpk, HT⟩ := hx
    refine slots_60 h1 h2 h3 h4 h5 (C := fun y => Code.wp _ _ _ y w1) ?_
    intro f
    clear h1 h2 h3 h4 h5 c2 c3 c4 f3
    obtain ⟨c2, c3, c4, f3⟩ := HT.out.1.cells
    by_cases hkn : k = bs.length
    · have HK := keepf (show p + L = k from by rw [HL.out, HT.out.2, hkn, List.drop_of_length_le (Nat.le_refl _)]; rfl)
      have HE1 := keepf (show (if last then (0 : Int) else 6) = E from by rw [HEr.out, HK.out]; cases last <;> simp [hkn])
      have HCU1 := keepf (fun X hX => HCU.out X k hX)
      rw [HE1.out] at HCU1
      have hcv := fun m m2 => HCV.out ((w1.drewN m).drewN m2) ((HT.out.1.chg.drewN m).drewN m2) L HLen.out
      have hcv1 := fun m => HCV.out (w1.drewN m) (HT.out.1.chg.drewN m) L HLen.out
      have hLk : L = k - p := by have := HK.out; omega
      rw [← HS2.out, hLk] at hcv hcv1
      have HNK := keepf hkn
      have k2 : ((k : Int) == bs.length) = true := by simp; omega
      have k3 : (k == bs.length) = true := by simp; omega
      clear hkn HCU
      have p1 : (p : Int) ≤ k := by omega
      have p2 : (k : Int) ≤ c := by omega
      have p3 : (k : Int) ≤ bs.length := by omega
      rw [cutL_some] at hcv hcv1
      go_upto_region 2 with fail
      go_quiet (fail)
      go_upto_region 7 with first | (go_at_call 32; refine (HCU1.out _ (HT.out.1.drewN _)).mono ?_; rintro e w5 ⟨rfl, rfl⟩) | (go_at_call 30; refine (HSP1.out _).mono ?_; rintro e w5 ⟨rfl, rfl⟩) | (go_at_call 64; refine (HDL1.out _).mono ?_; rintro e w5 ⟨rfl, rfl⟩)
      go_quiet (fail)
      go_wp2_with fail
      all_goals (try simp only [hops])
      
      all_goals (go_ret2; exact ⟨rfl, by rw [HK.out]; exact HT.out.1.drewN _⟩)
    obtain ⟨x, hx, hd⟩ := drop_at (bs := bs) (k := k) (by omega)
    have hbR := HBR.out k x hx
    have c0 : w1.cell? ⟨b, off + k, none⟩ = some (.int .u8 (x : Nat)) := (HT.out.1.chg.cell (p := ⟨b, off + k, none⟩) (cell_lt (HCELL.out k x hx)) (fun h => h)).trans (HCELL.out k x hx)
    have k1 : (k : Int) < bs.length := by omega
    have k2 : ((k : Int) == bs.length) = false := by simp; omega
    have k3 : (k == bs.length) = false := by simp; omega
    have HD := keepf hd
    have HSP1 := keepf (fun X => HSP.out x X)
    have HDL1 := keepf (fun X => HDL.out x X)
    clear hx hd
    by_cases hr : isRg x = true
    · have HV := keepf (show p + rgs (bs.drop p) = k + 1 + rgs (bs.drop (k + 1)) from by rw [HT.out.2, HD.out, rgs_go hr]; omega)
      have hs1 : isSp x = false := by
        cases h7 : isSp x with
        | false => rfl
        | true => rw [isRg, h7] at hr; cases hr
      have hd1 : isDl x = false := by
        cases h7 : isDl x with
        | false => rfl
        | true => rw [isRg, hs1, h7] at hr; cases hr
      rw [hs1] at HSP1
      rw [hd1] at HDL1
      clear hs1 hd1 hr
      go_upto_region 2 with fail
      go_quiet (fail)
      go_upto_region 4 with fail
      go_quiet (fail)
      go_wp2_with first | (go_at_call 30; refine (HSP1.out _).mono ?_; rintro e w5 ⟨rfl, rfl⟩) | (go_at_call 64; refine (HDL1.out _).mono ?_; rintro e w5 ⟨rfl, rfl⟩)
      go_step3
      exact ⟨(bs.length - (k + 1)) + 1, by omega, rfl, rfl, rfl, rfl, rfl, rfl, k + 1, rfl, by omega, by omega, keepf ⟨(HT.out.1.drewN _).at_ _, HV.out⟩⟩
    · have hr2 : isRg x = false := by simpa using hr
      have HK := keepf (show p + L = k from by rw [HL.out, HT.out.2, HD.out, rgs_stop hr2]; rfl)
      have HE1 := keepf (show E = 0 from by rw [HEr.out, if_neg (fun e => by have := HK.out; omega)])
      have hcv := fun m m2 => HCV.out ((w1.drewN m).drewN m2) ((HT.out.1.chg.drewN m).drewN m2) L HLen.out
      have hcv1 := fun m => HCV.out (w1.drewN m) (HT.out.1.chg.drewN m) L HLen.out
      have hLk : L = k - p := by have := HK.out; omega
      rw [← HS2.out, hLk] at hcv hcv1
      clear hr
      cases h7 : isSp x with
      | true =>
        rw [h7] at HSP1
        clear h7 hr2
        have p1 : (p : Int) ≤ k := by omega
        have p2 : (k : Int) ≤ c := by omega
        have p3 : (k : Int) ≤ bs.length := by omega
        rw [cutL_some] at hcv hcv1
        go_upto_region 2 with fail
        go_quiet (fail)
        go_upto_region 4 with fail
        go_quiet (fail)
        go_upto_region 7 with first | (go_at_call 32; refine (HCU1.out _ (HT.out.1.drewN _)).mono ?_; rintro e w5 ⟨rfl, rfl⟩) | (go_at_call 30; refine (HSP1.out _).mono ?_; rintro e w5 ⟨rfl, rfl⟩) | (go_at_call 64; refine (HDL1.out _).mono ?_; rintro e w5 ⟨rfl, rfl⟩)
        go_quiet (fail)
        go_wp2_with fail
        all_goals (try simp only [hops])
        all_goals (go_ret2; exact ⟨by rw [HE1.out]; rfl, by rw [HK.out]; exact HT.out.1.drewN _⟩)
      | false =>
        have h8 : isDl x = true := by
          cases h9 : isDl x with
          | true => rfl
          | false => rw [isRg, h7, h9] at hr2; cases hr2
        rw [h7] at HSP1
        rw [h8] at HDL1
        clear h7 h8 hr2
        have p1 : (p : Int) ≤ k := by omega
        have p2 : (k : Int) ≤ c := by omega
        have p3 : (k : Int) ≤ bs.length := by omega
        rw [cutL_some] at hcv hcv1
        go_upto_region 2 with fail
        go_quiet (fail)
        go_upto_region 4 with fail
        go_quiet (fail)
        go_upto_region 7 with first | (go_at_call 32; refine (HCU1.out _ (HT.out.1.drewN _)).mono ?_; rintro e w5 ⟨rfl, rfl⟩) | (go_at_call 30; refine (HSP1.out _).mono ?_; rintro e w5 ⟨rfl, rfl⟩) | (go_at_call 64; refine (HDL1.out _).mono ?_; rintro e w5 ⟨rfl, rfl⟩)
        go_quiet (fail)
        go_wp2_with fail
        all_goals (try simp only [hops])
        all_goals (go_ret2; exact ⟨by rw [HE1.out]; rfl, by rw [HK.out]; exact HT.out.1.drewN _⟩)

end Go.Proofs.Ytaababegolfjeaa

/- The document's own reading of a text in hex. -/
namespace Go.Proofs.Ytaababegolfjeaa
open Go.RowKit
set_option linter.unusedVariables false
set_option linter.unusedSimpArgs false

theorem pairs_odd : ∀ ds : List Nat, ds.length % 2 = 1 → pairs (ds ++ [0]) = pairs ds
  | [], h => by simp at h
  | [a], _ => rfl
  | a :: b :: l, h => by
    have := pairs_odd l (by simp only [List.length_cons] at h; omega)
    rw [List.cons_append, List.cons_append, pairs, pairs, this]

theorem hexI_no {c : Nat} (h : hexD c = none) : hexI c = -1 := by unfold hexI; rw [h]

theorem hexI_some {c d : Nat} (h : hexD c = some d) : hexI c = (d : Nat) := by unfold hexI; rw [h]

def HxIn (last : Bool) (p : Nat) (bs : List Nat) (w wr : World) (k m c2 : Nat) (ds : List Nat) (A2 : Option Addr) : Prop :=
  m = ds.length ∧ GR 3 w wr (dcells ds) m A2 c2 ∧ (∀ d ∈ ds, d < 16) ∧ hexO last [] p (bs.drop p) = hexO last ds k (bs.drop k)

end Go.Proofs.Ytaababegolfjeaa

/- The reader's text in hex (written by mkphex.py). -/
namespace Go.Proofs.Ytaababegolfjeaa
open Go.RowKit
set_option linter.unusedVariables false
set_option linter.unusedSimpArgs false

theorem pairs_even : ∀ (ds l : List Nat), ds.length % 2 = 0 → pairs (ds ++ l) = pairs ds ++ pairs l
  | [], _, _ => rfl
  | [a], _, h => by simp at h
  | a :: b :: ds, l, h => by
    have := pairs_even ds l (by simp only [List.length_cons] at h; omega)
    rw [List.cons_append, List.cons_append, pairs, pairs, this]
    rfl

/-- The digits so far, what was put together of them, and the one that is left, times 16. -/
def HxS (ds : List Nat) (odd : Bool) (h : Nat) (out : List Nat) : Prop :=
  if odd then ∃ es a, ds = es ++ [a] ∧ es.length % 2 = 0 ∧ out = pairs es ∧ h = 16 * a ∧ a < 16 else ds.length % 2 = 0 ∧ out = pairs ds

theorem HxS.nil (h : Nat) : HxS [] false h [] := ⟨rfl, rfl⟩

theorem HxS.one {ds out : List Nat} {h d : Nat} (k : HxS ds false h out) (hd : d < 16) : HxS (ds ++ [d]) true (16 * d) out := ⟨ds, d, rfl, k.1, k.2, rfl, hd⟩

theorem HxS.two {ds out : List Nat} {h d h' : Nat} (k : HxS ds true h out) : HxS (ds ++ [d]) false h' (out ++ [h + d]) := by
  obtain ⟨es, a, rfl, e1, rfl, rfl, _⟩ := k
  refine ⟨by simp; omega, ?_⟩
  rw [List.append_assoc, pairs_even _ _ e1]
  rfl

theorem HxS.end0 {ds out : List Nat} {h : Nat} (k : HxS ds false h out) : pairs ds = out := k.2.symm

theorem HxS.end1 {ds out : List Nat} {h : Nat} (k : HxS ds true h out) : pairs ds = out ++ [h] := by
  obtain ⟨es, a, rfl, e1, rfl, rfl, _⟩ := k
  rw [pairs_even _ _ e1]
  rfl

theorem HxS.lt {ds out : List Nat} {h : Nat} (k : HxS ds true h out) : ∃ a, h = 16 * a ∧ a < 16 := by
  obtain ⟨es, a, rfl, e1, rfl, rfl, h3⟩ := k
  exact ⟨a, rfl, h3⟩

theorem or_16 {h a d : Nat} (hh : h = 16 * a) (ha : a < 16) (hd : d < 16) : bits BinOp.or IntKind.u8 (h : Int) (d : Int) = ((h + d : Nat) : Int) := by
  rw [u8_or_nat h d (by omega) (by omega), hh]
  have := (Nat.two_pow_add_eq_or_of_lt (i := 4) (b := d) (by omega) a).symm
  exact congrArg Nat.cast this

section
variable {last : Bool} {ds l : List Nat} {p c d : Nat}
theorem hex_end : hexO last ds p (62 :: l) = (0, pairs ds, p + 1) := by rw [hexO, if_pos rfl]
theorem hex_sp (h1 : c ≠ 62) (h2 : isSp c = true) : hexO last ds p (c :: l) = hexO last ds (p + 1) l := by rw [hexO, if_neg h1, if_pos h2]
theorem hex_bad (h1 : c ≠ 62) (h2 : isSp c = false) (h3 : hexD c = none) : hexO last ds p (c :: l) = (11, [], 0) := by rw [hexO, if_neg h1, if_neg (by rw [h2]; decide), h3]
theorem hex_dig (h1 : c ≠ 62) (h2 : isSp c = false) (h3 : hexD c = some d) : hexO last ds p (c :: l) = hexO last (ds ++ [d]) (p + 1) l := by rw [hexO, if_neg h1, if_neg (by rw [h2]; decide), h3]
end

def HxJ0 (V w : World) (A : Option Addr) (bs : List Nat) (c : Nat) (last : Bool) (R g p : Nat) (n : Nat) (x : Act) (w' : World) : Prop :=
  x.defers = [] ∧ x.tmps.size = 57 ∧ x.tmps.getD 0 undef = .pointer (some ⟨R, 0, none⟩) ∧ x.tmps.getD 2 undef = .pointer (some ⟨g, 0, none⟩) ∧ ∃ (k h : Nat) (odd : Bool) (ds out : List Nat), x.tmps.getD 4 undef = .bool odd ∧ x.tmps.getD 5 undef = .int .u8 (h : Nat) ∧ n = (bs.length - k) + 1 ∧ k ≤ bs.length ∧ out.length ≤ k ∧
    Hid (TxR V w A bs c last R g p k 0 out w' ∧ hexO last [] p (bs.drop p) = hexO last ds k (bs.drop k) ∧ HxS ds odd h out)

def HxJ1 (V w : World) (A : Option Addr) (bs : List Nat) (c : Nat) (last : Bool) (R g p : Nat) (n : Nat) (x : Act) (w' : World) : Prop :=
  x.defers = [] ∧ x.tmps.size = 57 ∧ x.tmps.getD 0 undef = .pointer (some ⟨R, 0, none⟩) ∧ x.tmps.getD 2 undef = .pointer (some ⟨g, 0, none⟩) ∧ ∃ (k h : Nat) (odd : Bool) (ds out : List Nat), x.tmps.getD 4 undef = .bool odd ∧ x.tmps.getD 5 undef = .int .u8 (h : Nat) ∧ n = 0 ∧ k ≤ bs.length ∧ out.length ≤ k ∧
    Hid (TxR V w A bs c last R g p k 0 out w' ∧ hexO last [] p (bs.drop p) = (0, pairs ds, k) ∧ HxS ds odd h out)

theorem slots_57 {x : Act} {v0 v2 : Value} {C : Act → Prop} (h1 : x.defers = []) (h2 : x.tmps.size = 57) (h3 : x.tmps.getD 0 undef = v0) (h4 : x.tmps.getD 2 undef = v2)
    (k : ∀ f : Nat → Value, f 4 = x.tmps.getD 4 undef → f 5 = x.tmps.getD 5 undef → C { tmps := #[v0, f 1, v2, f 3, f 4, f 5, f 6, f 7, f 8, f 9, f 10, f 11, f 12, f 13, f 14, f 15, f 16, f 17, f 18, f 19, f 20, f 21, f 22, f 23, f 24, f 25, f 26, f 27, f 28, f 29, f 30, f 31, f 32, f 33, f 34, f 35, f 36, f 37, f 38, f 39, f 40, f 41, f 42, f 43, f 44, f 45, f 46, f 47, f 48, f 49, f 50, f 51, f 52, f 53, f 54, f 55, f 56], defers := [] }) : C x := by
  obtain ⟨t, d⟩ := x
  simp only at h1 h2 h3 h4
  subst h1
  have h5 := k (fun i => t.getD i undef) rfl rfl
  rw [← h3, ← h4] at h5
  rw [arr_slots t 57 h2]
  exact h5

set_option maxHeartbeats 8000000 in
set_option maxRecDepth 100000 in
theorem phex_any {V w W : World} {A : Option Addr} {bs : List Nat} {c R p : Nat} {last : Bool} (h : RD V w W A bs.length c last R p []) (hS : Src w 1 A bs.length c (lcells bs)) (hl : bs.length ≤ 100000) (hc : bs.length ≤ c) (hp : p ≤ bs.length) (hb : ∀ d ∈ bs, d < 256) :
    Calls Try.prog 36 #[.pointer (some ⟨R, 0, none⟩)] W (PTo V w R 4 (hexO last [] p (bs.drop p))) := by
  have hl6 : bs.length ≤ 1000000 := by omega
  have HTE := keepf (fun X out (hX : RD X w X A bs.length c last R bs.length out) => ptake_end hX)
  have HTA := keepf (fun X out k x (hX : RD X w X A bs.length c last R k out) (hx : bs[k]? = some x) => ptake_at hX hS hl6 hc hx)
  have HWB := keepf (fun X out k y (hX : RD X w X A bs.length c last R k out) (ho : out.length ≤ 1000000) => pwbyte_any hX y ho)
  have HCU := keepf (fun X out k (hX : RD X w X A bs.length c last R k out) => pcut_any hX 10)
  have HBU := keepf (fun X out k (hX : RD X w X A bs.length c last R k out) (ho : ∀ d ∈ out, d < 256) (hm : out.length ≤ 1000000) => pbuilt_any hX ho hm 4)
  have HDG := keepf (fun y (hy : y < 256) X => pdigit_any y hy X)
  have HSP := keepf (fun y X => pspace_any y X)
  have HB := keepf hb
  have HKB := keepf h.kb
  have HR0 := keepf h.here
  have hRW := h.lt
  have hwW := h.chg.size
  obtain ⟨g, hg⟩ : ∃ g, g = W.heap.size := ⟨_, rfl⟩
  have HG := keepf hg
  have hgR : g ≠ R := by omega
  have hgW : W.heap.size ≤ g := by omega
  have hgw : w.heap.size ≤ g := by omega
  have HTR := keepf (fun (X X' : World) (k k' deep deep' : Nat) (out out' : List Nat) (h : TxR W w A bs c last R g p k deep out X) (h' : RD X w X' A bs.length c last R k' out') (hb : ∀ d ∈ out', d < 256) => TxR.step (deep' := deep') h h' hgR hb)
  have HL6 := keepf hl6
  clear h hS hb hc hl6 hg hwW hRW
  go_enter Try.func36, Try.ntmps36
  go_wp2
  refine wp_scope2 (HxJ0 W w A bs c last R g p) (HxJ1 W w A bs c last R g p) rfl rfl ?pass0 ?pass1 ?first
  case first =>
    intro hpass _
    have HPass := keepf hpass
    clear hpass
    go_wp2
    go_step3
    rename_i hK
    refine hK _ _ (HPass.out _ _ _ ⟨rfl, rfl, rfl, by rw [HG.out]; rfl, p, 0, false, [], [], rfl, rfl, rfl, hp, Nat.zero_le _, keepf ⟨⟨HR0.out.call ((Chg.refl NoS W).alloc _), by rw [HG.out]; exact Blk.new _ _ _, fun d hd => by cases hd⟩, rfl, HxS.nil 0⟩⟩)
  case pass1 =>
    intro n x w1 hx
    obtain ⟨h1, h2, h3, h4, k, h, odd, ds, out, h5, h6, rfl, hk, hm, HT⟩ := hx
    refine slots_57 h1 h2 h3 h4 (C := fun y => Code.wp _ _ _ y w1) ?_
    intro f hf hf2
    rw [h5] at hf
    rw [h6] at hf2
    simp only [hf, hf2]
    clear h1 h2 h3 h4 h5 h6 hf hf2
    have HV := keepf HT.out.2.1
    have HT1 := keepf HT.out.1
    cases odd
    · have HE := keepf HT.out.2.2.end0
      go_wp2_with (go_at_call 46; refine (HBU.out _ _ _ HT1.out.1.here HT1.out.2.2 (by (try simp only [List.length_append, List.length_cons, List.length_nil]); omega)).mono ?_; rintro e w4 ⟨rfl, h4⟩; obtain ⟨r0, r1, r2, r3, z0, z1, z2, z3⟩ := (h4.kb _ _ _ hgR (by decide) HT1.out.2.1).cl4; have HRE := keepf (h4.back HT1.out.1.kb); clear h4)
      simp only [hops]
      refine bodyPost_ret (v := .tuple #[.agg #[.int .i64 4, .int .i64 0, .string (sb (out)), .slice none 0 0], .int .i64 0]) (by simp [results, Try.results36, go_sem, r0, r1, r2, r3]) rfl ?_
      refine ⟨by rw [HV.out, HE.out]; rfl, k, fun e => by rw [HV.out], ?_⟩
      exact (HRE.out.set4 hgR hgW hgw _ _ _ _).back HKB.out
    · have HE := keepf HT.out.2.2.end1
      have hh256 : h < 256 := by obtain ⟨a, h7, h8⟩ := HT.out.2.2.lt; omega
      go_wp2_with first
        | (go_at_call 47; refine (HWB.out _ _ _ h HT1.out.1.here (by omega)).mono ?_; rintro e w3 ⟨rfl, h3⟩; have HT2 := keepf (HTR.out _ _ _ _ _ 0 _ _ HT1.out h3 (mem_snoc HT1.out.2.2 hh256)); clear h3)
        | (go_at_call 46; refine (HBU.out _ _ _ HT2.out.1.here HT2.out.2.2 (by (try simp only [List.length_append, List.length_cons, List.length_nil]); omega)).mono ?_; rintro e w4 ⟨rfl, h4⟩; obtain ⟨r0, r1, r2, r3, z0, z1, z2, z3⟩ := (h4.kb _ _ _ hgR (by decide) HT2.out.2.1).cl4; have HRE := keepf (h4.back HT2.out.1.kb); clear h4)
      simp only [hops]
      refine bodyPost_ret (v := .tuple #[.agg #[.int .i64 4, .int .i64 0, .string (sb (out ++ [h])), .slice none 0 0], .int .i64 0]) (by simp [results, Try.results36, go_sem, r0, r1, r2, r3]) rfl ?_
      refine ⟨by rw [HV.out, HE.out]; rfl, k, fun e => by rw [HV.out], ?_⟩
      exact (HRE.out.set4 hgR hgW hgw _ _ _ _).back HKB.out
  case pass0 =>
    intro n x w1 hx
    obtain ⟨h1, h2, h3, h4, k, h, odd, ds, out, h5, h6, rfl, hk, hm, HT⟩ := hx
    refine slots_57 h1 h2 h3 h4 (C := fun y => Code.wp _ _ _ y w1) ?_
    intro f hf hf2
    rw [h5] at hf
    rw [h6] at hf2
    simp only [hf, hf2]
    clear h1 h2 h3 h4 h5 h6 hf hf2
    by_cases hkn : k = bs.length
    · subst hkn
      have HV := keepf (show hexO last [] p (bs.drop p) = (cutE last, [], 0) from by rw [HT.out.2.1, List.drop_of_length_le (Nat.le_refl _), hexO])
      have hec : (if last then (10 : Int) else 6) = cutE last := rfl
      have hne := cutE_ne last
      obtain ⟨er, her⟩ : ∃ er, er = cutE last := ⟨_, rfl⟩
      have HCU1 := keepf (fun X hX => HCU.out X out bs.length hX)
      rw [hec, ← her] at HCU1
      rw [← her] at HV hne
      have HNE := keepf hne
      clear hec her hne
      go_wp2_with first
        | (go_at_call 31; refine (HTE.out _ _ HT.out.1.1.here).mono ?_; rintro e w3 ⟨rfl, h3⟩; have HT3 := keepf (HTR.out _ _ _ _ _ 0 _ _ HT.out.1 h3 HT.out.1.2.2); clear h3; obtain ⟨r0, r1, r2, r3, z0, z1, z2, z3⟩ := HT3.out.2.1.cl4)
        | (go_at_call 32; refine (HCU1.out _ HT3.out.1.here).mono ?_; rintro e w4 ⟨rfl, rfl⟩)
      simp only [hops]
      refine bodyPost_ret (v := .tuple #[.agg #[.int .i64 0, .int .i64 0, .string ⟨#[]⟩, .slice none 0 0], .int .i64 er]) (by simp [results, Try.results36, go_sem, r0, r1, r2, r3]) rfl ?_
      refine ⟨by rw [HV.out, TkV_err HNE.out], bs.length, fun e => absurd (by rw [HV.out] at e; exact e) HNE.out, ?_⟩
      exact (HT3.out.1.re.set4 hgR hgW hgw _ _ _ _).back HKB.out
    obtain ⟨x, hx, hd⟩ := drop_at (bs := bs) (k := k) (by omega)
    have hx256 := HB.out x (List.mem_of_getElem? hx)
    have HX := keepf hx
    have HV := keepf (show hexO last [] p (bs.drop p) = hexO last ds k (x :: bs.drop (k + 1)) from by rw [HT.out.2.1, hd])
    have hk1 : k + 1 ≤ bs.length := by omega
    have HDG1 := keepf (fun X => HDG.out x hx256 X)
    have HSP1 := keepf (fun X => HSP.out x X)
    have hv16 := hexV_lt x
    clear hx hd
    by_cases hs : isSp x = true
    · have HGS := keepf hs
      have hx62 : x ≠ 62 := by rintro rfl; cases hs
      have HV2 := keepf (hex_sp (last := last) (ds := ds) (p := k) (l := bs.drop (k + 1)) hx62 hs)
      rw [hs] at HSP1
      obtain ⟨v, hv⟩ : ∃ v, hexV x = v := ⟨_, rfl⟩
      obtain ⟨b, hb⟩ : ∃ b, (hexD x).isSome = b := ⟨_, rfl⟩
      rw [hv, hb] at HDG1
      clear hs hv hb hx62
      go_wp2_with first | (go_at_call 31; refine (HTA.out _ _ _ _ HT.out.1.1.here HX.out).mono ?_; rintro e w3 ⟨rfl, h3⟩; have HT3 := keepf (HTR.out _ _ _ _ _ 0 _ _ HT.out.1 h3 HT.out.1.2.2); clear h3) | (go_at_call 50; refine (HDG1.out _).mono ?_; rintro e w5 ⟨rfl, rfl⟩) | (go_at_call 30; refine (HSP1.out _).mono ?_; rintro e w5 ⟨rfl, rfl⟩)
      go_step3
      exact ⟨(bs.length - (k + 1)) + 1, by omega, .inl ⟨rfl, rfl, rfl, rfl, rfl, k + 1, h, odd, ds, out, rfl, rfl, rfl, hk1, by omega, keepf ⟨HT3.out, by rw [HV.out, HV2.out], HT.out.2.2⟩⟩⟩
    have HGS := keepf (show isSp x = false from by simpa using hs)
    rw [HGS.out] at HSP1
    clear hs
    by_cases h62 : x = 62
    · subst h62
      have HV2 := keepf (hex_end (last := last) (ds := ds) (p := k) (l := bs.drop (k + 1)))
      obtain ⟨v, hv⟩ : ∃ v, hexV 62 = v := ⟨_, rfl⟩
      obtain ⟨b, hb⟩ : ∃ b, (hexD 62).isSome = b := ⟨_, rfl⟩
      rw [hv, hb] at HDG1
      clear hv hb
      go_wp2_with first | (go_at_call 31; refine (HTA.out _ _ _ _ HT.out.1.1.here HX.out).mono ?_; rintro e w3 ⟨rfl, h3⟩; have HT3 := keepf (HTR.out _ _ _ _ _ 0 _ _ HT.out.1 h3 HT.out.1.2.2); clear h3) | (go_at_call 50; refine (HDG1.out _).mono ?_; rintro e w5 ⟨rfl, rfl⟩) | (go_at_call 30; refine (HSP1.out _).mono ?_; rintro e w5 ⟨rfl, rfl⟩)
      go_step3
      exact ⟨0, by omega, .inr ⟨rfl, rfl, rfl, rfl, rfl, k + 1, h, odd, ds, out, rfl, rfl, rfl, hk1, by omega, keepf ⟨HT3.out, by rw [HV.out, HV2.out], HT.out.2.2⟩⟩⟩
    have e62 : ((x : Int) == 62) = false := by simp; omega
    cases hD : hexD x with
    | none =>
      have HV2 := keepf (hex_bad (last := last) (ds := ds) (p := k) (l := bs.drop (k + 1)) h62 HGS.out hD)
      have hv : hexV x = 0 := by unfold hexV; rw [hD]; rfl
      rw [hv, hD] at HDG1
      clear hv hD hv16
      simp only [Option.isSome_none] at HDG1
      go_wp2_with first
        | (go_at_call 31; refine (HTA.out _ _ _ _ HT.out.1.1.here HX.out).mono ?_; rintro e w3 ⟨rfl, h3⟩; have HT3 := keepf (HTR.out _ _ _ _ _ 0 _ _ HT.out.1 h3 HT.out.1.2.2); clear h3; obtain ⟨r0, r1, r2, r3, z0, z1, z2, z3⟩ := HT3.out.2.1.cl4)
        | (go_at_call 50; refine (HDG1.out _).mono ?_; rintro e w5 ⟨rfl, rfl⟩)
        | (go_at_call 30; refine (HSP1.out _).mono ?_; rintro e w5 ⟨rfl, rfl⟩)
      simp only [hops]
      refine bodyPost_ret (v := .tuple #[.agg #[.int .i64 0, .int .i64 0, .string ⟨#[]⟩, .slice none 0 0], .int .i64 11]) (by simp [results, Try.results36, go_sem, r0, r1, r2, r3]) rfl ?_
      refine ⟨by rw [HV.out, HV2.out, TkV_err (by decide)], k + 1, fun e => absurd (by rw [HV.out, HV2.out] at e; exact e) (by decide), ?_⟩
      exact (HT3.out.1.re.set4 hgR hgW hgw _ _ _ _).back HKB.out
    | some d =>
      have HV2 := keepf (hex_dig (last := last) (ds := ds) (p := k) (l := bs.drop (k + 1)) h62 HGS.out hD)
      have hv : hexV x = d := by unfold hexV; rw [hD]; rfl
      rw [hv, hD] at HDG1
      rw [hv] at hv16
      clear hv hD
      simp only [Option.isSome_some] at HDG1
      have hsh : ((d : Int) * 2 ^ 4 % 256) = ((16 * d : Nat) : Int) := by omega
      have hsh2 : ((d : Int) * 16 % 256) = ((16 * d : Nat) : Int) := by omega
      cases odd
      · have HN := keepf (HT.out.2.2.one hv16)
        go_wp2_with first | (go_at_call 31; refine (HTA.out _ _ _ _ HT.out.1.1.here HX.out).mono ?_; rintro e w3 ⟨rfl, h3⟩; have HT3 := keepf (HTR.out _ _ _ _ _ 0 _ _ HT.out.1 h3 HT.out.1.2.2); clear h3) | (go_at_call 50; refine (HDG1.out _).mono ?_; rintro e w5 ⟨rfl, rfl⟩) | (go_at_call 30; refine (HSP1.out _).mono ?_; rintro e w5 ⟨rfl, rfl⟩)
        go_step3
        exact ⟨(bs.length - (k + 1)) + 1, by omega, .inl ⟨rfl, rfl, rfl, rfl, rfl, k + 1, 16 * d, true, ds ++ [d], out, rfl, by first | rfl | exact congrArg (Value.int .u8) (by simp; omega), rfl, hk1, by omega, keepf ⟨HT3.out, by rw [HV.out, HV2.out], HN.out⟩⟩⟩
      · have HN := keepf (fun h' => HT.out.2.2.two (d := d) (h' := h'))
        obtain ⟨a, ha, ha2⟩ := HT.out.2.2.lt
        have hor := or_16 ha ha2 hv16
        have hy256 : h + d < 256 := by omega
        obtain ⟨y, hy⟩ : ∃ y, y = h + d := ⟨_, rfl⟩
        rw [← hy] at hor hy256 HN
        clear hy ha ha2
        go_wp2_with first | (go_at_call 31; refine (HTA.out _ _ _ _ HT.out.1.1.here HX.out).mono ?_; rintro e w3 ⟨rfl, h3⟩; have HT3 := keepf (HTR.out _ _ _ _ _ 0 _ _ HT.out.1 h3 HT.out.1.2.2); clear h3) | (go_at_call 50; refine (HDG1.out _).mono ?_; rintro e w5 ⟨rfl, rfl⟩) | (go_at_call 30; refine (HSP1.out _).mono ?_; rintro e w5 ⟨rfl, rfl⟩) | (go_at_call 47; refine (HWB.out _ _ _ y HT3.out.1.here (by omega)).mono ?_; rintro e w4 ⟨rfl, h4⟩; have HT4 := keepf (HTR.out _ _ _ _ _ 0 _ _ HT3.out h4 (mem_snoc HT3.out.2.2 hy256)); clear h4)
        go_step3
        exact ⟨(bs.length - (k + 1)) + 1, by omega, .inl ⟨rfl, rfl, rfl, rfl, rfl, k + 1, 16 * d, false, ds ++ [d], out ++ [y], rfl, by first | rfl | exact congrArg (Value.int .u8) (by simp; omega), rfl, hk1, by simp only [List.length_append, List.length_cons, List.length_nil]; omega, keepf ⟨HT4.out, by rw [HV.out, HV2.out], HN.out _⟩⟩⟩

end Go.Proofs.Ytaababegolfjeaa

