/- The reader's tokens without their places: a value as a token, the end of a dictionary, a number or a word (written by mkptok.py). -/
import Derived.Test.YtmmehaghcfdjdaaPNameW
import Derived.Test.YtmmehaghcfdjdaaPRune
import Derived.Test.YtmmehaghcfdjdaaRPar
import Derived.Test.YtmmehaghcfdjdaaLexT
namespace Go.Proofs.Ytmmehaghcfdjdaa
open Go.RowKit
set_option linter.unusedVariables false
set_option linter.unusedSimpArgs false

set_option maxHeartbeats 1000000 in
theorem pvalued_any (k : Nat) (n er : Int) (s : ByteArray) (w : World) : Calls Try.prog 28 #[.agg #[.int .i64 (k : Nat), .int .i64 n, .string s, .slice none 0 0], .int .i64 er] w
    fun e w' => e = .returned (.tuple #[.agg #[.int .i64 1, .int .i64 0, .int .i64 0, .int .i64 (k : Nat), .int .i64 n, .string s, .slice none 0 0, .string ⟨#[]⟩], .int .i64 er]) ∧ Chg NoS w w' := by
  go_enter Try.func28, Try.ntmps28
  go_wp2_with fail
  refine bodyPost_ret (v := .tuple #[.agg #[.int .i64 1, .int .i64 0, .int .i64 0, .int .i64 (k : Nat), .int .i64 n, .string s, .slice none 0 0, .string ⟨#[]⟩], .int .i64 er]) (by simp [results, Try.results28, go_sem]) rfl ?_
  exact ⟨rfl, ((Chg.refl _ _).alloc _).alloc _⟩
/-- Behind the reading of a token: the token without its places and the error; the reader stands at its end, if there is no error. -/
def PTk (V w : World) (R : Nat) (r : Int × Tkn) (e : Ending) (W : World) : Prop :=
  ∃ (t : Tkn) (p : Nat), e = .returned (.tuple #[tknV t, .int .i64 r.1]) ∧ (r.1 = 0 → t = ⟨r.2.kind, 0, 0, r.2.vk, r.2.vn, r.2.vs, r.2.s⟩ ∧ p = r.2.to) ∧ RE V w W R p
def noK : Tkn := ⟨0, 0, 0, 0, 0, [], []⟩
theorem noK_V : tknV noK = .agg #[.int .i64 0, .int .i64 0, .int .i64 0, .int .i64 0, .int .i64 0, .string ⟨#[]⟩, .slice none 0 0, .string ⟨#[]⟩] := rfl
theorem PTk.err {V w : World} {R p : Nat} {r : Int × Tkn} {er : Int} {W : World} (h : r.1 = er) (he : er ≠ 0) (hR : RE V w W R p) : PTk V w R r (.returned (.tuple #[.agg #[.int .i64 0, .int .i64 0, .int .i64 0, .int .i64 0, .int .i64 0, .string ⟨#[]⟩, .slice none 0 0, .string ⟨#[]⟩], .int .i64 er])) W :=
  ⟨noK, p, by rw [h, noK_V], fun e => absurd (h.symm.trans e) he, hR⟩
def dictR (last : Bool) (f p : Nat) (l : List Nat) : Int × Tkn := if l.head? = some 62 then (0, ⟨5, f, p + 1, 0, 0, [], []⟩) else if l = [] ∧ last = false then (6, noT f) else (11, noT f)
set_option maxHeartbeats 1000000 in
theorem pclosed_any {V w W : World} {A : Option Addr} {bs : List Nat} {c R p : Nat} {last : Bool} {out : List Nat} (h : RD V w W A bs.length c last R p out) (hS : Src w 1 A bs.length c (lcells bs)) (hl : bs.length ≤ 1000000) (hc : bs.length ≤ c) (hp : p ≤ bs.length) (f : Nat) :
    Calls Try.prog 32 #[.pointer (some ⟨R, 0, none⟩)] W (PTk V w R (dictR last f p (bs.drop p))) := by
  have HKB := keepf h.kb
  have HR0 := keepf h.here
  have hRW := h.lt
  have hwW := h.chg.size
  obtain ⟨g, hg⟩ : ∃ g, g = W.heap.size := ⟨_, rfl⟩
  have HG := keepf hg
  have hgR : g ≠ R := by omega
  have hgW : W.heap.size ≤ g := by omega
  have hgw : w.heap.size ≤ g := by omega
  have HBW := keepf (show Blk (W.alloc (.cells #[.int .i64 0, .int .i64 0, .int .i64 0, .int .i64 0, .int .i64 0, .string ⟨#[]⟩, .slice none 0 0, .string ⟨#[]⟩] 28)) g 28 #[.int .i64 0, .int .i64 0, .int .i64 0, .int .i64 0, .int .i64 0, .string ⟨#[]⟩, .slice none 0 0, .string ⟨#[]⟩] from by rw [hg]; exact Blk.new _ _ _)
  have HPE := keepf (fun X (hX : RD X w X A bs.length c last R bs.length out) => ppass_end hX 62)
  have HPN := keepf (fun X x (hX : RD X w X A bs.length c last R p out) (hx : bs[p]? = some x) (hy : x ≠ 62) => ppass_no hX hS hl hc hx 62 hy)
  have HPA := keepf (fun X (hX : RD X w X A bs.length c last R p out) (hx : bs[p]? = some 62) => ppass_at hX hS hl hc hx)
  have HCU := keepf (fun X k (hX : RD X w X A bs.length c last R k out) => pcut_any hX 11)
  have HW1 := keepf (HR0.out.alloc (.cells #[.int .i64 0, .int .i64 0, .int .i64 0, .int .i64 0, .int .i64 0, .string ⟨#[]⟩, .slice none 0 0, .string ⟨#[]⟩] 28))
  obtain ⟨W1, hW1⟩ : ∃ W1, W1 = W.alloc (.cells #[.int .i64 0, .int .i64 0, .int .i64 0, .int .i64 0, .int .i64 0, .string ⟨#[]⟩, .slice none 0 0, .string ⟨#[]⟩] 28) := ⟨_, rfl⟩
  rw [← hW1] at HW1 HBW
  have HWW := keepf hW1
  clear h hS hg hwW hRW hW1
  by_cases hpn : p = bs.length
  · have HD := keepf (show dictR last f p (bs.drop p) = if last = false then (6, noT f) else (11, noT f) from by
      rw [hpn, List.drop_of_length_le (Nat.le_refl _)]; unfold dictR
      rw [if_neg (by simp)]
      cases last <;> simp)
    have HCU1 := keepf (fun X hX => HCU.out X p hX)
    have HPE1 := keepf (show ∀ X, RD X w X A bs.length c last R p out → Calls Try.prog 30 #[.pointer (some ⟨R, 0, none⟩), .int .u8 (62 : Nat)] X fun e W' => e = .returned (.bool false) ∧ RD X w W' A bs.length c last R p out from fun X hX => by rw [hpn] at hX ⊢; exact HPE.out X hX)
    have k2 : ((p : Int) == bs.length) = true := by simp; omega
    have k3 : (p == bs.length) = true := by simp; omega
    obtain ⟨er, her⟩ : ∃ er, er = (if last then (11 : Int) else 6) := ⟨_, rfl⟩
    have HER := keepf (show (dictR last f p (bs.drop p)).1 = er ∧ er ≠ 0 from by rw [HD.out, her]; cases last <;> exact ⟨rfl, by decide⟩)
    rw [← her] at HCU1
    clear hpn her
    go_enter Try.func32, Try.ntmps32
    go_upto_region 1 with fail
    rw [← HWW.out, ← HG.out]
    go_upto_region 3 with (go_at_call 30; refine (HPE1.out _ HW1.out.here).mono ?_; rintro e w3 ⟨rfl, h3⟩; obtain ⟨c2, c3, c4, f3⟩ := h3.cells; have HB3 := keepf (h3.kb _ _ _ hgR (by decide) HBW.out); have HR3 := keepf (h3.base (HW1.out.kb.trans h3.kb)); clear h3)
    go_quiet (fail)
    obtain ⟨r0, r1, r2, r3, r4, r5, r6, r7, z0, z1, z2, z3, z4, z5, z6, z7⟩ := (HB3.out.drewN nq).cl8
    go_wp2_with (go_at_call 27; refine (HCU1.out _ (HR3.out.drewN nq).here).mono ?_; rintro e w4 ⟨rfl, rfl⟩)
    refine bodyPost_ret (v := .tuple #[.agg #[.int .i64 0, .int .i64 0, .int .i64 0, .int .i64 0, .int .i64 0, .string ⟨#[]⟩, .slice none 0 0, .string ⟨#[]⟩], .int .i64 er]) (by simp [results, Try.results32, go_sem, r0, r1, r2, r3, r4, r5, r6, r7]) rfl ?_
    exact PTk.err HER.out.1 HER.out.2 (((HR3.out.drewN nq).re.set8 hgR hgW hgw _ _ _ _ _ _ _ _).back HKB.out)
  obtain ⟨x, hx, hd⟩ := drop_at (bs := bs) (k := p) (by omega)
  by_cases h62 : x = 62
  · subst h62
    have HD := keepf (show dictR last f p (bs.drop p) = (0, ⟨5, f, p + 1, 0, 0, [], []⟩) from by rw [hd]; exact if_pos rfl)
    have HPA1 := keepf (fun X hX => HPA.out X hX hx)
    clear hx hd hpn
    go_enter Try.func32, Try.ntmps32
    go_upto_region 1 with fail
    rw [← HWW.out, ← HG.out]
    go_wp2_with (go_at_call 30; refine (HPA1.out _ HW1.out.here).mono ?_; rintro e w3 ⟨rfl, h3⟩; have HB3 := keepf (h3.kb _ _ _ hgR (by decide) HBW.out); have HR3 := keepf (h3.base (HW1.out.kb.trans h3.kb)); clear h3; obtain ⟨r0, r1, r2, r3, r4, r5, r6, r7, z0, z1, z2, z3, z4, z5, z6, z7⟩ := HB3.out.cl8)
    refine bodyPost_ret (v := .tuple #[.agg #[.int .i64 5, .int .i64 0, .int .i64 0, .int .i64 0, .int .i64 0, .string ⟨#[]⟩, .slice none 0 0, .string ⟨#[]⟩], .int .i64 0]) (by simp [results, Try.results32, go_sem, r0, r1, r2, r3, r4, r5, r6, r7]) rfl ?_
    exact ⟨⟨5, 0, 0, 0, 0, [], []⟩, p + 1, by rw [HD.out]; rfl, fun _ => by rw [HD.out]; exact ⟨rfl, rfl⟩, (HR3.out.re.set8 hgR hgW hgw _ _ _ _ _ _ _ _).back HKB.out⟩
  · have HD := keepf (show (dictR last f p (bs.drop p)).1 = 11 from by rw [hd]; unfold dictR; rw [if_neg (by simpa using h62), if_neg (by simp)])
    have HPN1 := keepf (fun X hX => HPN.out X x hX hx h62)
    have k2 : ((p : Int) == bs.length) = false := by simp; omega
    have k3 : (p == bs.length) = false := by simp; omega
    clear hx hd hpn
    go_enter Try.func32, Try.ntmps32
    go_upto_region 1 with fail
    rw [← HWW.out, ← HG.out]
    go_upto_region 3 with (go_at_call 30; refine (HPN1.out _ HW1.out.here).mono ?_; rintro e w3 ⟨rfl, h3⟩; obtain ⟨c2, c3, c4, f3⟩ := h3.cells; have HB3 := keepf (h3.kb _ _ _ hgR (by decide) HBW.out); have HR3 := keepf (h3.base (HW1.out.kb.trans h3.kb)); clear h3)
    go_quiet (fail)
    obtain ⟨r0, r1, r2, r3, r4, r5, r6, r7, z0, z1, z2, z3, z4, z5, z6, z7⟩ := (HB3.out.drewN nq).cl8
    go_wp2_with fail
    refine bodyPost_ret (v := .tuple #[.agg #[.int .i64 0, .int .i64 0, .int .i64 0, .int .i64 0, .int .i64 0, .string ⟨#[]⟩, .slice none 0 0, .string ⟨#[]⟩], .int .i64 11]) (by simp [results, Try.results32, go_sem, r0, r1, r2, r3, r4, r5, r6, r7]) rfl ?_
    exact PTk.err HD.out (by decide) (((HR3.out.drewN nq).re.set8 hgR hgW hgw _ _ _ _ _ _ _ _).back HKB.out)
end Go.Proofs.Ytmmehaghcfdjdaa
