/- 'LexNexts': for every input the statement's function returns true: the token that stands anywhere in any bytes is as the document says, or the error. Conditions: none. -/
import Derived.Test.YtmmehaghcfdjdaaLWorks
import Derived.Test.YtmmehaghcfdjdaaRLx7
import Derived.Deep.RegionHeld3
import Derived.BigRegion
import Derived.Test.YtmmehaghcfdjdaaLexIn
import Derived.Test.YtmmehaghcfdjdaaLOk
import Derived.Test.YtmmehaghcfdjdaaRows
import Derived.OpenShut
import Derived.ChangeOld
import Derived.Lib.SmallJoins
namespace Go.Proofs.Ytmmehaghcfdjdaa
open Go.RowKit
set_option linter.unusedVariables false
set_option linter.unusedSimpArgs false
set_option maxHeartbeats 4000000 in
set_option maxRecDepth 100000 in
theorem nextsW (H : LexOk) (bs : List Nat) (A : Option Addr) (c : Nat) (p : Int) (last : Bool) (w : World) (hS : Src w 1 A bs.length c (lcells bs)) (hm : bs.length ≤ maxLen) (hb : ∀ x ∈ bs, x < 256) (hc : bs.length ≤ c) :
    Calls Try.prog 3 #[.slice A bs.length c, .int .i64 p, .bool last] w fun e w' => e = .returned (.bool true) ∧ Chg NoS w w' := by
  have HW := keepf (fun W => works_any10 H W)
  unfold maxLen at hm
  by_cases h4 : bs.length ≤ 400
  · have H1 := keepf (H.next bs A c p last w hS (by omega) hc hb)
    have H2 := keepf (fun (W : World) (h : Chg NoS w W) => rnext_any bs A c p last W (Src.below (w0 := w) hS h) (by omega) hc hb)
    obtain ⟨R, hR⟩ : ∃ R, R = nextA bs p last := ⟨_, rfl⟩
    rw [← hR] at H1 H2
    obtain ⟨er, t⟩ := R
    have HOF := keepf (fun W => of10_any t W)
    have HSM := keepf (fun W => same10_eq t W)
    obtain ⟨k0, k1, k2, k3, k4, vs, s⟩ := t
    unfold NxTo tknV at H1 H2
    unfold tknV at HOF HSM
    simp only [] at H1 H2 HOF HSM
    obtain ⟨S5, h5⟩ : ∃ S5, S5 = sb vs := ⟨_, rfl⟩
    obtain ⟨S7, h7⟩ : ∃ S7, S7 = sb s := ⟨_, rfl⟩
    rw [← h5, ← h7] at H1 H2 HOF HSM
    obtain ⟨n, hn⟩ : ∃ n, n = bs.length := ⟨_, rfl⟩
    rw [← hn] at H1 H2 h4 hm hc ⊢
    have d4 : decide ((400 : Int) < n) = false := by simp; omega
    have d4' : decide (400 < n) = false := by simp; omega
    clear H hS hb hR h5 h7 hn
    go_enter Try.func3, Try.ntmps3
    go_upto_region 4 with (go_at_call 9; refine H1.out.mono ?_; rintro e w2 ⟨rfl, hc2⟩; have HC2 := keepf hc2; clear hc2)
    have HB2 := keepf (Blk.new w2 28 #[.int .i64 (k0 : Nat), .int .i64 (k1 : Nat), .int .i64 (k2 : Nat), .int .i64 (k3 : Nat), .int .i64 k4, .string S5, .slice none 0 0, .string S7])
    have HC3 := keepf (HC2.out.alloc (.cells #[.int .i64 (k0 : Nat), .int .i64 (k1 : Nat), .int .i64 (k2 : Nat), .int .i64 (k3 : Nat), .int .i64 k4, .string S5, .slice none 0 0, .string S7] 28))
    obtain ⟨W, hW⟩ : ∃ W, W = w2.alloc (.cells #[.int .i64 (k0 : Nat), .int .i64 (k1 : Nat), .int .i64 (k2 : Nat), .int .i64 (k3 : Nat), .int .i64 k4, .string S5, .slice none 0 0, .string S7] 28) := ⟨_, rfl⟩
    obtain ⟨g, hg⟩ : ∃ g, g = w2.heap.size := ⟨_, rfl⟩
    rw [← hW] at HB2 HC3
    rw [← hg] at HB2
    rw [← hW, ← hg]
    clear hW hg
    go_upto_region 5 with (go_at_call 10; refine (H2.out _ HC3.out).mono ?_; rintro e w3 ⟨rfl, hc3⟩; have HB3 := keepf (HB2.out.chg hc3 (fun e => e)); have HC4 := keepf (HC3.out.trans hc3 (fun _ _ e => e)); clear hc3)
    have HB4 := keepf (HB3.out.alloc (.cells #[.int .i64 (k0 : Nat), .int .i64 (k1 : Nat), .int .i64 (k2 : Nat), .int .i64 (k3 : Nat), .int .i64 k4, .string S5, .slice none 0 0, .string S7] 32))
    have HN4 := keepf (Blk.new w3 32 #[.int .i64 (k0 : Nat), .int .i64 (k1 : Nat), .int .i64 (k2 : Nat), .int .i64 (k3 : Nat), .int .i64 k4, .string S5, .slice none 0 0, .string S7])
    have HC5 := keepf (HC4.out.alloc (.cells #[.int .i64 (k0 : Nat), .int .i64 (k1 : Nat), .int .i64 (k2 : Nat), .int .i64 (k3 : Nat), .int .i64 k4, .string S5, .slice none 0 0, .string S7] 32))
    obtain ⟨W4, hW⟩ : ∃ W4, W4 = w3.alloc (.cells #[.int .i64 (k0 : Nat), .int .i64 (k1 : Nat), .int .i64 (k2 : Nat), .int .i64 (k3 : Nat), .int .i64 k4, .string S5, .slice none 0 0, .string S7] 32) := ⟨_, rfl⟩
    obtain ⟨g4, hg⟩ : ∃ g4, g4 = w3.heap.size := ⟨_, rfl⟩
    rw [← hW] at HB4 HN4 HC5
    rw [← hg] at HN4
    rw [← hW, ← hg]
    clear hW hg
    have q0 := HB4.out.cell 0
    have q1 := HB4.out.cell 1
    have q2 := HB4.out.cell 2
    have q3 := HB4.out.cell 3
    have q4 := HB4.out.cell 4
    have q5 := HB4.out.cell 5
    have q6 := HB4.out.cell 6
    have q7 := HB4.out.cell 7
    simp at q0 q1 q2 q3 q4 q5 q6 q7
    have p0 := HN4.out.cell 0
    have p1 := HN4.out.cell 1
    have p2 := HN4.out.cell 2
    have p3 := HN4.out.cell 3
    have p4 := HN4.out.cell 4
    have p5 := HN4.out.cell 5
    have p6 := HN4.out.cell 6
    have p7 := HN4.out.cell 7
    simp at p0 p1 p2 p3 p4 p5 p6 p7
    first
      | (go_loud (go_region_held3 (fun w' => w'.cell? ⟨g, 0, none⟩ = some (.int .i64 (k0 : Nat)) ∧ w'.cell? ⟨g, 1, none⟩ = some (.int .i64 (k1 : Nat)) ∧ w'.cell? ⟨g, 2, none⟩ = some (.int .i64 (k2 : Nat)) ∧ w'.cell? ⟨g, 3, none⟩ = some (.int .i64 (k3 : Nat)) ∧ w'.cell? ⟨g, 4, none⟩ = some (.int .i64 k4) ∧ w'.cell? ⟨g, 5, none⟩ = some (.string S5) ∧ w'.cell? ⟨g, 6, none⟩ = some (.slice none 0 0) ∧ w'.cell? ⟨g, 7, none⟩ = some (.string S7) ∧ w'.cell? ⟨g4, 0, none⟩ = some (.int .i64 (k0 : Nat)) ∧ w'.cell? ⟨g4, 1, none⟩ = some (.int .i64 (k1 : Nat)) ∧ w'.cell? ⟨g4, 2, none⟩ = some (.int .i64 (k2 : Nat)) ∧ w'.cell? ⟨g4, 3, none⟩ = some (.int .i64 (k3 : Nat)) ∧ w'.cell? ⟨g4, 4, none⟩ = some (.int .i64 k4) ∧ w'.cell? ⟨g4, 5, none⟩ = some (.string S5) ∧ w'.cell? ⟨g4, 6, none⟩ = some (.slice none 0 0) ∧ w'.cell? ⟨g4, 7, none⟩ = some (.string S7))
          (first | (go_keep; done) | (go_split_ands; exact ⟨by assumption, by assumption, by assumption, by assumption, by assumption, by assumption, by assumption, by assumption, by assumption, by assumption, by assumption, by assumption, by assumption, by assumption, by assumption, by assumption⟩))
          (first
            | (go_at_call 12; refine (HOF.out _).mono ?_; rintro e w7 ⟨rfl, hcq⟩; have HB7 := keepf (HB4.out.drew.chg hcq (fun h => h)); have HN7 := keepf (HN4.out.drew.chg hcq (fun h => h)); have HC7 := keepf (HC5.out.drew.trans hcq (fun _ _ h => h)); clear hcq; have r0 := HB7.out.cell 0; have r1 := HB7.out.cell 1; have r2 := HB7.out.cell 2; have r3 := HB7.out.cell 3; have r4 := HB7.out.cell 4; have r5 := HB7.out.cell 5; have r6 := HB7.out.cell 6; have r7 := HB7.out.cell 7; simp at r0 r1 r2 r3 r4 r5 r6 r7; have x0 := HN7.out.cell 0; have x1 := HN7.out.cell 1; have x2 := HN7.out.cell 2; have x3 := HN7.out.cell 3; have x4 := HN7.out.cell 4; have x5 := HN7.out.cell 5; have x6 := HN7.out.cell 6; have x7 := HN7.out.cell 7; simp at x0 x1 x2 x3 x4 x5 x6 x7)
            | (go_at_call 11; refine (HSM.out _).mono ?_; rintro e w8 ⟨rfl, hcq⟩; have HB8 := keepf (HB7.out.chg hcq (fun h => h)); have HN8 := keepf (HN7.out.chg hcq (fun h => h)); have HC8 := keepf (HC7.out.trans hcq (fun _ _ h => h)); clear hcq; have a0 := HB8.out.cell 0; have a1 := HB8.out.cell 1; have a2 := HB8.out.cell 2; have a3 := HB8.out.cell 3; have a4 := HB8.out.cell 4; have a5 := HB8.out.cell 5; have a6 := HB8.out.cell 6; have a7 := HB8.out.cell 7; simp at a0 a1 a2 a3 a4 a5 a6 a7; have b0 := HN8.out.cell 0; have b1 := HN8.out.cell 1; have b2 := HN8.out.cell 2; have b3 := HN8.out.cell 3; have b4 := HN8.out.cell 4; have b5 := HN8.out.cell 5; have b6 := HN8.out.cell 6; have b7 := HN8.out.cell 7; simp at b0 b1 b2 b3 b4 b5 b6 b7)
            | (go_at_call 8; refine (HW.out _).mono ?_; rintro e wx ⟨rfl, hcq⟩; have HBx := keepf (HB8.out.chg hcq (fun h => h)); have HNx := keepf (HN8.out.chg hcq (fun h => h)); have HCx := keepf (HC8.out.trans hcq (fun _ _ h => h)); clear hcq; have c0 := HBx.out.cell 0; have c1 := HBx.out.cell 1; have c2 := HBx.out.cell 2; have c3 := HBx.out.cell 3; have c4 := HBx.out.cell 4; have c5 := HBx.out.cell 5; have c6 := HBx.out.cell 6; have c7 := HBx.out.cell 7; simp at c0 c1 c2 c3 c4 c5 c6 c7; have d0 := HNx.out.cell 0; have d1 := HNx.out.cell 1; have d2 := HNx.out.cell 2; have d3 := HNx.out.cell 3; have d4 := HNx.out.cell 4; have d5 := HNx.out.cell 5; have d6 := HNx.out.cell 6; have d7 := HNx.out.cell 7; simp at d0 d1 d2 d3 d4 d5 d6 d7))))
      | fail "region"

    go_wp2_with fail
    go_ret
    exact ⟨rfl, HCx.out⟩
  · have d4 : decide ((400 : Int) < bs.length) = true := by simp; omega
    have d4' : decide (400 < bs.length) = true := by simp; omega
    obtain ⟨n, hn⟩ : ∃ n, n = bs.length := ⟨_, rfl⟩
    rw [← hn] at hm d4 d4' ⊢
    clear H hS hb hc h4 hn
    go_enter Try.func3, Try.ntmps3
    go_wp2_with (go_at_call 8; refine (HW.out _).mono ?_; rintro e wx ⟨rfl, hcx⟩; have HCx := keepf hcx; clear hcx)
    go_ret
    exact ⟨rfl, HCx.out⟩
end Go.Proofs.Ytmmehaghcfdjdaa
namespace Go.Proofs.Ytmmehaghcfdjdaa.lnext
open Go.RowKit Go.ChangeShapes Go.WideShapes Go.ChangeAt
set_option linter.unusedVariables false

theorem own : ownKnob Try.prog.godebug = none := by kernel_rfl
theorem laidOut : laidOutB Try.prog = true := by kernel_rfl
theorem walk (A : Option Addr) (len cap : Nat) (bs : List Nat) (p : Int) (last : Bool) (w : World) (hl : bs.length = len) (hm : len ≤ maxLen) (hS : Src w 1 A len cap (bs.flatMap encL)) (hg : ∀ b ∈ bs, b < 256) (hc : len ≤ cap) (wp : (Lit.int .i64 p).wf = true) :
    Calls Try.prog 3 #[.slice A len cap, .int .i64 p, .bool last] w fun e w' => e = .returned (.bool true) ∧ Below w.heap.size w w' := by
  rw [flat_bytesL] at hS
  subst hl
  exact (nextsW lex_ok bs A cap p last w hS hm hg hc).mono fun e w' h => ⟨h.1, h.2.no_below⟩


set_option maxRecDepth 100000 in
theorem lifted (os : Os) (started : os.Started) (H : Type) (enc : TypeId × Value → H) :
    ReturnsInHanded {} Try.checked os 3 .any (Rows.lexNextsSpec.pre6 enc Try.prog Try.f3 Rows.lexNextsRow.domain false) (Rows.lexNextsSpec.post enc Try.prog Try.f3 false true false false) := by
  refine returnsInHanded_of_change (C := Try.checked) own started (by kernel_rfl) Try.func3
    (ChangeSpec.witness6 (enc := enc) (C := Try.checked) false ⟨#[], #[.slice none 0 0, .int .i64 0, .bool false], []⟩ 8 (by kernel_rfl) (by kernel_rfl) (by kernel_rfl) (by kernel_rfl)) ?_
  intro W base args ds gs before hval0 hW hcnd _
  have hval : ∀ (j : Nat) t v, Try.f3.params[j]? = some t → args[j]? = some v → Value.okWide Try.prog W .any base t v := hval0
  have hW' := hW
  obtain ⟨p, q, hA0, hV, rfl, hfz, hnd⟩ := hW
  have hA : DataW.TrodAll enc Try.prog W 0 (fun _ => true) true Try.f3.params.toList args.toList ds p := hA0
  rw [Try.params3] at hA hval
  obtain ⟨v0, vs0, d0, ds0, p0, q0, hargs, rfl, rfl, h0, r0⟩ := trodAll_cons hA
  obtain ⟨v1, vs1, d1, ds1, p1, q1, rfl, rfl, rfl, h1, r1⟩ := trodAll_cons r0
  obtain ⟨v2, vs2, d2, ds2, p2, q2, rfl, rfl, rfl, h2, r2⟩ := trodAll_cons r1
  obtain ⟨rfl, rfl, rfl⟩ := trodAll_nil r2
  obtain rfl : args = #[v0, v1, v2] := by cases args; simp_all
  obtain ⟨rfl, rfl⟩ := trodVars_none hV
  obtain ⟨a0, len0, cap0, rfl⟩ := okWide_slice Try.underlying22 (hval 0 22 v0 rfl rfl)
  have k0 := h0
  have lt0 : ∀ x ∈ p0, x.block < W.heap.size := by obtain ⟨m, hm⟩ := k0; exact DataW.trod_lt m _ _ _ hm
  obtain ⟨hm0, xs0, hl0, hS0, hg0⟩ : len0 ≤ maxLen ∧ ∃ xs : List Nat, xs.length = len0 ∧ Src W 1 a0 len0 cap0 (xs.flatMap encL) ∧ ∀ b ∈ xs, (fun p : Nat => p < 256) b := by
    obtain ⟨fuel, hf⟩ := h0
    exact open_rows encL (fun p : Nat => p < 256) 1 Try.underlying22 (by kernel_rfl) (fun _ => rfl) (fun n cs y h _ => byte_elL h) (by simpa [Value.cells] using hf)
  have hc0 : len0 ≤ cap0 := by
    obtain ⟨fuel, hf⟩ := h0
    exact open_capL Try.underlying22 (by simpa [Value.cells] using hf)
  obtain ⟨a1, rfl, rfl, rfl, w1⟩ := open_int Try.underlying3 (hval 1 3 v1 rfl rfl) h1
  obtain ⟨a2, rfl, rfl, rfl⟩ := open_bool Try.underlying4 (hval 2 4 v2 rfl rfl) h2
  clear hA0 hval0
  refine (walk a0 len0 cap0 xs0 a1 a2 W hl0 hm0 hS0 hg0 hc0 w1).mono fun e W' ⟨he, bel⟩ => ?_
  subst he
  exact ⟨_, rfl, _, _, _, [], _, [], hW', trodAll_mk1 (shut_bool Try.underlying4 _), (trodAll_cons_mk (Below.trod laidOut (by kernel_rfl) (of_decide_eq_true (by kernel_rfl)) k0 bel lt0) (trodAll_cons_mk (shut_int Try.underlying3 w1) (trodAll_cons_mk (shut_bool Try.underlying4 _) trodAll_mk0))), rfl, bel.frame _, fun h => by cases h⟩

theorem over : Rows.lexNextsRow.holds Try.pinned (OpenSpec.ofChange Rows.lexNextsSpec) :=
  OpenClaim.holds_of_wide 3 Try.f3 rfl rfl rfl rfl rfl rfl rfl ⟨rfl, rfl, rfl, rfl, rfl⟩ rfl rfl rfl rfl rfl (by kernel_rfl) Try.func3 (by kernel_rfl)
    (of_decide_eq_true (by kernel_rfl)) (by unfold Func.isWrapper; first | (rw [if_pos (by decide +kernel)]; kernel_rfl) | (rw [if_neg (by decide +kernel)]; exact ⟨rfl, rfl⟩))
    (fun os started H enc _ => lifted os started H enc)

theorem proved : Rows.LexNextsSaid := over
#print axioms proved
end Go.Proofs.Ytmmehaghcfdjdaa.lnext
