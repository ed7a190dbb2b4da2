/- The program's walk over a value, with a function value that writes into boxes of its own. -/
import Derived.Test.YtjbjfoingpnlmaaRVt4
import Derived.Shelf.Abstract
namespace Go.Proofs.Ytjbjfoingpnlmaa
open Go.RowKit
set_option linter.unusedVariables false
set_option linter.unusedSimpArgs false

mutual
/-- What a walk makes of a state: a step tells, of a value at a depth, the next state, and whether to go into it. -/
def walkT {σ : Type} (step : VT → Nat → σ → σ × Bool) : VT → Nat → σ → σ
  | .mk k n s l, d, st => if (step (.mk k n s l) d st).2 then walkL step l (d + 1) (step (.mk k n s l) d st).1 else (step (.mk k n s l) d st).1
def walkL {σ : Type} (step : VT → Nat → σ → σ × Bool) : List VT → Nat → σ → σ
  | [], _, st => st
  | t :: l, d, st => walkL step l d (walkT step t d st)
end
theorem walkT_on {σ : Type} {step : VT → Nat → σ → σ × Bool} {k n : Int} {s : ByteArray} {l : List VT} {d : Nat} {st : σ} (h : (step (.mk k n s l) d st).2 = true) : walkT step (.mk k n s l) d st = walkL step l (d + 1) (step (.mk k n s l) d st).1 := by rw [walkT, if_pos h]
theorem walkT_no {σ : Type} {step : VT → Nat → σ → σ × Bool} {k n : Int} {s : ByteArray} {l : List VT} {d : Nat} {st : σ} (h : (step (.mk k n s l) d st).2 = false) : walkT step (.mk k n s l) d st = (step (.mk k n s l) d st).1 := by rw [walkT, if_neg (by rw [h]; decide)]
theorem walkL_cons {σ : Type} (step : VT → Nat → σ → σ × Bool) (t : VT) (l : List VT) (d : Nat) (st : σ) : walkL step (t :: l) d st = walkL step l d (walkT step t d st) := by rw [walkL]

/-- The function value makes its steps: it keeps J, and writes into the blocks of S alone, which were there. -/
structure SeeOf (w0 : World) (g : Nat) (lb : Array Value) {σ : Type} (S : Nat → Prop) (J : σ → World → Prop) (step : VT → Nat → σ → σ × Bool) : Prop where
  chg : ∀ st W, J st W → Chg NoS w0 W
  keep : ∀ st W W', J st W → Chg NoS W W' → J st W'
  low : ∀ st W, J st W → ∀ i, S i → i < W.heap.size
  see : ∀ (t : VT) (c : VC) (d : Nat) (st : σ) (W : World), ValIs W t c → J st W → d ≤ 2000000000 → Calls Try.prog g (#[c.val, .int .i64 (d : Nat)] ++ lb) W fun e w' => e = .returned (.bool (step t d st).2) ∧ J (step t d st).1 w' ∧ Chg S W w'

/-- The cells of an element, in a world that lets them be; its tree, in the elder world. -/
theorem RowIs.at0 {w w' : World} {b off j : Nat} {t : VT} {l : List VT} (h : RowIs w (some ⟨b, off, none⟩) j (t :: l)) (hc : Chg NoS w w') : ∃ (ek en : Int) (es : ByteArray) (eA : Option Addr) (el ec : Nat),
    w'.cell? ⟨b, off + j * 4, none⟩ = some (.int .i64 ek) ∧ w'.cell? ⟨b, off + j * 4 + 1, none⟩ = some (.int .i64 en) ∧ w'.cell? ⟨b, off + j * 4 + 2, none⟩ = some (.string es) ∧ w'.cell? ⟨b, off + j * 4 + 3, none⟩ = some (.slice eA el ec) ∧ ValIs w t ⟨ek, en, es, eA, el, ec⟩ ∧ RowIs w (some ⟨b, off, none⟩) (j + 1) l := by
  obtain ⟨⟨ek, en, es, eA, el, ec⟩, h0, h1, h2, h3, hv, hr⟩ := h.plain
  refine ⟨ek, en, es, eA, el, ec, ?_, ?_, ?_, ?_, hv, hr⟩
  · exact (hc.cell (p := ⟨b, _, none⟩) (by exact cell_lt h0) (fun e => e)).trans h0
  · exact (hc.cell (p := ⟨b, _, none⟩) (by exact cell_lt h1) (fun e => e)).trans h1
  · exact (hc.cell (p := ⟨b, _, none⟩) (by exact cell_lt h2) (fun e => e)).trans h2
  · exact (hc.cell (p := ⟨b, _, none⟩) (by exact cell_lt h3) (fun e => e)).trans h3
theorem Chg.weak {S : Nat → Prop} {w w' : World} (h : Chg NoS w w') : Chg S w w' := (Chg.refl S w).trans h (fun _ _ e => absurd e (fun e => e))

set_option maxHeartbeats 2000000 in
set_option maxRecDepth 100000 in
theorem walk_in {σ : Type} (w0 : World) (g : Nat) (lb : Array Value) (eg : ∀ args w, (callFunc g args).run Try.prog w = .ok (.enter g args) w) (S : Nat → Prop) (J : σ → World → Prop) (step : VT → Nat → σ → σ × Bool) (hs : SeeOf w0 g lb S J step) :
    ∀ (N : Nat) (t : VT), sizT t ≤ N → ∀ (c : VC) (d : Nat) (st : σ) (w : World), ValIs w0 t c → J st w → d + N ≤ 2000000000 →
    Calls Try.prog 32 #[c.val, .int .i64 (d : Nat), .func (.func g) #[] lb] w fun e w' => e = .returned (.tuple #[]) ∧ J (walkT step t d st) w' ∧ Chg S w w' := by
  intro N
  induction N with
  | zero =>
    intro t ht
    obtain ⟨k, n, s, l⟩ := t
    rw [sizT_mk] at ht
    omega
  | succ N ih =>
    intro t ht c d st w hv hj hd
    have HV := keepf hv
    obtain ⟨tk, tn, ts, l⟩ := t
    obtain ⟨h1, h2, h3, hg, hl, hr⟩ := hv.inv
    obtain ⟨ck, cn, cs, A, len, cap⟩ := c
    simp only [] at h1 h2 h3 hl hr
    subst h1 h2 h3
    rw [sizT_mk] at ht
    have hcap := hg.cap
    have hlm := hg.len
    simp only [] at hcap hlm
    unfold maxLen at hlm
    have HL := keepf hl
    have HR := keepf hr
    have HIH := keepf (fun (t' : VT) (ht' : sizT t' ≤ sizL l) => ih t' (by omega))
    unfold VC.val
    simp only []
    have HB := keepf (Blk.new w 24 #[.int .i64 ck, .int .i64 cn, .string cs, .slice A len cap])
    have hc0 := ((Chg.refl NoS w).alloc (.cells #[.int .i64 ck, .int .i64 cn, .string cs, .slice A len cap] 24))
    have HC0 := keepf (Chg.weak (S := S) hc0)
    have HJ0 := keepf (hs.keep _ _ _ hj hc0)
    have HNS : Hid (¬ S w.heap.size) := fun h => absurd (hs.low _ _ hj _ h) (Nat.lt_irrefl _)
    obtain ⟨W0, hW⟩ : ∃ W0, W0 = w.alloc (.cells #[.int .i64 ck, .int .i64 cn, .string cs, .slice A len cap] 24) := ⟨_, rfl⟩
    obtain ⟨gb, hgg⟩ : ∃ gb, gb = w.heap.size := ⟨_, rfl⟩
    rw [← hW] at HB HC0 HJ0
    rw [← hgg] at HB HNS
    have HX := keepf (hs.see (.mk ck cn cs l) ⟨ck, cn, cs, A, len, cap⟩ d st W0 (HV.out.chg (hs.chg _ _ HJ0.out)) HJ0.out (by omega))
    unfold VC.val at HX
    simp only [] at HX
    obtain ⟨bb, hbb⟩ : ∃ bb, bb = (step (.mk ck cn cs l) d st).2 := ⟨_, rfl⟩
    obtain ⟨s1, hs1⟩ : ∃ s1, s1 = (step (.mk ck cn cs l) d st).1 := ⟨_, rfl⟩
    have p0 := HB.out.cell 0
    have p1 := HB.out.cell 1
    have p2 := HB.out.cell 2
    have p3 := HB.out.cell 3
    simp at p0 p1 p2 p3
    have HS := keepf hs
    rw [← hbb, ← hs1] at HX
    have HBB := keepf hbb
    have HS1 := keepf hs1
    clear hv hg hl hr ih ht hc0 hj hbb hs1 hs
    cases bb with
    | false =>
      have HE := keepf (show walkT step (.mk ck cn cs l) d st = s1 from by rw [walkT_no HBB.out.symm, HS1.out])
      go_enter Try.func32, Try.ntmps32
      go_upto_region 1 with fail
      rw [← hgg, ← hW]
      clear hgg hW
      go_wp2_with (go_at_fn g; refine HX.out.mono ?_; rintro e w3 ⟨rfl, hj3, hc3⟩; have HJ3 := keepf hj3; have HC3 := keepf (HC0.out.trans hc3 (fun _ _ e => e)); clear hj3 hc3)
      (try simp only [Exit.inBlock, Exit.then])
      refine bodyPost_ret (results_none rfl _ _ _) rfl ?_
      exact ⟨rfl, by rw [HE.out]; exact HJ3.out, HC3.out⟩
    | true =>
      have HE := keepf (show walkT step (.mk ck cn cs l) d st = walkL step l (d + 1) s1 from by rw [walkT_on HBB.out.symm, HS1.out])
      go_enter Try.func32, Try.ntmps32
      go_upto_region 1 with fail
      rw [← hgg, ← hW]
      clear hgg hW
      go_upto_region 2 with (go_at_fn g; refine HX.out.mono ?_; rintro e w3 ⟨rfl, hj3, hc3⟩; have HJ3 := keepf hj3; have HB3 := keepf (HB.out.chg hc3 HNS.out); have HC3 := keepf (HC0.out.trans hc3 (fun _ _ e => e)); clear hj3 hc3)
      clear p0 p1 p2 p3
      have q3 := HB3.out.cell 3
      simp at q3
      go_upto_region 3 with fail
      clear q3
      go_loopw [16] (fun vk wr => ∃ (k : Nat) (s2 : σ), k ≤ len ∧ vk = .int .i64 (k : Nat) ∧ Hid (J s2 wr) ∧ Hid (Chg S w wr) ∧ Hid (RowIs w0 A k (l.drop k)) ∧ Hid (walkL step l (d + 1) s1 = walkL step (l.drop k) (d + 1) s2)) (fun vk _ => len - (intOf vk).toNat)
      case atStart => exact ⟨0, s1, by omega, rfl, HJ3, HC3, by rw [List.drop_zero]; exact HR.out, keepf (by rw [List.drop_zero])⟩
      case round =>
        obtain ⟨k, s2, hk, rfl, HJW, HCW, HRW, HFW⟩ := hrel
        by_cases h1 : k < len
        · obtain ⟨t', ht', hdd⟩ := drop_vt (l := l) (k := k) (by rw [HL.out]; exact h1)
          obtain ⟨b, off, rfl⟩ : ∃ b off, A = some ⟨b, off, none⟩ := by
            have h := HR.out
            cases hll : l with
            | nil => rw [hll] at ht'; simp at ht'
            | cons t0 l0 => rw [hll] at h; exact h.start
          have hrw := HRW.out
          rw [hdd] at hrw
          obtain ⟨ek, en, es, eA, el, ec, c0, c1, c2, c3, hv', hr'⟩ := hrw.at0 (HS.out.chg _ _ HJW.out)
          have HX2 := keepf (fun (W : World) (h : Chg NoS wr W) => HIH.out t' (sizL_at ht') ⟨ek, en, es, eA, el, ec⟩ (d + 1) s2 W hv' (HS.out.keep _ _ _ HJW.out h) (by omega))
          unfold VC.val at HX2
          simp only [] at HX2
          have HRN := keepf hr'
          obtain ⟨s4, hs4⟩ : ∃ s4, s4 = walkT step t' (d + 1) s2 := ⟨_, rfl⟩
          have HFN := keepf (show walkL step l (d + 1) s1 = walkL step (l.drop (k + 1)) (d + 1) s4 from by rw [HFW.out, hdd, walkL_cons, hs4])
          rw [← hs4] at HX2
          have i1 : (k : Int) < len := by omega
          have hdi : ((d + 1 : Nat) : Int) = (d : Int) + 1 := by omega
          rw [hdi] at HX2
          clear hrw hv' hr' hdd ht' hs4 hdi
          go_wp2_with (go_at_call 32; refine (HX2.out _ ((Chg.refl NoS wr).alloc _)).mono ?_; rintro e w4 ⟨rfl, hj4, hc4⟩; have HJ4 := keepf hj4; have HC4 := keepf ((HCW.out.alloc _).trans hc4 (fun _ _ e => e)); clear hj4 hc4)
          go_roundw
          case rel => exact ⟨k + 1, s4, by omega, by go_num, HJ4, HC4, HRN, HFN⟩
          case measure => simp [intOf]; omega
        · obtain rfl : k = len := by omega
          have HFE := keepf (show walkL step l (d + 1) s1 = s2 from by rw [HFW.out, List.drop_of_length_le (by rw [HL.out]; exact Nat.le_refl _), walkL])
          go_wp2_with fail
          go_end0
          exact ⟨rfl, by rw [HE.out, HFE.out]; exact HJW.out, HCW.out⟩
theorem walk_any {σ : Type} (w0 : World) (g : Nat) (lb : Array Value) (eg : ∀ args w, (callFunc g args).run Try.prog w = .ok (.enter g args) w) (S : Nat → Prop) (J : σ → World → Prop) (step : VT → Nat → σ → σ × Bool) (hs : SeeOf w0 g lb S J step)
    (t : VT) (c : VC) (d : Nat) (st : σ) (w : World) (hv : ValIs w0 t c) (hj : J st w) (hd : d + sizT t ≤ 2000000000) :
    Calls Try.prog 32 #[c.val, .int .i64 (d : Nat), .func (.func g) #[] lb] w fun e w' => e = .returned (.tuple #[]) ∧ J (walkT step t d st) w' ∧ Chg S w w' :=
  walk_in w0 g lb eg S J step hs _ t (Nat.le_refl _) c d st w hv hj hd
end Go.Proofs.Ytjbjfoingpnlmaa
