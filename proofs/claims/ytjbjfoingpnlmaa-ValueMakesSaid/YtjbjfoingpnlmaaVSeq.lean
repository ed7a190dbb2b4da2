/- The library's Chunk and Collect at rows of values: pairs. -/
import Derived.Test.YtjbjfoingpnlmaaVCa2
import Derived.RangeFuncWrites
import Derived.RangeFuncNested
import Derived.RangeFuncCalls
import Derived.RangeFuncLeaves
import Derived.RangeFuncBox
import Derived.CallsIn
import Derived.Shelf.Abstract
import Derived.Shelf.RegionOpen
import Derived.Sort.QuietIn
import Derived.OwnWalkIn
import Derived.TacticsInMore
import Derived.LoopNIn
import Derived.LoopIn
namespace Go.Proofs.Ytjbjfoingpnlmaa
open Go.RowKit Go.Shelf
set_option linter.unusedVariables false
set_option linter.unusedSimpArgs false
attribute [local go_sem] Oper.semAt_some

/-- A loop over an iterator whose rounds come in a known order; what is kept may lie in blocks that the rounds make. -/
theorem range_order_own {P : Program} {n : Nat} {g : Operand} {ps : Array Tmp} {assign body : Code} {Q : Exit → Act → World → Prop} {a : Act} {w : World} (h1 : 1 ≤ n) {gf : Nat} {lb : Array Value}
    (hg : a.eval g = .func (.func gf) #[] lb) (eg : ∀ args w, (callFunc gf args).run P w = .ok (.enter gf args) w) (N : Nat) (encs : Nat → Array Value) (hps : ∀ t, (encs t).size = ps.size)
    (I : Nat → World → Prop) (hput : ∀ t W s o, I t W → W.heap[w.heap.size + 1]? = some (.loop s) → I t (W.putObj (w.heap.size + 1) o)) (hal : ∀ t W o, I t W → I t (W.alloc o)) (hdr : ∀ t W k, I t W → I t (W.drewN k)) (h0 : I 0 w)
    (hseq : ∀ (l : Nat) (J : Nat → World → Prop) (W : World), (∀ t W1, J t W1 → I t W1) → (∀ t W1 k, J t W1 → J t (W1.drewN k)) → (∀ t W1, t < N → J t W1 → YieldAt Fence.wide (n - 1 - 1) P l (encs t) W1 fun e W' => e = .returned (.bool true) ∧ J (t + 1) W') → J 0 W →
      CallsIn Fence.wide (n - 1) P gf (#[.func (.yield l) #[] #[]] ++ lb) W fun e W' => (∃ v, e = .returned v) ∧ J N W')
    (a₁ : Nat → Act)
    (hassign : ∀ (l t : Nat) (W : World) (K : Act → World → Prop), K (a₁ t) W →
      assign.wpIn (Fence.wide.inRound l) (n - 1 - 1) P (Exit.then K (fun _ _ _ => False)) { tmps := (ps.zip (encs t)).foldl (fun t (p, v) => t.setIfInBounds p v) a.tmps, defers := [] } W)
    (hbody : ∀ (l t : Nat) (W : World), t < N → I t W → body.wpIn (Fence.wide.inRound l) (n - 1 - 1) P (fun e _ W' => e = .normal ∧ KeepsFrom w.heap.size W W' ∧ I (t + 1) W') (a₁ t) W)
    (hdone : ∀ (D : Nat) (W : World), w.heap.size ≤ D → I N W → W.heap[D]? = some (.deferred (some [])) → Q .normal { a with defers := { target := .collected D, args := #[] } :: a.defers } W) :
    (Code.rangeFunc g ps assign body).wpIn Fence.wide n P Q a w := by
  refine wpIn_rangeFunc ?_
  intro fn hfn
  obtain ⟨R, hR⟩ : ∃ R : LoopState → Loop, R = fun s => { state := s, pending := none, fn, tmps := a.tmps, params := ps, assign, body, defers := w.heap.size } := ⟨_, rfl⟩
  obtain ⟨V, hV⟩ : ∃ V, V = (w.alloc (.deferred (some []))).alloc (.loop (R .ready)) := ⟨_, rfl⟩
  have hrec : V.heap[w.heap.size + 1]? = some (.loop (R .ready)) := by
    have h2 := World.alloc_heap_new (w.alloc (.deferred (some []))) (.loop (R .ready))
    rw [World.size_alloc] at h2
    rw [hV]; exact h2
  have hdef : V.heap[w.heap.size]? = some (.deferred (some [])) := by
    rw [hV]
    exact (Below.heap_alloc _ _ _ (by simp)).trans (World.alloc_heap_new w _)
  have hIV : I 0 V := by rw [hV]; exact hal _ _ _ (hal _ _ _ h0)
  refine ⟨w.heap.size + 1, [{ target := .collected w.heap.size, args := #[] }], V, { target := .fn (.func gf) lb, args := #[.func (.yield (w.heap.size + 1)) #[] #[]] }, V, gf, #[.func (.yield (w.heap.size + 1)) #[] #[]] ++ lb, V, ?_, ?_, fun _ _ => trivial, ?_, fun _ => h1, ?_⟩
  · rw [hV, hR]
    exact run_enterLoop_outer _ _ _ _ _
  · simp only [resolve, hg]
    simp [go_sem]
  · simp [invoke, go_sem, eg]
  · refine (hseq (w.heap.size + 1) (fun t W => I t W ∧ W.heap[w.heap.size + 1]? = some (.loop (R .ready)) ∧ W.heap[w.heap.size]? = some (.deferred (some []))) V (fun _ _ h => h.1) (fun t W1 k h => ⟨hdr _ _ _ h.1, h.2.1, h.2.2⟩) ?_ ⟨hIV, hrec, hdef⟩).mono ?_
    · rintro t W ht ⟨hi, hl, hk⟩
      have hlt : w.heap.size + 1 < W.heap.size := (Array.getElem?_eq_some_iff.1 hl).1
      have hy := run_yield (P := P) (args := encs t) hl (by rw [hR]; exact hps t)
      rw [hR] at hy
      refine ⟨fn, _, assign, body, hy, roundIn_of_wpIn hfn (hassign _ t W _ ⟨_, run_beginRound hl (by rw [hR]), ?_⟩)⟩
      have hl2 : (W.putObj (w.heap.size + 1) (.loop { R .ready with state := .busy })).heap[w.heap.size + 1]? = some (.loop { R .ready with state := .busy }) := World.putObj_heap_same hlt
      have hk2 : (W.putObj (w.heap.size + 1) (.loop { R .ready with state := .busy })).heap[w.heap.size]? = some (.deferred (some [])) := (World.putObj_heap_other (by omega)).trans hk
      refine wpIn_mono (hbody _ t _ ht (hput _ _ _ _ hi hl)) ?_
      rintro e a3 W3 ⟨rfl, hkeep, hi3⟩
      have hl3 := hkeep.same _ _ (by omega) hl2 rfl
      have hk3 := hkeep.same _ _ (Nat.le_refl _) hk2 rfl
      have hend := run_endRound (P := P) none hl3
      refine ⟨_, _, hend, rfl, hput _ _ _ _ hi3 hl3, ?_, (World.putObj_heap_other (by omega)).trans hk3⟩
      rw [World.putObj_heap_same (Array.getElem?_eq_some_iff.1 hl3).1, hR]
      rfl
    · rintro e W2 ⟨⟨v, rfl⟩, hi, hl, hk⟩
      have hend := run_endLoop (P := P) hl (by rw [hR]; simp)
      rw [hR] at hend
      exact ⟨none, _, hend, hdone _ _ (Nat.le_refl _) (hput _ _ _ _ hi hl) ((World.putObj_heap_other (by omega)).trans hk)⟩

/-- The pair i of a row of values: a slice of two. -/
def pcell (b off i : Nat) : Value := .slice (some ⟨b, off + 2 * i * 4, none⟩) 2 2

theorem chunkV_any (w : World) (A : Option Addr) (len cap : Nat) :
    Calls Try.prog 48 #[.slice A len cap, .int .i64 2] w fun e w' => e = .returned (.func (.func 61) #[] #[.pointer (some ⟨w.heap.size, 0, none⟩), .pointer (some ⟨w.heap.size + 1, 0, none⟩)]) ∧ w' = (w.alloc (.cells #[.slice A len cap] 22)).alloc (.cells #[.int .i64 2] 3) := by
  go_enter Try.func48, Try.ntmps48
  go_wp2_with fail
  go_ret
  exact ⟨rfl, rfl⟩

set_option maxRecDepth 100000 in
set_option maxHeartbeats 4000000 in
theorem chunk1V_any (l m Bs Bn b off cap : Nat) (A : Option Addr) (hm : m ≤ 1000) (hA : 0 < m → A = some ⟨b, off, none⟩) (hcap : 2 * m ≤ cap) (J : Nat → World → Prop) (hJd : ∀ t W k, J t W → J t (W.drewN k))
    (hbox : ∀ t W1, J t W1 → W1.cell? ⟨Bs, 0, none⟩ = some (.slice A (2 * m) cap) ∧ W1.cell? ⟨Bn, 0, none⟩ = some (.int .i64 2))
    (hY : ∀ t W1, t < m → J t W1 → YieldAt Fence.wide 7 Try.prog l #[pcell b off t] W1 fun e W' => e = .returned (.bool true) ∧ J (t + 1) W')
    (W : World) (h0 : J 0 W) :
    CallsIn Fence.wide 8 Try.prog 61 #[.func (.yield l) #[] #[], .pointer (some ⟨Bs, 0, none⟩), .pointer (some ⟨Bn, 0, none⟩)] W fun e W' => (∃ v, e = .returned v) ∧ J m W' := by
  obtain ⟨L, hL⟩ : ∃ L, L = 2 * m := ⟨_, rfl⟩
  rw [← hL] at hbox hcap
  have HLL := keepf hL
  clear hL
  refine callsIn_of_wp Try.func61 rfl trivial ?_ rfl
  simp only [Try.ntmps61, List.size_toArray, List.length_cons, List.length_nil, Nat.reduceAdd, Nat.reduceSub, Array.replicate_succ, Array.replicate_zero, List.push_toArray, List.append_toArray, List.nil_append, List.cons_append]
  gi_wp2
  gi_loopw [4] (fun i wr => ∃ t p : Nat, t ≤ m ∧ Hid (p = 2 * t) ∧ i = .int .i64 (p : Nat) ∧ J t wr) (fun i _ => L - (intOf i).toNat)
  case atStart => exact ⟨0, 0, Nat.zero_le _, rfl, by go_num, h0⟩
  case round =>
    obtain ⟨t, p, ht, HP, rfl, hJ⟩ := hrel
    obtain ⟨hs, hn⟩ := hbox t wr hJ
    have hp := HP.out
    have hL := HLL.out
    by_cases hlt : t < m
    · have hmx : Try.prog.follows .mixedOrders = true := by kernel_rfl
      obtain rfl := hA (by omega)
      have i1 : (p : Int) < L := by omega
      have i2 : (p : Int) ≤ L := by omega
      have i3 : (p : Int) ≤ cap := by omega
      have i4 : p ≤ cap := by omega
      obtain ⟨u, hu⟩ : ∃ u, u = p + 2 := ⟨_, rfl⟩
      have e1 : (p : Int) + 2 = (u : Int) := by omega
      have k1 : IntKind.i64.wrap (u : Int) = (u : Int) := by rw [IntKind.wrap_i64]; omega
      have hmin : (if 2 < ((L - p : Nat) : Int) then 2 else ((L - p : Nat) : Int)) = 2 := by split <;> omega
      have hmin2 : (if ((L - p : Nat) : Int) < 2 then ((L - p : Nat) : Int) else 2) = 2 := by split <;> omega
      have hmin3 : min 2 ((L - p : Nat) : Int) = 2 := by omega
      have e2 : u - p = 2 := by omega
      have j1 : (p : Int) ≤ u := by omega
      have j2 : (u : Int) ≤ cap := by omega
      have j3 : p ≤ u := by omega
      have j4 : u ≤ cap := by omega
      have hL1000 : L ≤ 2000 := by omega
      have HU := keepf hu
      clear hp hL hu
      gi_wp2
      gi_quiet (fail)
      have hy0 := hY t (wr.drewN nq) hlt (hJd _ _ _ hJ)
      unfold pcell at hy0
      rw [← HP.out] at hy0
      obtain ⟨fn, tmps, assign, body, hy, hR⟩ := hy0
      obtain ⟨hs2, hn2⟩ := hbox t (wr.drewN nq) (hJd _ _ _ hJ)
      clear hs hn
      gi_wp2
      refine hR.mono ?_
      rintro e W3 ⟨rfl, hJ3⟩
      obtain ⟨hs3, hn3⟩ := hbox (t + 1) W3 hJ3
      gi_wp2
      go_roundw
      case rel => exact ⟨t + 1, u, by omega, (by have h1 := HP.out; have h2 := HU.out; show u = _; omega), by go_num, hJ3⟩
      case measure => have h2 := HU.out; simp [intOf]; omega
    · have hx : ¬ ((p : Int) < L) := by omega
      obtain rfl : t = m := by omega
      clear hp hL
      gi_wp2
      go_end0
      exact ⟨⟨_, rfl⟩, hJ⟩
end Go.Proofs.Ytjbjfoingpnlmaa
