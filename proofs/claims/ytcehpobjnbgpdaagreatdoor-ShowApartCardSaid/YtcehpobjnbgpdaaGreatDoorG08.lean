/- Merged by program: VSeq VCol VCmp VIns VIn2 VSrt HeldZ VMk VDi1. -/
import Derived.Test.YtcehpobjnbgpdaaGreatDoorG00
import Derived.Test.YtcehpobjnbgpdaaGreatDoorG05
import Derived.Test.YtcehpobjnbgpdaaGreatDoorG06
import Derived.Test.YtcehpobjnbgpdaaGreatDoorG07
import Derived.RangeFuncWrites
import Derived.RangeFuncNested
import Derived.RangeFuncCalls
import Derived.RangeFuncLeaves
import Derived.RangeFuncBox
import Derived.CallsIn
import Derived.Shelf.Abstract
import Derived.Shelf.RegionOpen
import Derived.Sort.QuietIn
import Derived.OwnWalkIn
import Derived.TacticsInMore
import Derived.LoopNIn
import Derived.LoopIn
import Derived.Test.YtcehpobjnbgpdaaGreatDoorShelf
import Derived.StillTailTactics
import Derived.BigQuiet
import Derived.BigRegion
import Derived.Deep.RegionHeld
import Derived.StillTail
import Derived.Deep.AppendLies
/- The library's Chunk and Collect at rows of values: pairs. -/
namespace Go.Proofs.YtcehpobjnbgpdaaGreatDoor
open Go.RowKit Go.Shelf
set_option linter.unusedVariables false
set_option linter.unusedSimpArgs false
attribute [local go_sem] Oper.semAt_some

/-- A loop over an iterator whose rounds come in a known order; what is kept may lie in blocks that the rounds make. -/
theorem range_order_own {P : Program} {n : Nat} {g : Operand} {ps : Array Tmp} {assign body : Code} {Q : Exit → Act → World → Prop} {a : Act} {w : World} (h1 : 1 ≤ n) {gf : Nat} {lb : Array Value}
    (hg : a.eval g = .func (.func gf) #[] lb) (eg : ∀ args w, (callFunc gf args).run P w = .ok (.enter gf args) w) (N : Nat) (encs : Nat → Array Value) (hps : ∀ t, (encs t).size = ps.size)
    (I : Nat → World → Prop) (hput : ∀ t W s o, I t W → W.heap[w.heap.size + 1]? = some (.loop s) → I t (W.putObj (w.heap.size + 1) o)) (hal : ∀ t W o, I t W → I t (W.alloc o)) (hdr : ∀ t W k, I t W → I t (W.drewN k)) (h0 : I 0 w)
    (hseq : ∀ (l : Nat) (J : Nat → World → Prop) (W : World), (∀ t W1, J t W1 → I t W1) → (∀ t W1 k, J t W1 → J t (W1.drewN k)) → (∀ t W1, t < N → J t W1 → YieldAt Fence.wide (n - 1 - 1) P l (encs t) W1 fun e W' => e = .returned (.bool true) ∧ J (t + 1) W') → J 0 W →
      CallsIn Fence.wide (n - 1) P gf (#[.func (.yield l) #[] #[]] ++ lb) W fun e W' => (∃ v, e = .returned v) ∧ J N W')
    (a₁ : Nat → Act)
    (hassign : ∀ (l t : Nat) (W : World) (K : Act → World → Prop), K (a₁ t) W →
      assign.wpIn (Fence.wide.inRound l) (n - 1 - 1) P (Exit.then K (fun _ _ _ => False)) { tmps := (ps.zip (encs t)).foldl (fun t (p, v) => t.setIfInBounds p v) a.tmps, defers := [] } W)
    (hbody : ∀ (l t : Nat) (W : World), t < N → I t W → body.wpIn (Fence.wide.inRound l) (n - 1 - 1) P (fun e _ W' => e = .normal ∧ KeepsFrom w.heap.size W W' ∧ I (t + 1) W') (a₁ t) W)
    (hdone : ∀ (D : Nat) (W : World), w.heap.size ≤ D → I N W → W.heap[D]? = some (.deferred (some [])) → Q .normal { a with defers := { target := .collected D, args := #[] } :: a.defers } W) :
    (Code.rangeFunc g ps assign body).wpIn Fence.wide n P Q a w := by
  refine wpIn_rangeFunc ?_
  intro fn hfn
  obtain ⟨R, hR⟩ : ∃ R : LoopState → Loop, R = fun s => { state := s, pending := none, fn, tmps := a.tmps, params := ps, assign, body, defers := w.heap.size } := ⟨_, rfl⟩
  obtain ⟨V, hV⟩ : ∃ V, V = (w.alloc (.deferred (some []))).alloc (.loop (R .ready)) := ⟨_, rfl⟩
  have hrec : V.heap[w.heap.size + 1]? = some (.loop (R .ready)) := by
    have h2 := World.alloc_heap_new (w.alloc (.deferred (some []))) (.loop (R .ready))
    rw [World.size_alloc] at h2
    rw [hV]; exact h2
  have hdef : V.heap[w.heap.size]? = some (.deferred (some [])) := by
    rw [hV]
    exact (Below.heap_alloc _ _ _ (by simp)).trans (World.alloc_heap_new w _)
  have hIV : I 0 V := by rw [hV]; exact hal _ _ _ (hal _ _ _ h0)
  refine ⟨w.heap.size + 1, [{ target := .collected w.heap.size, args := #[] }], V, { target := .fn (.func gf) lb, args := #[.func (.yield (w.heap.size + 1)) #[] #[]] }, V, gf, #[.func (.yield (w.heap.size + 1)) #[] #[]] ++ lb, V, ?_, ?_, fun _ _ => trivial, ?_, fun _ => h1, ?_⟩
  · rw [hV, hR]
    exact run_enterLoop_outer _ _ _ _ _
  · simp only [resolve, hg]
    simp [go_sem]
  · simp [invoke, go_sem, eg]
  · refine (hseq (w.heap.size + 1) (fun t W => I t W ∧ W.heap[w.heap.size + 1]? = some (.loop (R .ready)) ∧ W.heap[w.heap.size]? = some (.deferred (some []))) V (fun _ _ h => h.1) (fun t W1 k h => ⟨hdr _ _ _ h.1, h.2.1, h.2.2⟩) ?_ ⟨hIV, hrec, hdef⟩).mono ?_
    · rintro t W ht ⟨hi, hl, hk⟩
      have hlt : w.heap.size + 1 < W.heap.size := (Array.getElem?_eq_some_iff.1 hl).1
      have hy := run_yield (P := P) (args := encs t) hl (by rw [hR]; exact hps t)
      rw [hR] at hy
      refine ⟨fn, _, assign, body, hy, roundIn_of_wpIn hfn (hassign _ t W _ ⟨_, run_beginRound hl (by rw [hR]), ?_⟩)⟩
      have hl2 : (W.putObj (w.heap.size + 1) (.loop { R .ready with state := .busy })).heap[w.heap.size + 1]? = some (.loop { R .ready with state := .busy }) := World.putObj_heap_same hlt
      have hk2 : (W.putObj (w.heap.size + 1) (.loop { R .ready with state := .busy })).heap[w.heap.size]? = some (.deferred (some [])) := (World.putObj_heap_other (by omega)).trans hk
      refine wpIn_mono (hbody _ t _ ht (hput _ _ _ _ hi hl)) ?_
      rintro e a3 W3 ⟨rfl, hkeep, hi3⟩
      have hl3 := hkeep.same _ _ (by omega) hl2 rfl
      have hk3 := hkeep.same _ _ (Nat.le_refl _) hk2 rfl
      have hend := run_endRound (P := P) none hl3
      refine ⟨_, _, hend, rfl, hput _ _ _ _ hi3 hl3, ?_, (World.putObj_heap_other (by omega)).trans hk3⟩
      rw [World.putObj_heap_same (Array.getElem?_eq_some_iff.1 hl3).1, hR]
      rfl
    · rintro e W2 ⟨⟨v, rfl⟩, hi, hl, hk⟩
      have hend := run_endLoop (P := P) hl (by rw [hR]; simp)
      rw [hR] at hend
      exact ⟨none, _, hend, hdone _ _ (Nat.le_refl _) (hput _ _ _ _ hi hl) ((World.putObj_heap_other (by omega)).trans hk)⟩

/-- The pair i of a row of values: a slice of two. -/
def pcell (b off i : Nat) : Value := .slice (some ⟨b, off + 2 * i * 4, none⟩) 2 2

theorem chunkV_any (w : World) (A : Option Addr) (len cap : Nat) :
    Calls Tryz.prog 40 #[.slice A len cap, .int .i64 2] w fun e w' => e = .returned (.func (.func 76) #[] #[.pointer (some ⟨w.heap.size, 0, none⟩), .pointer (some ⟨w.heap.size + 1, 0, none⟩)]) ∧ w' = (w.alloc (.cells #[.slice A len cap] 22)).alloc (.cells #[.int .i64 2] 3) := by
  go_enter Tryz.func40, Tryz.ntmps40
  go_wp2_with fail
  go_ret
  exact ⟨rfl, rfl⟩

set_option maxRecDepth 100000 in
set_option maxHeartbeats 4000000 in
theorem chunk1V_any (l m Bs Bn b off cap : Nat) (A : Option Addr) (hm : m ≤ 500000) (hA : 0 < m → A = some ⟨b, off, none⟩) (hcap : 2 * m ≤ cap) (J : Nat → World → Prop) (hJd : ∀ t W k, J t W → J t (W.drewN k))
    (hbox : ∀ t W1, J t W1 → W1.cell? ⟨Bs, 0, none⟩ = some (.slice A (2 * m) cap) ∧ W1.cell? ⟨Bn, 0, none⟩ = some (.int .i64 2))
    (hY : ∀ t W1, t < m → J t W1 → YieldAt Fence.wide 7 Tryz.prog l #[pcell b off t] W1 fun e W' => e = .returned (.bool true) ∧ J (t + 1) W')
    (W : World) (h0 : J 0 W) :
    CallsIn Fence.wide 8 Tryz.prog 76 #[.func (.yield l) #[] #[], .pointer (some ⟨Bs, 0, none⟩), .pointer (some ⟨Bn, 0, none⟩)] W fun e W' => (∃ v, e = .returned v) ∧ J m W' := by
  obtain ⟨L, hL⟩ : ∃ L, L = 2 * m := ⟨_, rfl⟩
  rw [← hL] at hbox hcap
  have HLL := keepf hL
  clear hL
  refine callsIn_of_wp Tryz.func76 rfl trivial ?_ rfl
  simp only [Tryz.ntmps76, List.size_toArray, List.length_cons, List.length_nil, Nat.reduceAdd, Nat.reduceSub, Array.replicate_succ, Array.replicate_zero, List.push_toArray, List.append_toArray, List.nil_append, List.cons_append]
  gi_wp2
  gi_loopw [4] (fun i wr => ∃ t p : Nat, t ≤ m ∧ Hid (p = 2 * t) ∧ i = .int .i64 (p : Nat) ∧ J t wr) (fun i _ => L - (intOf i).toNat)
  case atStart => exact ⟨0, 0, Nat.zero_le _, rfl, by go_num, h0⟩
  case round =>
    obtain ⟨t, p, ht, HP, rfl, hJ⟩ := hrel
    obtain ⟨hs, hn⟩ := hbox t wr hJ
    have hp := HP.out
    have hL := HLL.out
    by_cases hlt : t < m
    · have hmx : Tryz.prog.follows .mixedOrders = true := by kernel_rfl
      obtain rfl := hA (by omega)
      have i1 : (p : Int) < L := by omega
      have i2 : (p : Int) ≤ L := by omega
      have i3 : (p : Int) ≤ cap := by omega
      have i4 : p ≤ cap := by omega
      obtain ⟨u, hu⟩ : ∃ u, u = p + 2 := ⟨_, rfl⟩
      have e1 : (p : Int) + 2 = (u : Int) := by omega
      have k1 : IntKind.i64.wrap (u : Int) = (u : Int) := by rw [IntKind.wrap_i64]; omega
      have hmin : (if 2 < ((L - p : Nat) : Int) then 2 else ((L - p : Nat) : Int)) = 2 := by split <;> omega
      have hmin2 : (if ((L - p : Nat) : Int) < 2 then ((L - p : Nat) : Int) else 2) = 2 := by split <;> omega
      have hmin3 : min 2 ((L - p : Nat) : Int) = 2 := by omega
      have e2 : u - p = 2 := by omega
      have j1 : (p : Int) ≤ u := by omega
      have j2 : (u : Int) ≤ cap := by omega
      have j3 : p ≤ u := by omega
      have j4 : u ≤ cap := by omega
      have hL1000 : L ≤ 1000000 := by omega
      have HU := keepf hu
      clear hp hL hu
      gi_wp2
      gi_quiet (fail)
      have hy0 := hY t (wr.drewN nq) hlt (hJd _ _ _ hJ)
      unfold pcell at hy0
      rw [← HP.out] at hy0
      obtain ⟨fn, tmps, assign, body, hy, hR⟩ := hy0
      obtain ⟨hs2, hn2⟩ := hbox t (wr.drewN nq) (hJd _ _ _ hJ)
      clear hs hn
      gi_wp2
      refine hR.mono ?_
      rintro e W3 ⟨rfl, hJ3⟩
      obtain ⟨hs3, hn3⟩ := hbox (t + 1) W3 hJ3
      gi_wp2
      go_roundw
      case rel => exact ⟨t + 1, u, by omega, (by have h1 := HP.out; have h2 := HU.out; show u = _; omega), by go_num, hJ3⟩
      case measure => have h2 := HU.out; simp [intOf]; omega
    · have hx : ¬ ((p : Int) < L) := by omega
      obtain rfl : t = m := by omega
      clear hp hL
      gi_wp2
      go_end0
      exact ⟨⟨_, rfl⟩, hJ⟩

end Go.Proofs.YtcehpobjnbgpdaaGreatDoor

/- The library's Collect over Chunk: the pairs of a row of values, in a row of the call's own. -/
namespace Go.Proofs.YtcehpobjnbgpdaaGreatDoor
open Go.RowKit Go.Shelf
set_option linter.unusedVariables false
set_option linter.unusedSimpArgs false
attribute [local go_sem] Oper.semAt_some

def pcells (b off t : Nat) : List Value := (List.range t).map (pcell b off)

theorem pcells_succ (b off t : Nat) : pcells b off (t + 1) = pcells b off t ++ [pcell b off t] := by simp [pcells, List.range_succ]

theorem pcells_len (b off t : Nat) : (pcells b off t).length = t := by simp [pcells]

theorem info_S : (Tryz.prog.info? 22).map (fun i => (i.zero, i.size, i.bytes)) = some (some (.slice none 0 0), 1, 24) := by kernel_rfl

/-- Behind t rounds. -/
def ColI (w : World) (b off : Nat) (t : Nat) (W : World) : Prop :=
  ∃ v, Boxed W w.heap.size 71 v ∧ W.ownsRow w.heap.size 22 1 v t (pcells b off t) ∧ Below w.heap.size w W

theorem putObj_below {w W : World} (h : Below w.heap.size w W) (l : Nat) (o : Obj) (hl : w.heap.size ≤ l) : Below w.heap.size w (W.putObj l o) :=
  h.trans ⟨rfl, rfl, rfl, by rw [World.putObj_size]; exact Nat.le_refl _, fun k hk => World.putObj_heap_other (by omega)⟩

theorem ColI.put {w W : World} {b off t l : Nat} {o : Obj} (o' : Obj) (h : ColI w b off t W) (hl : w.heap.size < l) (ho : W.heap[l]? = some o) (hc : o.isCells = false) : ColI w b off t (W.putObj l o') := by
  obtain ⟨v, h1, h2, h3⟩ := h
  exact ⟨v, (World.putObj_heap_other (by omega)).trans h1, ownsRow_putObj h2 o' ho hc, putObj_below h3 l o' (by omega)⟩

theorem ColI.alloc {w W : World} {b off t : Nat} (o : Obj) (h : ColI w b off t W) : ColI w b off t (W.alloc o) := by
  obtain ⟨v, h1, h2, h3⟩ := h
  exact ⟨v, h1.alloc o, h2.alloc o, h3.alloc h3.size o⟩

theorem ColI.drewN {w W : World} {b off t : Nat} (k : Nat) (h : ColI w b off t W) : ColI w b off t (W.drewN k) := by
  obtain ⟨v, h1, h2, h3⟩ := h
  exact ⟨v, h1, h2, ⟨h3.os, h3.tape, h3.output, h3.size, h3.block⟩⟩

set_option maxRecDepth 100000 in
set_option maxHeartbeats 4000000 in
theorem appSeq_in (m Bs Bn b off cap : Nat) (A : Option Addr) (w : World) (hm : m ≤ 500000) (hA : 0 < m → A = some ⟨b, off, none⟩) (hcap : 2 * m ≤ cap)
    (hbs : w.cell? ⟨Bs, 0, none⟩ = some (.slice A (2 * m) cap)) (hbn : w.cell? ⟨Bn, 0, none⟩ = some (.int .i64 2)) :
    CallsIn Fence.wide 9 Tryz.prog 75 #[.slice none 0 0, .func (.func 76) #[] #[.pointer (some ⟨Bs, 0, none⟩), .pointer (some ⟨Bn, 0, none⟩)]] w fun e w' =>
      ∃ v, e = .returned v ∧ w'.ownsRow w.heap.size 22 1 v m (pcells b off m) ∧ Below w.heap.size w w' := by
  obtain ⟨i0, hi, hz0, hz1, hz2⟩ := info_parts info_S
  have l1 : Bs < w.heap.size := cell_lt hbs
  have l2 : Bn < w.heap.size := cell_lt hbn
  refine callsIn_of_wp_marks Tryz.func75 rfl trivial ?_ rfl
  simp only [Tryz.ntmps75, List.size_toArray, List.length_cons, List.length_nil, Nat.reduceAdd, Nat.reduceSub, Array.replicate_succ, Array.replicate_zero, List.push_toArray, List.append_toArray, List.nil_append, List.cons_append]
  gi_wp2
  have hI0 : ColI w b off 0 (w.alloc (.cells #[.slice none 0 0] 71)) := ⟨.slice none 0 0, Boxed.new w _ _, own_nil _ _ _ _, (Below.refl _ w).alloc (Nat.le_refl _) _⟩
  have hsz : (w.alloc (.cells #[.slice none 0 0] 71)).heap.size = w.heap.size + 1 := by simp
  refine range_order_own (gf := 76) (lb := #[.pointer (some ⟨Bs, 0, none⟩), .pointer (some ⟨Bn, 0, none⟩)]) (by omega) rfl (enters_of Tryz.func76 (by kernel_rfl) rfl) m
    (fun t => #[pcell b off t]) (fun _ => rfl) (ColI w b off) (fun t W s o h hl => h.put o (by rw [hsz]; omega) hl rfl) (fun t W o h => h.alloc o) (fun t W k h => h.drewN k) hI0 ?seq
    (fun t => { tmps := #[.slice none 0 0, .func (.func 76) #[] #[.pointer (some ⟨Bs, 0, none⟩), .pointer (some ⟨Bn, 0, none⟩)], .pointer (some ⟨w.heap.size, 0, none⟩), undef, .slice none 0 0, pcell b off t, .func (.func 76) #[] #[.pointer (some ⟨Bs, 0, none⟩), .pointer (some ⟨Bn, 0, none⟩)], pcell b off t, undef, undef, undef, undef, undef], defers := [] }) ?assign ?body ?done
  case seq =>
    intro l J W hJ hJd hY h0
    refine chunk1V_any l m Bs Bn b off cap A hm hA hcap J hJd (fun t W1 h => ?_) hY W h0
    obtain ⟨v, _, _, h3⟩ := hJ t W1 h
    exact ⟨(World.cell?_of_block (h3.block Bs l1)).trans hbs, (World.cell?_of_block (h3.block Bn l2)).trans hbn⟩
  case assign =>
    intro l t W K hK
    gi_wp2
    exact hK
  case done =>
    intro D W hD hI hdf
    have hI2 := hI.put (.deferred none) (by rw [hsz] at hD; omega) hdf rfl
    obtain ⟨v, hv, hr, _⟩ := hI
    obtain ⟨A1, c1, rfl, _⟩ := own_slice hr
    have c0 := hv.cell
    obtain ⟨v2, hv2, hr2, hb2⟩ := hI2
    have hvv : v2 = .slice A1 m c1 := by
      have h1 := (World.putObj_heap_other (by rw [hsz] at hD; omega) : (W.putObj D (.deferred none)).heap[w.heap.size]? = W.heap[w.heap.size]?)
      have h2 : some _ = some _ := hv2.symm.trans (h1.trans hv)
      simp at h2
      exact h2
    subst hvv
    gi_wp2
    refine ⟨by simp, .inl ⟨_, _, rfl, run_takeDeferred hdf, ?_⟩⟩
    exact ⟨.slice A1 m c1, by simp [results, Tryz.results75, go_sem], _, rfl, hr2, hb2⟩
  case body =>
    intro l t W ht hI
    unfold pcell
    obtain ⟨v, hv, hrow, hbl⟩ := hI
    obtain ⟨A1, c1, rfl, _⟩ := own_slice hrow
    have c0 := hv.cell
    have f0 := hv.frozen
    have hbs := hbl.size
    gi_wp2_with (gi_at_builtin; refine wpListIn_append_own _ rfl (.tmp 8) (.tmp 10) 71 rfl w.heap.size 22 i0 (.slice none 0 0) 1 24 Tryz.underlying71 hi hz0 hz1 hz2 rfl (by decide) (.slice A1 t c1) t (pcells b off t) rfl (hrow.alloc _) ⟨W.heap.size, 0, none⟩ 1 1 [.slice (some ⟨b, off + 2 * t * 4, none⟩) 2 2] rfl rfl (cell_one_new _ _ _) (by simp [Value.oneCell']) (by unfold maxLen; omega) (by omega) (by simp; omega) ?_; intro v' w3 hown' hg3 hnil3; obtain ⟨a1, a2, a3, a4, a5⟩ := hv.appended (by decide) hrow hbs (Nat.le_refl _) hown' hg3; obtain ⟨g', cap', rfl⟩ := ownsRow_succ hown'; have c3 := a1.cell; have f3 := a1.frozen)
    exact ⟨a4.from _, _, a2, by rw [pcells_succ]; exact a3, hbl.trans a5⟩

theorem collect_any (m Bs Bn b off cap : Nat) (A : Option Addr) (w : World) (hm : m ≤ 500000) (hA : 0 < m → A = some ⟨b, off, none⟩) (hcap : 2 * m ≤ cap)
    (hbs : w.cell? ⟨Bs, 0, none⟩ = some (.slice A (2 * m) cap)) (hbn : w.cell? ⟨Bn, 0, none⟩ = some (.int .i64 2)) :
    Calls Tryz.prog 39 #[.func (.func 76) #[] #[.pointer (some ⟨Bs, 0, none⟩), .pointer (some ⟨Bn, 0, none⟩)]] w fun e w' =>
      ∃ v, e = .returned v ∧ w'.ownsRow w.heap.size 22 1 v m (pcells b off m) ∧ Below w.heap.size w w' := by
  have HX := keepf (callsIn_wide.1 (appSeq_in m Bs Bn b off cap A w hm hA hcap hbs hbn))
  go_enter Tryz.func39, Tryz.ntmps39
  go_wp2_with (go_at_call 75; refine HX.out.mono ?_; rintro e w2 ⟨v, rfl, hr, hb⟩; obtain ⟨A1, c1, rfl, _⟩ := own_slice hr; have HR := keepf hr; have HB := keepf hb; clear hr hb)
  go_ret
  exact ⟨_, rfl, HR.out, HB.out⟩

end Go.Proofs.YtcehpobjnbgpdaaGreatDoor

/- The program's Compare and Same. -/
namespace Go.Proofs.YtcehpobjnbgpdaaGreatDoor
open Go.RowKit
set_option linter.unusedVariables false
set_option linter.unusedSimpArgs false

theorem cmpBytes_eq (a b : ByteArray) : Lib.compareBytes a.data.toList b.data.toList = cmpS a b := by
  have h : ∀ x y : List UInt8, Lib.compareBytes x y = if Op.bytesLess x y then -1 else if x ≠ y then 1 else 0 := by
    intro x
    induction x with
    | nil =>
      intro y
      cases y with
      | nil => simp [Lib.compareBytes, Op.bytesLess]
      | cons b y => simp [Lib.compareBytes, Op.bytesLess]
    | cons a x ih =>
      intro y
      cases y with
      | nil => simp [Lib.compareBytes, Op.bytesLess]
      | cons b y =>
        rw [Lib.compareBytes, Go.Proofs.bytesLess_eq]
        by_cases h1 : a < b
        · have h2 : a :: x < b :: y := List.cons_lt_cons_iff.2 (.inl h1)
          simp [h1, h2]
        · by_cases h2 : b < a
          · have h3 : ¬ a :: x < b :: y := fun h => by
              rcases List.cons_lt_cons_iff.1 h with h | h
              · exact h1 h
              · rw [h.1] at h2; exact absurd h2 (UInt8.lt_irrefl _)
            have h4 : a ≠ b := fun h => by rw [h] at h2; exact absurd h2 (UInt8.lt_irrefl _)
            simp [h1, h2, h3, h4]
          · have h3 : a = b := UInt8.le_antisymm (UInt8.not_lt.1 h2) (UInt8.not_lt.1 h1)
            subst h3
            rw [if_neg h1, if_neg h1, ih, Go.Proofs.bytesLess_eq]
            have h5 : (a :: x < a :: y) ↔ x < y := by
              rw [List.cons_lt_cons_iff]
              constructor
              · rintro (h | h)
                · exact absurd h h1
                · exact h.2
              · exact fun h => .inr ⟨rfl, h⟩
            simp [h5]
  rw [h, cmpS, ByteArray.toList_eq, ByteArray.toList_eq]
  have h6 : (a.data.toList ≠ b.data.toList) ↔ a ≠ b := by
    constructor
    · exact fun h e => h (by rw [e])
    · exact fun h e => h (toList_inj (by rw [ByteArray.toList_eq, ByteArray.toList_eq]; exact e))
  simp only [h6]

theorem cmpInt_eq (x y : Int) : Lib.compareInt x y = cmpI x y := by
  unfold Lib.compareInt cmpI
  repeat' split
  all_goals first | rfl | omega

def or3 (x y z : Int) : Int := if x ≠ 0 then x else if y ≠ 0 then y else z

theorem cmpH_or (k n : Int) (s : ByteArray) (k' n' : Int) (s' : ByteArray) : or3 (cmpI k k') (cmpI n n') (cmpS s s') = cmpH k n s k' n' s' := by rw [cmpH_eq]; rfl

end Go.Proofs.YtcehpobjnbgpdaaGreatDoor

/- DictOf's comparison, and the library's insertion sort over a row of pairs. -/
namespace Go.Proofs.YtcehpobjnbgpdaaGreatDoor
open Go.RowKit
set_option linter.unusedVariables false
set_option linter.unusedSimpArgs false

/-- A row of pairs of the call's own, told by the pairs' numbers. -/
def PRow (w : World) (g cap b off : Nat) (d : List Nat) : Prop := w.ownsRow 0 22 1 (.slice (some ⟨g, 0, none⟩) d.length cap) d.length (d.map (pcell b off))

theorem PRow.chg {w w' : World} {g cap b off : Nat} {d : List Nat} {K : Nat → Prop} (h : PRow w g cap b off d) (hc : Chg K w w') (hk : ¬ K g) : PRow w' g cap b off d := own_chg h hc (fun i hi => by
  simp [Value.ownBlock] at hi
  subst hi
  exact hk)

theorem PRow.drewN {w : World} {g cap b off : Nat} {d : List Nat} (h : PRow w g cap b off d) (n : Nat) : PRow (w.drewN n) g cap b off d := own_drewN h n

theorem PRow.cell {w : World} {g cap b off : Nat} {d : List Nat} (h : PRow w g cap b off d) {i x : Nat} (hx : d[i]? = some x) : w.cell? ⟨g, i, none⟩ = some (pcell b off x) := by
  have hi : i < d.length := (List.getElem?_eq_some_iff.1 hx).1
  have h1 := World.ownsRow.cellAt h i (by omega)
  rw [h1]
  simp [hx]

theorem PRow.set {w : World} {g cap b off : Nat} {d : List Nat} (h : PRow w g cap b off d) (i x : Nat) : PRow (w.setCell ⟨g, i, none⟩ (pcell b off x)) g cap b off (d.set i x) := by
  have h1 := (World.ownsRow.stored h i (pcell b off x)).1
  have e : (d.map (pcell b off)).set i (pcell b off x) = (d.set i x).map (pcell b off) := by simp [List.map_set]
  rw [e] at h1
  unfold PRow
  rw [List.length_set]
  exact h1

theorem PRow.frozen {w : World} {g cap b off : Nat} {d : List Nat} (h : PRow w g cap b off d) (i : Nat) : w.frozen? ⟨g, i, none⟩ = false := World.ownsRow.frozenAt h i

theorem PRow.lt {w : World} {g cap b off : Nat} {d : List Nat} (h : PRow w g cap b off d) : g < w.heap.size := own_lt h rfl

/-- The comparison tells how two pairs' names stand. -/
def CmpP (g : Nat) (b off : Nat) (S : Nat → ByteArray) (M : Nat) (blk : Nat) (w0 : World) : Prop :=
  ∀ (x y : Nat) (W : World), x < M → y < M → Chg (fun i => i = blk) w0 W → Calls Tryz.prog g #[pcell b off x, pcell b off y] W fun e w' => e = .returned (.int .i64 (cmpS (S x) (S y))) ∧ ∃ m, w' = W.drewN m

/-- One is put behind all that are not greater; the row is told from its end. -/
def insR (S : Nat → ByteArray) (x : Nat) : List Nat → List Nat
  | [] => [x]
  | p :: R => if Op.bytesLess (S x).toList (S p).toList then p :: insR S x R else x :: p :: R

def sortR (S : Nat → ByteArray) (d : List Nat) : List Nat := d.foldl (fun R x => insR S x R) []

theorem insR_len (S : Nat → ByteArray) (x : Nat) : ∀ R : List Nat, (insR S x R).length = R.length + 1
  | [] => rfl
  | p :: R => by
    rw [insR]
    split
    · rw [List.length_cons, insR_len S x R, List.length_cons]
    · rfl

theorem sortR_snoc (S : Nat → ByteArray) (d : List Nat) (x : Nat) : sortR S (d ++ [x]) = insR S x (sortR S d) := by simp [sortR]

theorem sortR_len (S : Nat → ByteArray) (d : List Nat) : (sortR S d).length = d.length := by
  have h : ∀ (d R : List Nat), (d.foldl (fun R x => insR S x R) R).length = R.length + d.length := by
    intro d
    induction d with
    | nil => intro R; rfl
    | cons x d ih => intro R; rw [List.foldl_cons, ih, insR_len, List.length_cons]; omega
  have := h d []
  simpa [sortR] using this

theorem insR_mem {S : Nat → ByteArray} {x y : Nat} : ∀ {R : List Nat}, y ∈ insR S x R → y = x ∨ y ∈ R
  | [], h => by simp [insR] at h; exact .inl h
  | p :: R, h => by
    rw [insR] at h
    split at h
    · rcases List.mem_cons.1 h with h | h
      · exact .inr (List.mem_cons.2 (.inl h))
      · rcases insR_mem h with h | h
        · exact .inl h
        · exact .inr (List.mem_cons.2 (.inr h))
    · rcases List.mem_cons.1 h with h | h
      · exact .inl h
      · exact .inr h

theorem sortR_mem {S : Nat → ByteArray} {y : Nat} {d : List Nat} (h : y ∈ sortR S d) : y ∈ d := by
  have k : ∀ (d R : List Nat), y ∈ d.foldl (fun R x => insR S x R) R → y ∈ R ∨ y ∈ d := by
    intro d
    induction d with
    | nil => intro R h; exact .inl h
    | cons x d ih =>
      intro R h
      rw [List.foldl_cons] at h
      rcases ih _ h with h | h
      · rcases insR_mem h with h | h
        · exact .inr (List.mem_cons.2 (.inl h))
        · exact .inl h
      · exact .inr (List.mem_cons.2 (.inr h))
  rcases k d [] h with h | h
  · cases h
  · exact h

/-- The row while one is on its way: T lies ahead of it (told from its end), U behind it. -/
structure Way (S : Nat → ByteArray) (x : Nat) (P rest : List Nat) (d2 : List Nat) (j : Nat) (U T : List Nat) : Prop where
  jl : j = T.length
  parts : U ++ T = P
  row : d2 = T.reverse ++ x :: (U.reverse ++ rest)
  ins : insR S x P = U ++ insR S x T

theorem Way.start (S : Nat → ByteArray) (x : Nat) (P rest : List Nat) : Way S x P rest (P.reverse ++ x :: rest) P.length [] P := ⟨rfl, rfl, rfl, rfl⟩

theorem Way.at_ {S : Nat → ByteArray} {x p : Nat} {P rest d2 U T : List Nat} {j : Nat} (h : Way S x P rest d2 (j + 1) U (p :: T)) : d2[j + 1]? = some x ∧ d2[j]? = some p ∧ T.length = j := by
  have hj := h.jl
  rw [List.length_cons] at hj
  have e : d2 = T.reverse ++ p :: x :: (U.reverse ++ rest) := by rw [h.row]; simp
  refine ⟨?_, ?_, by omega⟩
  · rw [e, List.getElem?_append_right (by simp; omega)]
    simp only [List.length_reverse]
    rw [show j + 1 - T.length = 1 by omega]
    rfl
  · rw [e, List.getElem?_append_right (by simp; omega)]
    simp only [List.length_reverse]
    rw [show j - T.length = 0 by omega]
    rfl

theorem Way.step {S : Nat → ByteArray} {x p : Nat} {P rest d2 U T : List Nat} {j : Nat} (h : Way S x P rest d2 (j + 1) U (p :: T)) (hl : Op.bytesLess (S x).toList (S p).toList = true) : Way S x P rest ((d2.set (j + 1) p).set j x) j (U ++ [p]) T := by
  have hj := h.jl
  rw [List.length_cons] at hj
  have e : d2 = T.reverse ++ p :: x :: (U.reverse ++ rest) := by rw [h.row]; simp
  refine ⟨by omega, by rw [← h.parts]; simp, ?_, ?_⟩
  · rw [e]
    have h1 : j = T.reverse.length := by simp; omega
    rw [h1, List.set_append_right _ _ (by omega), show T.reverse.length + 1 - T.reverse.length = 1 by omega, List.set_append_right _ _ (Nat.le_refl _), Nat.sub_self]
    simp
  · rw [h.ins, insR, if_pos hl]
    simp

theorem Way.stop {S : Nat → ByteArray} {x : Nat} {P rest d2 U T : List Nat} {j : Nat} (h : Way S x P rest d2 j U T) (hs : T = [] ∨ ∃ p T', T = p :: T' ∧ Op.bytesLess (S x).toList (S p).toList = false) : d2 = (insR S x P).reverse ++ rest := by
  have hi : insR S x T = x :: T := by
    rcases hs with rfl | ⟨p, T', rfl, hl⟩
    · rfl
    · rw [insR, if_neg (by rw [hl]; decide)]
  rw [h.row, h.ins, hi]
  simp

set_option maxHeartbeats 2000000 in
theorem dcmp_any (b off g M : Nat) (S : Nat → ByteArray) (w0 : World) (hS : ∀ x, x < M → w0.cell? ⟨b, off + 2 * x * 4 + 2, none⟩ = some (.string (S x))) (hne : b ≠ g) : CmpP 42 b off S M g w0 := by
  intro x y W hx hy hc
  have c0 := hS x hx
  have c1 := hS y hy
  have d0 := (hc.cell (p := ⟨b, off + 2 * x * 4 + 2, none⟩) (by exact cell_lt c0) hne).trans c0
  have d1 := (hc.cell (p := ⟨b, off + 2 * y * 4 + 2, none⟩) (by exact cell_lt c1) hne).trans c1
  have HS := keepf (fun (W : World) => (Go.Proofs.Tryz.strings_Compare (S x) (S y) W).mono (fun e w' h => (⟨h.1.trans (ret_v64 (cmpBytes_eq _ _)), h.2⟩ : e = .returned (.int .i64 (cmpS (S x) (S y))) ∧ w' = W)))
  obtain ⟨z, hz⟩ : ∃ z, z = cmpS (S x) (S y) := ⟨_, rfl⟩
  rw [← hz] at HS ⊢
  clear hz c0 c1 hS hc
  unfold pcell
  go_enter Tryz.func42, Tryz.ntmps42
  go_upto_region 1 with fail
  go_quiet ((go_at_call 43; refine (HS.out _).mono ?_; rintro e w2 ⟨rfl, rfl⟩; exact ⟨rfl, _, rfl⟩))
  go_wp2_with fail
  go_ret
  exact ⟨rfl, nq, rfl⟩

end Go.Proofs.YtcehpobjnbgpdaaGreatDoor

/- The library's insertion sort over a row of pairs. -/
namespace Go.Proofs.YtcehpobjnbgpdaaGreatDoor
open Go.RowKit
set_option linter.unusedVariables false
set_option linter.unusedSimpArgs false

/-- A contract that leaves the world alone but for draws, inside a region that draws. -/
theorem quiet_draw {P : Program} {f : FuncId} {args : Array Value} {w : World} {n : Nat} {v : Value}
    (h : Calls P f args (w.drewN n) fun e w' => e = .returned v ∧ ∃ m, w' = (w.drewN n).drewN m) : Calls P f args (w.drewN n) fun e w' => e = .returned v ∧ ∃ m, w' = w.drewN m :=
  h.mono fun e w' k => ⟨k.1, by obtain ⟨m, hm⟩ := k.2; exact ⟨n + m, by rw [hm, World.drewN_drewN]⟩⟩

theorem cmpS_neg (a b : ByteArray) : decide (cmpS a b < 0) = Op.bytesLess a.toList b.toList := by
  cases h : Op.bytesLess a.toList b.toList with
  | true => rw [show cmpS a b = -1 from by unfold cmpS; rw [if_pos h]]; rfl
  | false =>
    have h2 : ¬ cmpS a b < 0 := by
      unfold cmpS
      rw [if_neg (by rw [h]; decide)]
      split <;> decide
    simpa using h2

set_option maxHeartbeats 4000000 in
set_option maxRecDepth 100000 in
theorem insP_any (g b off M gs cap : Nat) (S : Nat → ByteArray) (w0 : World) (eg : ∀ args w, (callFunc g args).run Tryz.prog w = .ok (.enter g args) w) (hcmp : CmpP g b off S M gs w0)
    (d : List Nat) (w : World) (hL : d.length ≤ 1000) (hM : ∀ x ∈ d, x < M) (hR : PRow w gs cap b off d) (hch : Chg (fun i => i = gs) w0 w) :
    Calls Tryz.prog 114 #[.slice (some ⟨gs, 0, none⟩) d.length cap, .int .i64 0, .int .i64 d.length, .func (.func g) #[] #[]] w fun e w' => e = .returned (.tuple #[]) ∧ PRow w' gs cap b off (sortR S d).reverse ∧ Chg (fun i => i = gs) w w' := by
  have HR := keepf hR
  have HCH := keepf hch
  have HM := keepf hM
  have HCMP := keepf hcmp
  clear hR hch hM hcmp
  obtain ⟨N, hN⟩ : ∃ N, N = d.length := ⟨_, rfl⟩
  have HN := keepf hN
  rw [← hN] at hL ⊢
  clear hN
  go_enter Tryz.func114, Tryz.ntmps114
  go_wp2_with fail
  go_loopw [8] (fun v wr => ∃ i : Nat, 1 ≤ i ∧ i ≤ N + 1 ∧ v = .int .i64 i ∧ Hid (PRow wr gs cap b off ((sortR S (d.take i)).reverse ++ d.drop i)) ∧ Hid (Chg (fun i => i = gs) w wr)) (fun v _ => N + 1 - (intOf v).toNat)
  case atStart =>
    refine ⟨1, by omega, by omega, by go_num, ?_, Chg.refl _ _⟩
    show PRow _ _ _ _ _ _
    have e : (sortR S (d.take 1)).reverse ++ d.drop 1 = d := by
      cases d with
      | nil => rfl
      | cons x d => rfl
    rw [e]
    exact HR.out
  case round =>
    obtain ⟨i, hi1, hi2, rfl, HRw, HCw⟩ := hrel
    by_cases hlt : i < N
    · obtain ⟨x, hx⟩ : ∃ x, d[i]? = some x := ⟨_, List.getElem?_eq_getElem (by have := HN.out; omega)⟩
      have HX := keepf hx
      have HXM := keepf (HM.out x (List.mem_of_getElem? hx))
      have hdr : d.drop i = x :: d.drop (i + 1) := by
        have h1 : i < d.length := (List.getElem?_eq_some_iff.1 hx).1
        rw [List.drop_eq_getElem_cons h1]
        congr 1
        rw [List.getElem?_eq_getElem h1] at hx
        exact Option.some.inj hx
      have htk : d.take (i + 1) = d.take i ++ [x] := by rw [List.take_add_one, hx]; rfl
      have HP : Hid (∀ p ∈ sortR S (d.take i), p < M) := fun p hp => HM.out p (List.mem_of_mem_take (sortR_mem hp))
      have hPl : (sortR S (d.take i)).length = i := by rw [sortR_len, List.length_take]; have := HN.out; omega
      have hst := Way.start S x (sortR S (d.take i)) (d.drop (i + 1))
      rw [hPl, ← hdr] at hst
      have HST := keepf hst
      have HFIN : Hid (∀ L, L = (insR S x (sortR S (d.take i))).reverse ++ d.drop (i + 1) → L = (sortR S (d.take (i + 1))).reverse ++ d.drop (i + 1)) := fun L h => by rw [h, htk, sortR_snoc]
      obtain ⟨PP, hPP⟩ : ∃ PP, PP = sortR S (d.take i) := ⟨_, rfl⟩
      rw [← hPP] at HST HP HFIN
      have HRw2 := keepf (show PRow wr gs cap b off (PP.reverse ++ d.drop i) from by rw [hPP]; exact HRw.out)
      clear hx hdr htk hPl hst hPP HRw
      go_wp2_with fail
      go_loopw [9] (fun v wr2 => ∃ (j : Nat) (d2 U T : List Nat), j ≤ i ∧ v = .int .i64 j ∧ Hid (Way S x PP (d.drop (i + 1)) d2 j U T) ∧ Hid (PRow wr2 gs cap b off d2 ∧ d2.length = N) ∧ Hid (Chg (fun i => i = gs) w wr2)) (fun v _ => (intOf v).toNat)
      case atStart =>
        refine ⟨i, _, [], PP, Nat.le_refl _, rfl, HST, ⟨HRw2.out, ?_⟩, HCw⟩
        have h1 := HST.out.jl
        have h2 := HN.out
        rw [List.length_append, List.length_reverse, List.length_drop]
        omega
      case round =>
        obtain ⟨j, d2, U, T, hj2, rfl, HW, HR2, HC2⟩ := hrel
        cases T with
        | nil =>
          obtain rfl : j = 0 := HW.out.jl
          have HE := keepf (HFIN.out _ (HW.out.stop (.inl rfl)))
          have dd : decide ((0 : Int) < 0) = false := by decide
          go_upto_region 4 with fail
          go_quiet (fail)
          go_wp2_with fail
          go_roundw
          case rel => exact ⟨i + 1, by omega, by omega, by go_num, by show PRow _ _ _ _ _ _; rw [← HE.out]; exact HR2.out.1.drewN nq, HC2.out.drewN nq⟩
          case measure => simp [intOf]; omega
        | cons p T =>
          obtain ⟨j', rfl⟩ : ∃ j', j = j' + 1 := ⟨T.length, by have := HW.out.jl; rw [List.length_cons] at this; exact this⟩
          obtain ⟨h1, h2, h3⟩ := HW.out.at_
          have HPM := keepf (HP.out p (by rw [← HW.out.parts]; simp))
          have k1 := HR2.out.1.cell h1
          have k2 := HR2.out.1.cell h2
          have hl2 := HR2.out.2
          obtain ⟨j, hj⟩ : ∃ j, j = j' + 1 := ⟨_, rfl⟩
          rw [← hj] at k1 hj2 ⊢
          have e1 : ((j : Int) - 1) = (j' : Int) := by omega
          have b1 : (j : Int) < N := by omega
          have b2 : (j' : Int) < N := by omega
          have b3 : (0 : Int) ≤ (j : Int) := by omega
          have hja : decide ((0 : Int) < (j : Int)) = true := by simp; omega
          have hja' : decide (0 < j) = true := by simp; omega
          have hcl := keepf (fun n => quiet_draw (n := n) (HCMP.out x p (wr.drewN n) HXM.out HPM.out ((HCH.out.trans HC2.out (fun _ _ h => h)).drewN n)))
          obtain ⟨cv, hcv⟩ : ∃ cv, cv = cmpS (S x) (S p) := ⟨_, rfl⟩
          have hcd : decide (cv < 0) = Op.bytesLess (S x).toList (S p).toList := by rw [hcv, cmpS_neg]
          rw [← hcv] at hcl
          unfold pcell at k1 k2 hcl
          have HJ := keepf hj
          clear hcv hj h1 h2 h3
          cases hb : Op.bytesLess (S x).toList (S p).toList with
          | true =>
            have hd : decide (cv < 0) = true := by rw [hcd, hb]
            have HSW := keepf (HW.out.step hb)
            clear hcd hb
            go_upto_region 4 with fail
            go_quiet ((go_at_fn g; exact hcl.out _))
            go_upto_region 6 with fail
            have hR3 := HR2.out.1.drewN nq
            have hC3 := HC2.out.drewN nq
            have k1' : (wr.drewN nq).cell? ⟨gs, j, none⟩ = some (.slice (some ⟨b, off + 2 * x * 4, none⟩) 2 2) := k1
            have k2' : (wr.drewN nq).cell? ⟨gs, j', none⟩ = some (.slice (some ⟨b, off + 2 * p * 4, none⟩) 2 2) := k2
            have f1' := hR3.frozen j
            have f2' := hR3.frozen j'
            clear k1 k2 hcl
            generalize wr.drewN nq = wq at *
            have HR3 := keepf hR3
            have HC3 := keepf hC3
            clear hR3 hC3
            go_region
            go_wp2_with fail
            go_roundw
            case rel =>
              have hsw := (HR3.out.set j p).set j' x
              refine ⟨j', _, U ++ [p], T, by omega, by go_num, HSW.out, ⟨?_, by rw [List.length_set, List.length_set]; exact hl2⟩, ?_⟩
              · have := HJ.out
                subst this
                exact hsw.drewN 1
              · exact ((HC3.out.setCell (p := ⟨gs, j, none⟩) (fun _ => rfl) _).setCell (p := ⟨gs, j', none⟩) (fun _ => rfl) _).drew
            case measure => simp [intOf]; have := HJ.out; omega
          | false =>
            have hd : decide (cv < 0) = false := by rw [hcd, hb]
            have HE := keepf (HFIN.out _ (HW.out.stop (.inr ⟨p, T, rfl, hb⟩)))
            clear hcd hb
            go_upto_region 4 with fail
            go_quiet ((go_at_fn g; exact hcl.out _))
            go_wp2_with fail
            go_roundw
            case rel => exact ⟨i + 1, by omega, by omega, by go_num, by show PRow _ _ _ _ _ _; rw [← HE.out]; exact HR2.out.1.drewN nq, HC2.out.drewN nq⟩
            case measure => simp [intOf]; omega
    · have he : (sortR S (d.take i)).reverse ++ d.drop i = (sortR S d).reverse := by
        rw [List.take_of_length_le (by have := HN.out; omega), List.drop_of_length_le (by have := HN.out; omega), List.append_nil]
      have HE := keepf he
      clear he
      go_wp2_with fail
      go_end0
      exact ⟨rfl, by rw [← HE.out]; exact HRw.out, HCw.out⟩

end Go.Proofs.YtcehpobjnbgpdaaGreatDoor

/- The library's stable sort over a row of at most 20 pairs. -/
namespace Go.Proofs.YtcehpobjnbgpdaaGreatDoor
open Go.RowKit
set_option linter.unusedVariables false
set_option linter.unusedSimpArgs false

theorem insP_none (V f : Value) (a : Nat) (ha : a ≤ 100) (w : World) : Calls Tryz.prog 114 #[V, .int .i64 a, .int .i64 a, f] w fun e w' => e = .returned (.tuple #[]) ∧ w' = w := by
  go_enter Tryz.func114, Tryz.ntmps114
  go_wp2_with fail
  go_loopw [8] (fun v wr => v = .int .i64 ((a + 1 : Nat) : Int) ∧ wr = w) (fun _ _ => 0)
  case atStart => exact ⟨by go_num, rfl⟩
  case round =>
    obtain ⟨rfl, rfl⟩ := hrel
    have d1 : decide (((a + 1 : Nat) : Int) < (a : Int)) = false := by simp; omega
    have d2 : decide (a + 1 < a) = false := by simp
    go_wp2_with fail
    go_end0
    exact ⟨rfl, rfl⟩

set_option maxHeartbeats 4000000 in
set_option maxRecDepth 100000 in
theorem stableP_any (g b off M gs cap : Nat) (S : Nat → ByteArray) (w0 : World) (eg : ∀ args w, (callFunc g args).run Tryz.prog w = .ok (.enter g args) w) (hcmp : CmpP g b off S M gs w0)
    (d : List Nat) (w : World) (hL : d.length ≤ 20) (hM : ∀ x ∈ d, x < M) (hR : PRow w gs cap b off d) (hch : Chg (fun i => i = gs) w0 w) :
    Calls Tryz.prog 77 #[.slice (some ⟨gs, 0, none⟩) d.length cap, .int .i64 d.length, .func (.func g) #[] #[]] w fun e w' => e = .returned (.tuple #[]) ∧ PRow w' gs cap b off (sortR S d).reverse ∧ Chg (fun i => i = gs) w w' := by
  have HI := keepf (insP_any g b off M gs cap S w0 eg hcmp d w (by omega) hM hR hch)
  obtain ⟨N, hN⟩ : ∃ N, N = d.length := ⟨_, rfl⟩
  rw [← hN] at HI hL ⊢
  have HE := keepf (fun (W : World) => insP_none (.slice (some ⟨gs, 0, none⟩) N cap) (.func (.func g) #[] #[]) N (by omega) W)
  clear hN hR hch hM hcmp
  by_cases h20 : N = 20
  · have HI2 : Hid (Calls Tryz.prog 114 #[.slice (some ⟨gs, 0, none⟩) N cap, .int .i64 0, .int .i64 20, .func (.func g) #[] #[]] w fun e w' => e = .returned (.tuple #[]) ∧ PRow w' gs cap b off (sortR S d).reverse ∧ Chg (fun i => i = gs) w w') := by
      subst h20
      exact HI.out
    have HE2 : Hid (∀ W : World, Calls Tryz.prog 114 #[.slice (some ⟨gs, 0, none⟩) N cap, .int .i64 20, .int .i64 (N : Nat), .func (.func g) #[] #[]] W fun e w' => e = .returned (.tuple #[]) ∧ w' = W) := by
      subst h20
      exact fun W => insP_none _ _ 20 (by omega) W
    have d1 : decide ((20 : Int) ≤ (N : Int)) = true := by simp; omega
    have d1' : decide (20 ≤ N) = true := by simp; omega
    have d2 : decide ((40 : Int) ≤ (N : Int)) = false := by simp; omega
    have d2' : decide (40 ≤ N) = false := by simp; omega
    have d3 : decide ((20 : Int) < (N : Int)) = false := by simp; omega
    have d3' : decide (20 < N) = false := by simp; omega
    clear h20 HI HE
    go_enter Tryz.func77, Tryz.ntmps77
    go_upto_region 2 with fail
    go_loopw [7, 8] (fun va vb wr => (va = .int .i64 0 ∧ vb = .int .i64 20 ∧ wr = w) ∨ (va = .int .i64 20 ∧ vb = .int .i64 40 ∧ Hid (PRow wr gs cap b off (sortR S d).reverse ∧ Chg (fun i => i = gs) w wr))) (fun _ vb _ => (41 - intOf vb).toNat)
    case atStart => exact .inl ⟨rfl, rfl, rfl⟩
    case round =>
      rcases hrel with ⟨rfl, rfl, rfl⟩ | ⟨rfl, rfl, HQ⟩
      · go_wp2_with (go_at_call 114; refine HI2.out.mono ?_; rintro e w2 ⟨rfl, h1, h2⟩; have HQ := keepf (And.intro h1 h2); clear h1 h2)
        go_roundw
        case rel => exact .inr ⟨rfl, by go_num, HQ⟩
        case measure => simp [intOf]
      · go_upto_region 7 with (go_at_call 114; refine (HE2.out _).mono ?_; rintro e w2 ⟨rfl, rfl⟩)
        go_loopw [6] (fun v wx => v = .int .i64 20 ∧ wx = w2) (fun _ _ => 0)
        case atStart => exact ⟨rfl, rfl⟩
        case round =>
          obtain ⟨rfl, rfl⟩ := hrel
          go_wp2_with fail
          go_end0
          exact ⟨rfl, HQ.out.1, HQ.out.2⟩
  · have hlt : N < 20 := by omega
    have d1 : decide ((20 : Int) ≤ (N : Int)) = false := by simp; omega
    have d1' : decide (20 ≤ N) = false := by simp; omega
    have d2 : decide ((20 : Int) < (N : Int)) = false := by simp; omega
    have d2' : decide (20 < N) = false := by simp; omega
    go_enter Tryz.func77, Tryz.ntmps77
    go_upto_region 2 with fail
    go_loopw [7, 8] (fun va vb wr => va = .int .i64 0 ∧ vb = .int .i64 20 ∧ wr = w) (fun _ _ _ => 0)
    case atStart => exact ⟨rfl, rfl, rfl⟩
    case round =>
      obtain ⟨rfl, rfl, rfl⟩ := hrel
      go_upto_region 7 with (go_at_call 114; refine HI.out.mono ?_; rintro e w2 ⟨rfl, h1, h2⟩; have HQ := keepf (And.intro h1 h2); clear h1 h2)
      go_loopw [6] (fun v wx => v = .int .i64 20 ∧ wx = w2) (fun _ _ => 0)
      case atStart => exact ⟨rfl, rfl⟩
      case round =>
        obtain ⟨rfl, rfl⟩ := hrel
        go_wp2_with fail
        go_end0
        exact ⟨rfl, HQ.out.1, HQ.out.2⟩

set_option maxHeartbeats 2000000 in
theorem stableP_none (V f : Value) (w : World) : Calls Tryz.prog 77 #[V, .int .i64 0, f] w fun e w' => e = .returned (.tuple #[]) ∧ w' = w := by
  have HE := keepf (fun (W : World) => insP_none V f 0 (by omega) W)
  go_enter Tryz.func77, Tryz.ntmps77
  go_upto_region 2 with fail
  go_loopw [7, 8] (fun va vb wr => va = .int .i64 0 ∧ vb = .int .i64 20 ∧ wr = w) (fun _ _ _ => 0)
  case atStart => exact ⟨rfl, rfl, rfl⟩
  case round =>
    obtain ⟨rfl, rfl, rfl⟩ := hrel
    go_upto_region 7 with (go_at_call 114; refine (HE.out _).mono ?_; rintro e w2 ⟨rfl, rfl⟩)
    go_loopw [6] (fun v wx => v = .int .i64 20 ∧ wx = w2) (fun _ _ => 0)
    case atStart => exact ⟨rfl, rfl⟩
    case round =>
      obtain ⟨rfl, rfl⟩ := hrel
      go_wp2_with fail
      go_end0
      exact ⟨rfl, rfl⟩

theorem sortP_any (g b off M gs cap : Nat) (S : Nat → ByteArray) (w0 : World) (eg : ∀ args w, (callFunc g args).run Tryz.prog w = .ok (.enter g args) w) (hcmp : CmpP g b off S M gs w0)
    (d : List Nat) (w : World) (hL : d.length ≤ 20) (hM : ∀ x ∈ d, x < M) (hR : PRow w gs cap b off d) (hch : Chg (fun i => i = gs) w0 w) :
    Calls Tryz.prog 41 #[.slice (some ⟨gs, 0, none⟩) d.length cap, .func (.func g) #[] #[]] w fun e w' => e = .returned (.tuple #[]) ∧ PRow w' gs cap b off (sortR S d).reverse ∧ Chg (fun i => i = gs) w w' := by
  have HI := keepf (stableP_any g b off M gs cap S w0 eg hcmp d w hL hM hR hch)
  obtain ⟨N, hN⟩ : ∃ N, N = d.length := ⟨_, rfl⟩
  rw [← hN] at HI ⊢
  clear hN hR hch hM hcmp
  go_enter Tryz.func41, Tryz.ntmps41
  go_wp2_with (go_at_call 77; refine HI.out.mono ?_; rintro e w2 ⟨rfl, h1, h2⟩; have HQ := keepf (And.intro h1 h2); clear h1 h2)
  go_end0
  exact ⟨rfl, HQ.out.1, HQ.out.2⟩

theorem sortP_none (A : Option Addr) (c : Nat) (f : Value) (w : World) : Calls Tryz.prog 41 #[.slice A 0 c, f] w fun e w' => e = .returned (.tuple #[]) ∧ w' = w := by
  have HI := keepf (fun W => stableP_none (.slice A 0 c) f W)
  go_enter Tryz.func41, Tryz.ntmps41
  go_wp2_with (go_at_call 77; refine (HI.out _).mono ?_; rintro e w2 ⟨rfl, rfl⟩)
  go_end0
  exact ⟨rfl, rfl⟩

end Go.Proofs.YtcehpobjnbgpdaaGreatDoor

/- A region that draws its order, whose last operation (a store) waits for all others: what is held need not be held behind it. -/
namespace Go.Proofs.YtcehpobjnbgpdaaGreatDoor
open Go.RowKit
set_option linter.unusedVariables false
set_option linter.unusedSimpArgs false
variable {P : Program} {ops : Array Oper} {Q : Exit → Act → World → Prop} {md : Region.Mode} {S : World → Prop} {z : Nat}

/-- Whatever comes up next: behind it S holds, but for the operation z. -/
def anyZ (P : Program) (md : Region.Mode) (ops : Array Oper) (Q : Exit → Act → World → Prop) (S : World → Prop) (z : Nat) : Nat → Array Bool → Act → World → Prop
  | 0, li, a, w => Region.ready md ops li = [] ∧ Q .normal a w
  | n + 1, li, a, w => (Region.ready md ops li = [] → Q .normal a w) ∧ ∀ i ∈ Region.ready md ops li, wpOp P ops Q i (fun b u => (i ≠ z → S u) ∧ anyZ P md ops Q S z n (li.setIfInBounds i true) b u) a w

theorem any_of_Z : ∀ (n : Nat) (li : Array Bool) (a : Act) (w : World), anyZ P md ops Q S z n li a w → wpAny P md ops Q n li a w
  | 0, _, _, _, h => h
  | n + 1, _, _, _, h => ⟨h.1, fun i hi => wpOp_mono (fun b u k => any_of_Z n _ b u k.2) (h.2 i hi)⟩

theorem ready_un {i : Nat} {li : Array Bool} (h : i ∈ Region.ready md ops li) : li.getD i false = false := by
  have h0 := (mem_ready.1 h).1
  rcases Nat.lt_or_ge i li.size with h1 | h1
  · simpa [h1] using h0
  · simp [Array.getElem?_eq_none h1] at h0

theorem firstZ {i : Nat} {oi : Oper} {v : Value} (hi : ops[i]? = some oi) (hs : Region.noSelect ops = true) (hz : Region.waitsFor md ops z i = true) (hQ : ∀ c a w, Q (.panic c) (a.put oi.dst v) w → Q (.panic c) a w) :
    ∀ (n : Nat) (li : Array Bool) (a : Act) (w : World), (∀ j oj, ops[j]? = some oj → j ≠ i → li.getD j true = false → (∀ e ∈ oj.after, Region.binds md e = true → e.on ≠ i) → oi.apart ops oj = true) →
      i ∈ Region.ready md ops li → YieldsIf P ops S oi v a → S w → anyZ P md ops Q S z n (li.setIfInBounds i true) (a.put oi.dst v) w → anyZ P md ops Q S z (n + 1) li a w := by
  intro n
  induction n with
  | zero =>
    intro li a w _ hr hy hS H
    refine ⟨fun h => (by rw [h] at hr; cases hr), fun j hj => ?_⟩
    rcases Nat.decEq j i with hne | rfl
    · have h1 := ready_mono hj hne
      rw [H.1] at h1
      cases h1
    · exact hy.wpOp hi hS ⟨fun _ => hS, H⟩
  | succ n ih =>
    intro li a w hap hr hy hS H
    refine ⟨fun h => (by rw [h] at hr; cases hr), fun j hj => ?_⟩
    rcases Nat.decEq j i with hne | rfl
    · have hun := ready_un hr
      have waits : ∀ k ok, k ∈ Region.ready md ops li → ops[k]? = some ok → ∀ e ∈ ok.after, Region.binds md e = true → e.on ≠ i := by
        intro k ok hk hok e he hb heq
        obtain ⟨_, o', ho', hall⟩ := mem_ready.1 hk
        rw [hok] at ho'
        cases ho'
        have h2 := hall e he hb
        rw [heq, hun] at h2
        cases h2
      have hjz : j ≠ z := by
        rintro rfl
        obtain ⟨oz, hoz, e, he, hb, heq⟩ := Region.waitsFor_spec hz
        exact waits j oz hj hoz e he hb heq
      obtain ⟨hju, oj, hoj, _⟩ := mem_ready.1 hj
      have h3 := wpOp_putIf hoj (hap j oj hoj hne hju (waits j oj hj hoj)) (fun cs b => Region.noSelect_spec hs i oi cs b hi) (fun cs b => Region.noSelect_spec hs j oj cs b hoj) hQ hy (H.2 j (ready_mono hj hne))
      refine wpOp_mono (fun b u k => ⟨k.2.1, ih (li.setIfInBounds j true) b u (fun q oq hq hqi hqu hno => hap q oq hq hqi ?_ hno) (ready_mono hr (Ne.symm hne)) k.1 (k.2.1 hjz) ?_⟩) h3
      · rcases Nat.decEq j q with hjq | rfl
        · rwa [getD_set_ne true hjq] at hqu
        · exact hju
      · rw [Array.setIfInBounds_comm _ _ hne]
        exact k.2.2
    · exact hy.wpOp hi hS ⟨fun _ => hS, H⟩

/-- Number i is taken first. -/
theorem takeZ {i : Nat} {oi : Oper} {v : Value} {n : Nat} {li : Array Bool} {a : Act} {w : World} (hi : ops[i]? = some oi) (hs : Region.noSelect ops = true) (hz : Region.waitsFor md ops z i = true) (hf : Region.free md ops li i = true) (hr : (Region.ready md ops li).contains i = true)
    (hQ : ∀ c a w, Q (.panic c) (a.put oi.dst v) w → Q (.panic c) a w) (hy : YieldsIf P ops S oi v a) (hS : S w) (h : anyZ P md ops Q S z n (li.setIfInBounds i true) (a.put oi.dst v) w) : anyZ P md ops Q S z (n + 1) li a w :=
  firstZ hi hs hz hQ n li a w (Region.free_spec hi hf) (by simpa using hr) hy hS h

/-- One alone may come up. -/
theorem oneZ {i n : Nat} {o : Oper} {li : Array Bool} {a : Act} {w : World} (hr : Region.ready md ops li = [i]) (ho : ops[i]? = some o) (hne : i ≠ z)
    (h : ∀ K : Act → World → Prop, Hid (∀ a w, S w → (S w → anyZ P md ops Q S z n (li.setIfInBounds i true) a w) → K a w) → if Region.wanted o (yielded ops a.tmps) = true then Oper.wp P o a w K Q else K (a.put o.dst undef) w) : anyZ P md ops Q S z (n + 1) li a w := by
  refine ⟨fun h0 => (by rw [hr] at h0; cases h0), fun j hj => ?_⟩
  rw [hr] at hj
  obtain rfl := List.mem_singleton.1 hj
  exact wpOp_step ho (fun K hK => h K (fun a w hS hW => hK a w ⟨fun _ => hS, hW hS⟩))

/-- Either of two may come up. -/
theorem twoZ {i j n : Nat} {o o' : Oper} {li : Array Bool} {a : Act} {w : World} (hr : Region.ready md ops li = [i, j]) (ho : ops[i]? = some o) (ho' : ops[j]? = some o') (hne : i ≠ z) (hne' : j ≠ z)
    (h : ∀ K : Act → World → Prop, Hid (∀ a w, S w → (S w → anyZ P md ops Q S z n (li.setIfInBounds i true) a w) → K a w) → if Region.wanted o (yielded ops a.tmps) = true then Oper.wp P o a w K Q else K (a.put o.dst undef) w)
    (h' : ∀ K : Act → World → Prop, Hid (∀ a w, S w → (S w → anyZ P md ops Q S z n (li.setIfInBounds j true) a w) → K a w) → if Region.wanted o' (yielded ops a.tmps) = true then Oper.wp P o' a w K Q else K (a.put o'.dst undef) w) : anyZ P md ops Q S z (n + 1) li a w := by
  refine ⟨fun h0 => (by rw [hr] at h0; cases h0), fun k hk => ?_⟩
  rw [hr] at hk
  simp only [List.mem_cons, List.not_mem_nil, or_false] at hk
  rcases hk with rfl | rfl
  · exact wpOp_step ho (fun K hK => h K (fun a w hS hW => hK a w ⟨fun _ => hS, hW hS⟩))
  · exact wpOp_step ho' (fun K hK => h' K (fun a w hS hW => hK a w ⟨fun _ => hS, hW hS⟩))

/-- The last one, z: S is not asked. -/
theorem lastZ {n : Nat} {o : Oper} {li : Array Bool} {a : Act} {w : World} (hr : Region.ready md ops li = [z]) (ho : ops[z]? = some o) (hr2 : Region.ready md ops (li.setIfInBounds z true) = [])
    (h : ∀ K : Act → World → Prop, Hid (∀ a w, Q .normal a w → K a w) → if Region.wanted o (yielded ops a.tmps) = true then Oper.wp P o a w K Q else K (a.put o.dst undef) w) : anyZ P md ops Q S z (n + 1) li a w := by
  refine ⟨fun h0 => (by rw [hr] at h0; cases h0), fun j hj => ?_⟩
  rw [hr] at hj
  obtain rfl := List.mem_singleton.1 hj
  refine wpOp_step ho (fun K hK => h K (fun a w hq => hK a w ⟨fun h => absurd rfl h, ?_⟩))
  cases n with
  | zero => exact ⟨hr2, hq⟩
  | succ n => exact ⟨fun _ => hq, fun i hi => (by rw [hr2] at hi; cases hi)⟩

theorem startZ {id : Nat} {a : Act} {w : World} (S : World → Prop) (z : Nat) (hm : P.follows .mixedOrders = true) (hS : S w.drew) (h : S w.drew → anyZ P .any ops Q S z ops.size (Array.replicate ops.size false) a w.drew) : (Code.region id ops true).wp P Q a w :=
  wp_region_any hm (any_of_Z _ _ _ _ (h hS))

end Go.Proofs.YtcehpobjnbgpdaaGreatDoor

/- NameOf, IntOf, RefTo. -/
namespace Go.Proofs.YtcehpobjnbgpdaaGreatDoor
open Go.RowKit
set_option linter.unusedVariables false
set_option linter.unusedSimpArgs false

theorem nameOf_any (s : ByteArray) (w : World) : Calls Tryz.prog 22 #[.string s] w fun e w' => e = .returned (.agg #[.int .i64 5, .int .i64 0, .string s, .slice none 0 0]) ∧ Chg NoS w w' := by
  have HO := keepf (⟨Blk.new w 24 #[.int .i64 0, .int .i64 0, .string ⟨#[]⟩, .slice none 0 0], Nat.le_refl _⟩ : PB w _ _ _)
  have HC := keepf ((Chg.refl NoS w).alloc (.cells #[.int .i64 0, .int .i64 0, .string ⟨#[]⟩, .slice none 0 0] 24))
  have HF := keepf (Blk.new w 24 #[.int .i64 5, .int .i64 0, .string s, .slice none 0 0])
  have HD := keepf ((Chg.refl NoS w).alloc (.cells #[.int .i64 5, .int .i64 0, .string s, .slice none 0 0] 24))
  go_enter Tryz.func22, Tryz.ntmps22
  go_wp2_with fail
  try simp only [Exit.noGoto_ret]
  have r0 := HF.out.cell 0
  have r1 := HF.out.cell 1
  have r2 := HF.out.cell 2
  have r3 := HF.out.cell 3
  simp at r0 r1 r2 r3
  refine bodyPost_ret (v := .agg #[.int .i64 5, .int .i64 0, .string s, .slice none 0 0]) (by simp [results, Tryz.results22, go_sem, r0, r1, r2, r3]) rfl ?_
  exact ⟨rfl, HD.out⟩

theorem intOf_any (n : Int) (w : World) : Calls Tryz.prog 23 #[.int .i64 n] w fun e w' => e = .returned (.agg #[.int .i64 2, .int .i64 n, .string ⟨#[]⟩, .slice none 0 0]) ∧ Chg NoS w w' := by
  have HF := keepf (Blk.new w 24 #[.int .i64 2, .int .i64 n, .string ⟨#[]⟩, .slice none 0 0])
  have HD := keepf ((Chg.refl NoS w).alloc (.cells #[.int .i64 2, .int .i64 n, .string ⟨#[]⟩, .slice none 0 0] 24))
  go_enter Tryz.func23, Tryz.ntmps23
  go_wp2_with fail
  try simp only [Exit.noGoto_ret]
  have r0 := HF.out.cell 0
  have r1 := HF.out.cell 1
  have r2 := HF.out.cell 2
  have r3 := HF.out.cell 3
  simp at r0 r1 r2 r3
  refine bodyPost_ret (v := .agg #[.int .i64 2, .int .i64 n, .string ⟨#[]⟩, .slice none 0 0]) (by simp [results, Tryz.results23, go_sem, r0, r1, r2, r3]) rfl ?_
  exact ⟨rfl, HD.out⟩

theorem refTo_any (n : Int) (w : World) : Calls Tryz.prog 24 #[.int .i64 n] w fun e w' => e = .returned (.agg #[.int .i64 8, .int .i64 n, .string ⟨#[]⟩, .slice none 0 0]) ∧ Chg NoS w w' := by
  have HF := keepf (Blk.new w 24 #[.int .i64 8, .int .i64 n, .string ⟨#[]⟩, .slice none 0 0])
  have HD := keepf ((Chg.refl NoS w).alloc (.cells #[.int .i64 8, .int .i64 n, .string ⟨#[]⟩, .slice none 0 0] 24))
  go_enter Tryz.func24, Tryz.ntmps24
  go_wp2_with fail
  try simp only [Exit.noGoto_ret]
  have r0 := HF.out.cell 0
  have r1 := HF.out.cell 1
  have r2 := HF.out.cell 2
  have r3 := HF.out.cell 3
  simp at r0 r1 r2 r3
  refine bodyPost_ret (v := .agg #[.int .i64 8, .int .i64 n, .string ⟨#[]⟩, .slice none 0 0]) (by simp [results, Tryz.results24, go_sem, r0, r1, r2, r3]) rfl ?_
  exact ⟨rfl, HD.out⟩

end Go.Proofs.YtcehpobjnbgpdaaGreatDoor

/- Append of values at a step of a region that draws its order. -/
namespace Go.Proofs.YtcehpobjnbgpdaaGreatDoor
open Go.RowKit
set_option linter.unusedVariables false
set_option linter.unusedSimpArgs false

theorem step_appV {w wr W : World} {ops : Array Oper} {o : Oper} {a : Act} {K : Act → World → Prop} {Q : Exit → Act → World → Prop} {E : Prop} {es new : List VC} {ts tn : List VT} {n c m cx : Nat} {A X : Option Addr} (hgd : o.guard = none) (s x : Operand)
    (ho : o.op = .call { callee := .builtin .append, args := #[s, x], argTypes := #[22, 22] }) (hs : a.eval s = .slice A n c) (hx : a.eval x = .slice X m cx)
    (h : GV w wr es ts n A c) (hc : Chg NoS wr W) (hn : n ≤ 2000000000) (hm : m ≤ 2000000000) (hsrc : Src W 4 X m cx (vcells new)) (hlen : new.length = m) (htl : tn.length = m) (his : ∀ (j : Nat) (t : VT) (e : VC), tn[j]? = some t → new[j]? = some e → ValIs w t e)
    (k : ∀ A3 c3 w', GV w w' (es ++ new) (ts ++ tn) (n + m) A3 c3 → (∀ (g : Nat) (T : TypeId) (cs : Array Value), Blk W g T cs → (Value.slice A n c).ownBlock ≠ some g → Blk w' g T cs ∧ (Value.slice A3 (n + m) c3).ownBlock ≠ some g) → K (a.put o.dst (.slice A3 (n + m) c3)) w') :
    if Region.wanted o (yielded ops a.tmps) = true then Oper.wp Tryz.prog o a W K Q else E := by
  have hw : Region.wanted o (yielded ops a.tmps) = true := by simp [Region.wanted, hgd]
  rw [if_pos hw]
  obtain ⟨i0, hi, hz0, hz1, hz2⟩ := info_partsV info_VC
  have hown := own_chg (S := NoS) h.own hc (fun _ _ e => e)
  have hend : ∀ v' w', w'.ownsRow 0 24 4 v' (n + m) (vcells es ++ vcells new) → W.grownBy w' (Value.slice A n c).ownBlock → (v'.ownBlock = (Value.slice A n c).ownBlock ∨ v'.ownBlock = some W.heap.size) → K (a.put o.dst v') w' := by
    intro S2 w4 hown4 hgr4 hat4
    obtain ⟨A4, c4, rfl, hA4⟩ := own_slice hown4
    refine k A4 c4 w4 ⟨by rw [vcells_app]; exact hown4, ?_, ?_, by rw [List.length_append, h.len, hlen], by rw [List.length_append, h.tlen, htl], is_app h.len h.tlen h.is his⟩ (fun g T cs hb hne => ⟨hb.grown hgr4 (fun e => hne e.symm), fun e => ?_⟩)
    · refine (h.chg.trans hc (fun _ _ e => e)).grown hgr4 (fun kk e hk => ?_)
      rcases A with _ | b
      · simp [Value.ownBlock] at e
      · have e2 : b.block = kk := by simpa [Value.ownBlock] using e
        have := h.new b rfl
        omega
    · rintro b rfl
      have hsz := h.chg.size
      have hsz2 := hc.size
      rcases hat4 with e | e
      · rcases A with _ | d
        · simp [Value.ownBlock] at e
        · have e2 : b.block = d.block := by simpa [Value.ownBlock] using e
          rw [e2]
          exact h.new d rfl
      · have e2 : b.block = W.heap.size := by simpa [Value.ownBlock] using e
        omega
    · rcases hat4 with h2 | h2
      · exact hne (h2.symm.trans e)
      · have h3 := hb.lt
        have h4 : some W.heap.size = some g := h2.symm.trans e
        simp only [Option.some.injEq] at h4
        omega
  have hu : Tryz.prog.underlying 22 = some (.slice 24) := Tryz.underlying22
  rcases X with _ | ad
  · obtain ⟨h0, h1⟩ := hsrc.2.1 rfl
    subst h0 h1
    have hnn : new = [] := List.eq_nil_of_length_eq_zero hlen
    subst hnn
    have hrun := run_append_owned_none (P := Tryz.prog) (w := W) 0 22 o.type 24 i0 4 hu hi (.slice A n c) n (vcells es) hown
    unfold Oper.wp execOp
    simp only [ho, resolve, invoke, builtin, Sem.run_bind, Sem.run_pure, Result.andThen_ok, List.map_toArray, List.map_cons, List.map_nil, hs, hx, hrun]
    exact hend _ _ (by rw [show vcells [] = [] from rfl, List.append_nil]; exact hown) (World.grownBy.refl W _) (.inl rfl)
  · obtain ⟨v', w', hr, h2, h3, _, h5⟩ := run_append_own_at (P := Tryz.prog) W 0 22 o.type 24 i0 _ 4 56 hu hi hz0 hz1 hz2 rfl (by decide) (.slice A n c) n (vcells es) hown ad m cx (vcells new) hsrc.1 (hsrc.2.2 ad rfl) (vcells_cell _) (by unfold maxLen; omega) (by omega) (Nat.zero_le _)
    unfold Oper.wp execOp
    simp only [ho, resolve, invoke, builtin, Sem.run_bind, Sem.run_pure, Result.andThen_ok, List.map_toArray, List.map_cons, List.map_nil, hs, hx, hr]
    exact hend _ _ h2 h3 h5

end Go.Proofs.YtcehpobjnbgpdaaGreatDoor

