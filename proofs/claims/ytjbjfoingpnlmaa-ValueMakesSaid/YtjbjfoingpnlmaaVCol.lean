/- The library's Collect over Chunk: the pairs of a row of values, in a row of the call's own. -/
import Derived.Test.YtjbjfoingpnlmaaVSeq
namespace Go.Proofs.Ytjbjfoingpnlmaa
open Go.RowKit Go.Shelf
set_option linter.unusedVariables false
set_option linter.unusedSimpArgs false
attribute [local go_sem] Oper.semAt_some

def pcells (b off t : Nat) : List Value := (List.range t).map (pcell b off)
theorem pcells_succ (b off t : Nat) : pcells b off (t + 1) = pcells b off t ++ [pcell b off t] := by simp [pcells, List.range_succ]
theorem pcells_len (b off t : Nat) : (pcells b off t).length = t := by simp [pcells]
theorem info_S : (Try.prog.info? 22).map (fun i => (i.zero, i.size, i.bytes)) = some (some (.slice none 0 0), 1, 24) := by kernel_rfl
/-- Behind t rounds. -/
def ColI (w : World) (b off : Nat) (t : Nat) (W : World) : Prop :=
  ∃ v, Boxed W w.heap.size 56 v ∧ W.ownsRow w.heap.size 22 1 v t (pcells b off t) ∧ Below w.heap.size w W
theorem putObj_below {w W : World} (h : Below w.heap.size w W) (l : Nat) (o : Obj) (hl : w.heap.size ≤ l) : Below w.heap.size w (W.putObj l o) :=
  h.trans ⟨rfl, rfl, rfl, by rw [World.putObj_size]; exact Nat.le_refl _, fun k hk => World.putObj_heap_other (by omega)⟩
theorem ColI.put {w W : World} {b off t l : Nat} {o : Obj} (o' : Obj) (h : ColI w b off t W) (hl : w.heap.size < l) (ho : W.heap[l]? = some o) (hc : o.isCells = false) : ColI w b off t (W.putObj l o') := by
  obtain ⟨v, h1, h2, h3⟩ := h
  exact ⟨v, (World.putObj_heap_other (by omega)).trans h1, ownsRow_putObj h2 o' ho hc, putObj_below h3 l o' (by omega)⟩
theorem ColI.alloc {w W : World} {b off t : Nat} (o : Obj) (h : ColI w b off t W) : ColI w b off t (W.alloc o) := by
  obtain ⟨v, h1, h2, h3⟩ := h
  exact ⟨v, h1.alloc o, h2.alloc o, h3.alloc h3.size o⟩
theorem ColI.drewN {w W : World} {b off t : Nat} (k : Nat) (h : ColI w b off t W) : ColI w b off t (W.drewN k) := by
  obtain ⟨v, h1, h2, h3⟩ := h
  exact ⟨v, h1, h2, ⟨h3.os, h3.tape, h3.output, h3.size, h3.block⟩⟩

set_option maxRecDepth 100000 in
set_option maxHeartbeats 4000000 in
theorem appSeq_in (m Bs Bn b off cap : Nat) (A : Option Addr) (w : World) (hm : m ≤ 1000) (hA : 0 < m → A = some ⟨b, off, none⟩) (hcap : 2 * m ≤ cap)
    (hbs : w.cell? ⟨Bs, 0, none⟩ = some (.slice A (2 * m) cap)) (hbn : w.cell? ⟨Bn, 0, none⟩ = some (.int .i64 2)) :
    CallsIn Fence.wide 9 Try.prog 60 #[.slice none 0 0, .func (.func 61) #[] #[.pointer (some ⟨Bs, 0, none⟩), .pointer (some ⟨Bn, 0, none⟩)]] w fun e w' =>
      ∃ v, e = .returned v ∧ w'.ownsRow w.heap.size 22 1 v m (pcells b off m) ∧ Below w.heap.size w w' := by
  obtain ⟨i0, hi, hz0, hz1, hz2⟩ := info_parts info_S
  have l1 : Bs < w.heap.size := cell_lt hbs
  have l2 : Bn < w.heap.size := cell_lt hbn
  refine callsIn_of_wp_marks Try.func60 rfl trivial ?_ rfl
  simp only [Try.ntmps60, List.size_toArray, List.length_cons, List.length_nil, Nat.reduceAdd, Nat.reduceSub, Array.replicate_succ, Array.replicate_zero, List.push_toArray, List.append_toArray, List.nil_append, List.cons_append]
  gi_wp2
  have hI0 : ColI w b off 0 (w.alloc (.cells #[.slice none 0 0] 56)) := ⟨.slice none 0 0, Boxed.new w _ _, own_nil _ _ _ _, (Below.refl _ w).alloc (Nat.le_refl _) _⟩
  have hsz : (w.alloc (.cells #[.slice none 0 0] 56)).heap.size = w.heap.size + 1 := by simp
  refine range_order_own (gf := 61) (lb := #[.pointer (some ⟨Bs, 0, none⟩), .pointer (some ⟨Bn, 0, none⟩)]) (by omega) rfl (enters_of Try.func61 (by kernel_rfl) rfl) m
    (fun t => #[pcell b off t]) (fun _ => rfl) (ColI w b off) (fun t W s o h hl => h.put o (by rw [hsz]; omega) hl rfl) (fun t W o h => h.alloc o) (fun t W k h => h.drewN k) hI0 ?seq
    (fun t => { tmps := #[.slice none 0 0, .func (.func 61) #[] #[.pointer (some ⟨Bs, 0, none⟩), .pointer (some ⟨Bn, 0, none⟩)], .pointer (some ⟨w.heap.size, 0, none⟩), undef, .slice none 0 0, pcell b off t, .func (.func 61) #[] #[.pointer (some ⟨Bs, 0, none⟩), .pointer (some ⟨Bn, 0, none⟩)], pcell b off t, undef, undef, undef, undef, undef], defers := [] }) ?assign ?body ?done
  case seq =>
    intro l J W hJ hJd hY h0
    refine chunk1V_any l m Bs Bn b off cap A hm hA hcap J hJd (fun t W1 h => ?_) hY W h0
    obtain ⟨v, _, _, h3⟩ := hJ t W1 h
    exact ⟨(World.cell?_of_block (h3.block Bs l1)).trans hbs, (World.cell?_of_block (h3.block Bn l2)).trans hbn⟩
  case assign =>
    intro l t W K hK
    gi_wp2
    exact hK
  case done =>
    intro D W hD hI hdf
    have hI2 := hI.put (.deferred none) (by rw [hsz] at hD; omega) hdf rfl
    obtain ⟨v, hv, hr, _⟩ := hI
    obtain ⟨A1, c1, rfl, _⟩ := own_slice hr
    have c0 := hv.cell
    obtain ⟨v2, hv2, hr2, hb2⟩ := hI2
    have hvv : v2 = .slice A1 m c1 := by
      have h1 := (World.putObj_heap_other (by rw [hsz] at hD; omega) : (W.putObj D (.deferred none)).heap[w.heap.size]? = W.heap[w.heap.size]?)
      have h2 : some _ = some _ := hv2.symm.trans (h1.trans hv)
      simp at h2
      exact h2
    subst hvv
    gi_wp2
    refine ⟨by simp, .inl ⟨_, _, rfl, run_takeDeferred hdf, ?_⟩⟩
    exact ⟨.slice A1 m c1, by simp [results, Try.results60, go_sem], _, rfl, hr2, hb2⟩
  case body =>
    intro l t W ht hI
    unfold pcell
    obtain ⟨v, hv, hrow, hbl⟩ := hI
    obtain ⟨A1, c1, rfl, _⟩ := own_slice hrow
    have c0 := hv.cell
    have f0 := hv.frozen
    have hbs := hbl.size
    gi_wp2_with (gi_at_builtin; refine wpListIn_append_own _ rfl (.tmp 8) (.tmp 10) 56 rfl w.heap.size 22 i0 (.slice none 0 0) 1 24 Try.underlying56 hi hz0 hz1 hz2 rfl (by decide) (.slice A1 t c1) t (pcells b off t) rfl (hrow.alloc _) ⟨W.heap.size, 0, none⟩ 1 1 [.slice (some ⟨b, off + 2 * t * 4, none⟩) 2 2] rfl rfl (cell_one_new _ _ _) (by simp [Value.oneCell']) (by unfold maxLen; omega) (by omega) (by simp; omega) ?_; intro v' w3 hown' hg3 hnil3; obtain ⟨a1, a2, a3, a4, a5⟩ := hv.appended (by decide) hrow hbs (Nat.le_refl _) hown' hg3; obtain ⟨g', cap', rfl⟩ := ownsRow_succ hown'; have c3 := a1.cell; have f3 := a1.frozen)
    exact ⟨a4.from _, _, a2, by rw [pcells_succ]; exact a3, hbl.trans a5⟩
theorem collect_any (m Bs Bn b off cap : Nat) (A : Option Addr) (w : World) (hm : m ≤ 1000) (hA : 0 < m → A = some ⟨b, off, none⟩) (hcap : 2 * m ≤ cap)
    (hbs : w.cell? ⟨Bs, 0, none⟩ = some (.slice A (2 * m) cap)) (hbn : w.cell? ⟨Bn, 0, none⟩ = some (.int .i64 2)) :
    Calls Try.prog 47 #[.func (.func 61) #[] #[.pointer (some ⟨Bs, 0, none⟩), .pointer (some ⟨Bn, 0, none⟩)]] w fun e w' =>
      ∃ v, e = .returned v ∧ w'.ownsRow w.heap.size 22 1 v m (pcells b off m) ∧ Below w.heap.size w w' := by
  have HX := keepf (callsIn_wide.1 (appSeq_in m Bs Bn b off cap A w hm hA hcap hbs hbn))
  go_enter Try.func47, Try.ntmps47
  go_wp2_with (go_at_call 60; refine HX.out.mono ?_; rintro e w2 ⟨v, rfl, hr, hb⟩; obtain ⟨A1, c1, rfl, _⟩ := own_slice hr; have HR := keepf hr; have HB := keepf hb; clear hr hb)
  go_ret
  exact ⟨_, rfl, HR.out, HB.out⟩
end Go.Proofs.Ytjbjfoingpnlmaa
