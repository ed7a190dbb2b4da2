/- The library's iterator over the pieces of a slice, where there is but one piece, or none. -/
import Derived.Test.YtgfdinclhakjhaaMem
import Derived.Test.YtgfdinclhakjhaaProg
import Derived.RangeFuncNested
import Derived.RangeFuncCalls
import Derived.RangeFuncLeaves
import Derived.Shelf.Abstract
import Derived.Shelf.RegionOpen
import Derived.Sort.QuietIn
import Derived.WalkKit
import Derived.OwnWalkIn
import Derived.TacticsInMore
import Derived.LoopNIn
import Derived.LoopIn
namespace Go.Proofs.Ytgfdinclhakjhaa
open Go.RowKit Go.Shelf
set_option linter.unusedVariables false
attribute [local go_sem] Oper.semAt_some

/-- The blocks from lo up to hi lie as they lay. -/
def Kept (lo hi : Nat) (W W' : World) : Prop := ∀ k, lo ≤ k → k < hi → W'.heap[k]? = W.heap[k]?
theorem Kept.refl (lo hi : Nat) (W : World) : Kept lo hi W W := fun _ _ _ => rfl
theorem Kept.trans {lo hi : Nat} {A B C : World} (h : Kept lo hi A B) (k : Kept lo hi B C) : Kept lo hi A C := fun i h1 h2 => (k i h1 h2).trans (h i h1 h2)
theorem kept_put {lo hi B : Nat} (hB : hi ≤ B) (W : World) (l : Nat) (o o' : Obj) (hl : B ≤ l) (h : W.heap[l]? = some o) (_ : o.isCells = false) (_ : o.isWalk = false) : Kept lo hi W (W.putObj l o') :=
  fun k _ hk => World.putObj_heap_other (by omega)
theorem Kept.cell {lo hi : Nat} {W W' : World} (h : Kept lo hi W W') {p : Addr} (h1 : lo ≤ p.block) (h2 : p.block < hi) : W'.cell? p = W.cell? p := World.cell?_of_block (h p.block h1 h2)

/-- What has come: the one piece, if there is one. -/
def pieces (len : Nat) : List Unit := if len = 0 then [] else [()]

set_option maxRecDepth 100000 in
set_option maxHeartbeats 2000000 in
theorem chunk_any (w : World) (A : Option Addr) (len cap : Nat) :
    CallsIn Fence.wide 8 Try.prog 18 #[.slice A len cap, .int .i64 1048576] w fun e w' => e = .returned (.func (.func 19) #[] #[.pointer (some ⟨w.heap.size, 0, none⟩), .pointer (some ⟨w.heap.size + 1, 0, none⟩)]) ∧ w' = (w.alloc (.cells #[.slice A len cap] 22)).alloc (.cells #[.int .i64 1048576] 3) := by
  refine callsIn_of_wp Try.func18 rfl trivial ?_ rfl
  simp only [Try.ntmps18, List.size_toArray, List.length_cons, List.length_nil, Nat.reduceAdd, Nat.reduceSub, Array.replicate_succ, Array.replicate_zero, List.push_toArray, List.append_toArray, List.nil_append, List.cons_append]
  gi_wp2
  go_ret
  exact ⟨rfl, rfl⟩

set_option maxRecDepth 100000 in
set_option maxHeartbeats 2000000 in
theorem chunk1_none (l lo hi Bs Bn : Nat) (A : Option Addr) (cap : Nat) (J : List Unit → World → Prop)
    (W : World) (hs : W.cell? ⟨Bs, 0, none⟩ = some (.slice A 0 cap)) (h0 : J [] W) :
    CallsIn Fence.wide 8 Try.prog 19 #[.func (.yield l) #[] #[], .pointer (some ⟨Bs, 0, none⟩), .pointer (some ⟨Bn, 0, none⟩)] W fun e W' => (∃ v, e = .returned v) ∧ J [] W' := by
  refine callsIn_of_wp Try.func19 rfl trivial ?_ rfl
  simp only [Try.ntmps19, List.size_toArray, List.length_cons, List.length_nil, Nat.reduceAdd, Nat.reduceSub, Array.replicate_succ, Array.replicate_zero, List.push_toArray, List.append_toArray, List.nil_append, List.cons_append]
  gi_wp2
  gi_loopw [4] (fun i wr => i = .int .i64 0 ∧ wr = W) (fun _ _ => 0)
  case atStart => exact ⟨rfl, rfl⟩
  case round =>
    obtain ⟨rfl, rfl⟩ := hrel
    gi_wp2
    go_end0
    exact ⟨⟨_, rfl⟩, h0⟩

set_option maxRecDepth 100000 in
set_option maxHeartbeats 4000000 in
theorem chunk1_some (l lo hi Bs Bn b off len cap : Nat) (hl0 : 0 < len) (hl : len ≤ 1048576) (hlc : len ≤ cap) (J Jx : List Unit → World → Prop)
    (hJd : ∀ x W n, J x W → J x (W.drewN n))
    (h1 : lo ≤ Bs) (h2 : Bs < hi) (h3 : lo ≤ Bn) (h4 : Bn < hi)
    (hY : ∀ pre x W, J pre W → pre.length < 1 → YieldAt Fence.wide 7 Try.prog l #[.slice (some ⟨b, off, none⟩) len len] W fun e W' =>
      (e = .returned (.bool true) ∧ J (pre ++ [x]) W' ∧ Kept lo hi W W') ∨ (e = .returned (.bool false) ∧ Jx (pre ++ [x]) W'))
    (W : World) (hs : W.cell? ⟨Bs, 0, none⟩ = some (.slice (some ⟨b, off, none⟩) len cap)) (hn : W.cell? ⟨Bn, 0, none⟩ = some (.int .i64 1048576)) (h0 : J [] W) :
    CallsIn Fence.wide 8 Try.prog 19 #[.func (.yield l) #[] #[], .pointer (some ⟨Bs, 0, none⟩), .pointer (some ⟨Bn, 0, none⟩)] W fun e W' => (∃ v, e = .returned v) ∧
      ((∃ xs, xs = [()] ∧ J xs W') ∨ (∃ pre, True ∧ Jx pre W')) := by
  refine callsIn_of_wp Try.func19 rfl trivial ?_ rfl
  simp only [Try.ntmps19, List.size_toArray, List.length_cons, List.length_nil, Nat.reduceAdd, Nat.reduceSub, Array.replicate_succ, Array.replicate_zero, List.push_toArray, List.append_toArray, List.nil_append, List.cons_append]
  gi_wp2
  gi_loopw [4] (fun i wr => wr.cell? ⟨Bs, 0, none⟩ = some (.slice (some ⟨b, off, none⟩) len cap) ∧ wr.cell? ⟨Bn, 0, none⟩ = some (.int .i64 1048576) ∧ ((i = .int .i64 0 ∧ J [] wr) ∨ (i = .int .i64 1048576 ∧ J [()] wr)))
    (fun i _ => 1 - (intOf i).toNat)
  case atStart => exact ⟨hs, hn, .inl ⟨rfl, h0⟩⟩
  case round =>
    obtain ⟨hs', hn', ⟨rfl, hJs⟩ | ⟨rfl, hJs⟩⟩ := hrel
    · have hmx : Try.prog.follows .mixedOrders = true := by kernel_rfl
      have hmin : (if (len : Int) < 1048576 then (len : Int) else 1048576) = len := by split <;> omega
      gi_wp2
      gi_quiet (fail)
      obtain ⟨fn, tmps, assign, body, hy, hR⟩ := hY [] () (wr.drewN nq) (hJd _ _ _ hJs) (by simp)
      have hs2 : (wr.drewN nq).cell? ⟨Bs, 0, none⟩ = some (.slice (some ⟨b, off, none⟩) len cap) := hs'
      have hn2 : (wr.drewN nq).cell? ⟨Bn, 0, none⟩ = some (.int .i64 1048576) := hn'
      gi_wp2
      refine hR.mono ?_
      rintro e W3 (⟨rfl, hJ3, hk3⟩ | ⟨rfl, hJx3⟩)
      · have hs3 : W3.cell? ⟨Bs, 0, none⟩ = some (.slice (some ⟨b, off, none⟩) len cap) := (hk3.cell (p := ⟨Bs, 0, none⟩) h1 h2).trans hs2
        have hn3 : W3.cell? ⟨Bn, 0, none⟩ = some (.int .i64 1048576) := (hk3.cell (p := ⟨Bn, 0, none⟩) h3 h4).trans hn2
        gi_wp2
        go_roundw
        case rel => exact ⟨hs3, hn3, .inr ⟨rfl, hJ3⟩⟩
        case measure => simp [intOf]
      · gi_wp2
        refine bodyPost_ret (results_none rfl _ _ _) rfl ?_
        exact ⟨⟨_, rfl⟩, .inr ⟨_, trivial, hJx3⟩⟩
    · have hx : ¬ ((1048576 : Int) < len) := by omega
      gi_wp2
      go_end0
      exact ⟨⟨_, rfl⟩, .inl hJs⟩

/-- The iterator hands out the whole, if there is any. -/
theorem chunk_stops (w : World) (lo hi Bs Bn len cap : Nat) (A : Option Addr) (hl : len ≤ 1048576) (hlc : len ≤ cap) (hA : 0 < len → ∃ b off, A = some ⟨b, off, none⟩)
    (h1 : lo ≤ Bs) (h2 : Bs < hi) (h3 : lo ≤ Bn) (h4 : Bn < hi) (hh : hi ≤ w.heap.size)
    (hs : w.cell? ⟨Bs, 0, none⟩ = some (.slice A len cap)) (hn : w.cell? ⟨Bn, 0, none⟩ = some (.int .i64 1048576)) :
    SeqStopsK Fence.wide 8 Try.prog 19 #[.pointer (some ⟨Bs, 0, none⟩), .pointer (some ⟨Bn, 0, none⟩)] (fun _ : Unit => #[.slice A len len]) (Kept lo hi) (fun xs => xs = pieces len) (fun _ => True) 1 w := fun l J Jx W hW hJ hJx hY h0 => by
  have hs' := (hW.cell (p := ⟨Bs, 0, none⟩) (by show Bs < _; omega)).trans hs
  have hn' := (hW.cell (p := ⟨Bn, 0, none⟩) (by show Bn < _; omega)).trans hn
  rcases Nat.eq_zero_or_pos len with h0l | h0l
  · subst h0l
    exact (chunk1_none l lo hi Bs Bn A cap J W hs' h0).mono fun e W' ⟨he, hj⟩ => ⟨he, .inl ⟨_, rfl, hj⟩⟩
  · obtain ⟨b, off, rfl⟩ := hA h0l
    refine (chunk1_some l lo hi Bs Bn b off len cap h0l hl hlc J Jx (fun x W n hj => hJ x W _ none hj ⟨rfl, rfl, rfl, Nat.le_refl _, fun _ _ _ => rfl⟩ (fun r e => by cases e)) h1 h2 h3 h4 hY W hs' hn' h0).mono fun e W' ⟨he, hj⟩ => ⟨he, ?_⟩
    rcases hj with ⟨xs, rfl, hj⟩ | h
    · exact .inl ⟨_, by unfold pieces; rw [if_neg (by omega)], hj⟩
    · exact .inr h
end Go.Proofs.Ytgfdinclhakjhaa
