/- The library's iterator over a slice of slices of nodes, the last one first. -/
import Derived.Test.YtkhhiaggmncehaaKraft
import Derived.Test.YtkhhiaggmncehaaInOrder
import Derived.Shelf.Abstract
import Derived.Shelf.RegionOpen
import Derived.Sort.QuietIn
import Derived.OwnWalkIn
import Derived.TacticsInMore
import Derived.LoopNIn
import Derived.LoopIn
namespace Go.Proofs.Ytkhhiaggmncehaa
open Go.RowKit Go.Shelf
set_option linter.unusedVariables false
attribute [local go_sem] Oper.semAt_some

set_option maxRecDepth 100000 in
set_option maxHeartbeats 2000000 in
theorem back_any (w : World) (A : Option Addr) (n c : Nat) :
    CallsIn Fence.wide 8 Try.prog 49 #[.slice A n c] w fun e w' => e = .returned (.func (.func 55) #[] #[.pointer (some ⟨w.heap.size, 0, none⟩)]) ∧ w' = w.alloc (.cells #[.slice A n c] 81) := by
  refine callsIn_of_wp Try.func49 rfl trivial ?_ rfl
  simp only [Try.ntmps49, List.size_toArray, List.length_cons, List.length_nil, Nat.reduceAdd, Nat.reduceSub, Array.replicate_succ, Array.replicate_zero, List.push_toArray, List.append_toArray, List.nil_append, List.cons_append]
  gi_wp2
  go_ret
  exact ⟨rfl, rfl⟩

set_option maxRecDepth 100000 in
set_option maxHeartbeats 4000000 in
theorem back1_any (l m bx g c : Nat) (As : Nat → Option Addr) (ns cs : Nat → Nat) (hm : m ≤ 1000) (J : Nat → World → Prop)
    (hbox : ∀ t W1, J t W1 → W1.cell? ⟨bx, 0, none⟩ = some (.slice (some ⟨g, 0, none⟩) m c)) (hrow : ∀ t W1, J t W1 → ∀ j, j < m → W1.cell? ⟨g, j, none⟩ = some (.slice (As j) (ns j) (cs j)))
    (hY : ∀ t W1, t < m → J t W1 → YieldAt Fence.wide 7 Try.prog l #[.int .i64 (m - 1 - t : Nat), .slice (As (m - 1 - t)) (ns (m - 1 - t)) (cs (m - 1 - t))] W1 fun e W' => e = .returned (.bool true) ∧ J (t + 1) W')
    (W : World) (h0 : J 0 W) :
    CallsIn Fence.wide 8 Try.prog 55 #[.func (.yield l) #[] #[], .pointer (some ⟨bx, 0, none⟩)] W fun e W' => (∃ v, e = .returned v) ∧ J m W' := by
  have hb0 := hbox 0 W h0
  refine callsIn_of_wp Try.func55 rfl trivial ?_ rfl
  simp only [Try.ntmps55, List.size_toArray, List.length_cons, List.length_nil, Nat.reduceAdd, Nat.reduceSub, Array.replicate_succ, Array.replicate_zero, List.push_toArray, List.append_toArray, List.nil_append, List.cons_append]
  gi_wp2
  gi_loopw [3] (fun i wr => (∃ j t : Nat, j + 1 + t = m ∧ i = .int .i64 (j : Nat) ∧ J t wr) ∨ (i = .int .i64 (-1) ∧ J m wr)) (fun i _ => (intOf i + 1).toNat)
  case atStart =>
    rcases m with _ | m
    · exact .inr ⟨rfl, h0⟩
    · exact .inl ⟨m, 0, rfl, by go_num, h0⟩
  case round =>
    rcases hrel with ⟨j, t, hjt, rfl, hJ⟩ | ⟨rfl, hJ⟩
    · have hb := hbox t wr hJ
      have hr := hrow t wr hJ j (by omega)
      have ej : m - 1 - t = j := by omega
      have hy := hY t wr (by omega) hJ
      rw [ej] at hy
      obtain ⟨fn, tmps, assign, body, hy, hR⟩ := hy
      have i1 : (0 : Int) ≤ j := by omega
      have i2 : (j : Int) < m := by omega
      gi_wp2
      refine hR.mono ?_
      rintro e W3 ⟨rfl, hJ3⟩
      have hw : IntKind.i64.wrap ((j : Int) - 1) = (j : Int) - 1 := by rw [IntKind.wrap_i64]; omega
      gi_wp2
      go_roundw
      case rel =>
        rcases j with _ | j
        · have : t + 1 = m := by omega
          rw [this] at hJ3
          exact .inr ⟨rfl, hJ3⟩
        · exact .inl ⟨j, t + 1, by omega, by go_num, hJ3⟩
      case measure => simp [intOf]
    · gi_wp2
      go_end0
      exact ⟨⟨_, rfl⟩, hJ⟩
end Go.Proofs.Ytkhhiaggmncehaa
