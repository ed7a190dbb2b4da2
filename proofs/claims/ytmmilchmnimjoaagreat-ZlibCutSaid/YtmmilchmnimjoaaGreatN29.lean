/- Merged by program: A3Chunk A3Ad A3Round A3Take. -/
import Derived.Test.YtmmilchmnimjoaaGreatN00
import Derived.Test.YtmmilchmnimjoaaGreatProg
import Derived.RangeFuncNested
import Derived.RangeFuncCalls
import Derived.RangeFuncLeaves
import Derived.Shelf.Abstract
import Derived.Shelf.RegionOpen
import Derived.Sort.QuietIn
import Derived.WalkKit
import Derived.OwnWalkIn
import Derived.TacticsInMore
import Derived.LoopNIn
import Derived.LoopIn
import Derived.CallsIn
import Derived.OrdersIn
import Derived.OrdersHeld
import Derived.TacticsIn
import Derived.Deep.RegionHeld3
import Derived.Deep.Quiet
/- The library's iterator over the pieces of a slice, where there is but one piece, or none. -/
namespace Go.Proofs.YtmmilchmnimjoaaGreat
open Go.RowKit Go.Shelf
set_option linter.unusedVariables false
attribute [local go_sem] Oper.semAt_some
def Kept (lo hi : Nat) (W W' : World) : Prop := ∀ k, lo ≤ k → k < hi → W'.heap[k]? = W.heap[k]?
theorem Kept.refl (lo hi : Nat) (W : World) : Kept lo hi W W := fun _ _ _ => rfl
theorem Kept.trans {lo hi : Nat} {A B C : World} (h : Kept lo hi A B) (k : Kept lo hi B C) : Kept lo hi A C := fun i h1 h2 => (k i h1 h2).trans (h i h1 h2)
theorem kept_put {lo hi B : Nat} (hB : hi ≤ B) (W : World) (l : Nat) (o o' : Obj) (hl : B ≤ l) (h : W.heap[l]? = some o) (_ : o.isCells = false) (_ : o.isWalk = false) : Kept lo hi W (W.putObj l o') :=
  fun k _ hk => World.putObj_heap_other (by omega)
theorem Kept.cell {lo hi : Nat} {W W' : World} (h : Kept lo hi W W') {p : Addr} (h1 : lo ≤ p.block) (h2 : p.block < hi) : W'.cell? p = W.cell? p := World.cell?_of_block (h p.block h1 h2)
def pieces (len : Nat) : List Unit := if len = 0 then [] else [()]
set_option maxRecDepth 100000 in
set_option maxHeartbeats 2000000 in
theorem chunk_any (w : World) (A : Option Addr) (len cap : Nat) :
    CallsIn Fence.wide 8 Tryz.prog 97 #[.slice A len cap, .int .i64 1048576] w fun e w' => e = .returned (.func (.func 117) #[] #[.pointer (some ⟨w.heap.size, 0, none⟩), .pointer (some ⟨w.heap.size + 1, 0, none⟩)]) ∧ w' = (w.alloc (.cells #[.slice A len cap] 22)).alloc (.cells #[.int .i64 1048576] 3) := by
  refine callsIn_of_wp Tryz.func97 rfl trivial ?_ rfl
  simp only [Tryz.ntmps97, List.size_toArray, List.length_cons, List.length_nil, Nat.reduceAdd, Nat.reduceSub, Array.replicate_succ, Array.replicate_zero, List.push_toArray, List.append_toArray, List.nil_append, List.cons_append]
  gi_wp2
  go_ret
  exact ⟨rfl, rfl⟩
set_option maxRecDepth 100000 in
set_option maxHeartbeats 2000000 in
theorem chunk1_none (l lo hi Bs Bn : Nat) (A : Option Addr) (cap : Nat) (J : List Unit → World → Prop)
    (W : World) (hs : W.cell? ⟨Bs, 0, none⟩ = some (.slice A 0 cap)) (h0 : J [] W) :
    CallsIn Fence.wide 8 Tryz.prog 117 #[.func (.yield l) #[] #[], .pointer (some ⟨Bs, 0, none⟩), .pointer (some ⟨Bn, 0, none⟩)] W fun e W' => (∃ v, e = .returned v) ∧ J [] W' := by
  refine callsIn_of_wp Tryz.func117 rfl trivial ?_ rfl
  simp only [Tryz.ntmps117, List.size_toArray, List.length_cons, List.length_nil, Nat.reduceAdd, Nat.reduceSub, Array.replicate_succ, Array.replicate_zero, List.push_toArray, List.append_toArray, List.nil_append, List.cons_append]
  gi_wp2
  gi_loopw [4] (fun i wr => i = .int .i64 0 ∧ wr = W) (fun _ _ => 0)
  case atStart => exact ⟨rfl, rfl⟩
  case round =>
    obtain ⟨rfl, rfl⟩ := hrel
    gi_wp2
    go_end0
    exact ⟨⟨_, rfl⟩, h0⟩
set_option maxRecDepth 100000 in
set_option maxHeartbeats 4000000 in
theorem chunk1_some (l lo hi Bs Bn b off len cap : Nat) (hl0 : 0 < len) (hl : len ≤ 1048576) (hlc : len ≤ cap) (J Jx : List Unit → World → Prop)
    (hJd : ∀ x W n, J x W → J x (W.drewN n))
    (h1 : lo ≤ Bs) (h2 : Bs < hi) (h3 : lo ≤ Bn) (h4 : Bn < hi)
    (hY : ∀ pre x W, J pre W → pre.length < 1 → YieldAt Fence.wide 7 Tryz.prog l #[.slice (some ⟨b, off, none⟩) len len] W fun e W' =>
      (e = .returned (.bool true) ∧ J (pre ++ [x]) W' ∧ Kept lo hi W W') ∨ (e = .returned (.bool false) ∧ Jx (pre ++ [x]) W'))
    (W : World) (hs : W.cell? ⟨Bs, 0, none⟩ = some (.slice (some ⟨b, off, none⟩) len cap)) (hn : W.cell? ⟨Bn, 0, none⟩ = some (.int .i64 1048576)) (h0 : J [] W) :
    CallsIn Fence.wide 8 Tryz.prog 117 #[.func (.yield l) #[] #[], .pointer (some ⟨Bs, 0, none⟩), .pointer (some ⟨Bn, 0, none⟩)] W fun e W' => (∃ v, e = .returned v) ∧
      ((∃ xs, xs = [()] ∧ J xs W') ∨ (∃ pre, True ∧ Jx pre W')) := by
  refine callsIn_of_wp Tryz.func117 rfl trivial ?_ rfl
  simp only [Tryz.ntmps117, List.size_toArray, List.length_cons, List.length_nil, Nat.reduceAdd, Nat.reduceSub, Array.replicate_succ, Array.replicate_zero, List.push_toArray, List.append_toArray, List.nil_append, List.cons_append]
  gi_wp2
  gi_loopw [4] (fun i wr => wr.cell? ⟨Bs, 0, none⟩ = some (.slice (some ⟨b, off, none⟩) len cap) ∧ wr.cell? ⟨Bn, 0, none⟩ = some (.int .i64 1048576) ∧ ((i = .int .i64 0 ∧ J [] wr) ∨ (i = .int .i64 1048576 ∧ J [()] wr)))
    (fun i _ => 1 - (intOf i).toNat)
  case atStart => exact ⟨hs, hn, .inl ⟨rfl, h0⟩⟩
  case round =>
    obtain ⟨hs', hn', ⟨rfl, hJs⟩ | ⟨rfl, hJs⟩⟩ := hrel
    · have hmx : Tryz.prog.follows .mixedOrders = true := by kernel_rfl
      have hmin2 : min (1048576 : Int) len = len := by omega
      have hmin3 : (min (1048576 : Int) len).toNat = len := by omega
      have hmin : (if (len : Int) < 1048576 then (len : Int) else 1048576) = len := by split <;> omega
      gi_wp2
      gi_quiet (fail)
      obtain ⟨fn, tmps, assign, body, hy, hR⟩ := hY [] () (wr.drewN nq) (hJd _ _ _ hJs) (by simp)
      have hs2 : (wr.drewN nq).cell? ⟨Bs, 0, none⟩ = some (.slice (some ⟨b, off, none⟩) len cap) := hs'
      have hn2 : (wr.drewN nq).cell? ⟨Bn, 0, none⟩ = some (.int .i64 1048576) := hn'
      gi_wp2
      refine hR.mono ?_
      rintro e W3 (⟨rfl, hJ3, hk3⟩ | ⟨rfl, hJx3⟩)
      · have hs3 : W3.cell? ⟨Bs, 0, none⟩ = some (.slice (some ⟨b, off, none⟩) len cap) := (hk3.cell (p := ⟨Bs, 0, none⟩) h1 h2).trans hs2
        have hn3 : W3.cell? ⟨Bn, 0, none⟩ = some (.int .i64 1048576) := (hk3.cell (p := ⟨Bn, 0, none⟩) h3 h4).trans hn2
        gi_wp2
        go_roundw
        case rel => exact ⟨hs3, hn3, .inr ⟨rfl, hJ3⟩⟩
        case measure => simp [intOf]
      · gi_wp2
        refine bodyPost_ret (results_none rfl _ _ _) rfl ?_
        exact ⟨⟨_, rfl⟩, .inr ⟨_, trivial, hJx3⟩⟩
    · have hx : ¬ ((1048576 : Int) < len) := by omega
      gi_wp2
      go_end0
      exact ⟨⟨_, rfl⟩, .inl hJs⟩
theorem chunk_stops (w : World) (lo hi Bs Bn len cap : Nat) (A : Option Addr) (hl : len ≤ 1048576) (hlc : len ≤ cap) (hA : 0 < len → ∃ b off, A = some ⟨b, off, none⟩)
    (h1 : lo ≤ Bs) (h2 : Bs < hi) (h3 : lo ≤ Bn) (h4 : Bn < hi) (hh : hi ≤ w.heap.size)
    (hs : w.cell? ⟨Bs, 0, none⟩ = some (.slice A len cap)) (hn : w.cell? ⟨Bn, 0, none⟩ = some (.int .i64 1048576)) :
    SeqStopsK Fence.wide 8 Tryz.prog 117 #[.pointer (some ⟨Bs, 0, none⟩), .pointer (some ⟨Bn, 0, none⟩)] (fun _ : Unit => #[.slice A len len]) (Kept lo hi) (fun xs => xs = pieces len) (fun _ => True) 1 w := fun l J Jx W hW hJ hJx hY h0 => by
  have hs' := (hW.cell (p := ⟨Bs, 0, none⟩) (by show Bs < _; omega)).trans hs
  have hn' := (hW.cell (p := ⟨Bn, 0, none⟩) (by show Bn < _; omega)).trans hn
  rcases Nat.eq_zero_or_pos len with h0l | h0l
  · subst h0l
    exact (chunk1_none l lo hi Bs Bn A cap J W hs' h0).mono fun e W' ⟨he, hj⟩ => ⟨he, .inl ⟨_, rfl, hj⟩⟩
  · obtain ⟨b, off, rfl⟩ := hA h0l
    refine (chunk1_some l lo hi Bs Bn b off len cap h0l hl hlc J Jx (fun x W n hj => hJ x W _ none hj ⟨rfl, rfl, rfl, Nat.le_refl _, fun _ _ _ => rfl⟩ (fun r e => by cases e)) h1 h2 h3 h4 hY W hs' hn' h0).mono fun e W' ⟨he, hj⟩ => ⟨he, ?_⟩
    rcases hj with ⟨xs, rfl, hj⟩ | h
    · exact .inl ⟨_, by unfold pieces; rw [if_neg (by omega)], hj⟩
    · exact .inr h
end Go.Proofs.YtmmilchmnimjoaaGreat
/- Adler's sum, in plain mathematics. -/
namespace Go.Proofs.YtmmilchmnimjoaaGreat
open Go.RowKit
set_option linter.unusedVariables false
def stepA (s : Nat × Nat) (x : Nat) : Nat × Nat := (s.1 + x, s.2 + (s.1 + x + 1))
def acc (s : Nat × Nat) (bs : List Nat) : Nat × Nat := bs.foldl stepA s
def lowA (bs : List Nat) : Nat := (acc (0, 0) bs).1 % 65521
def highA (bs : List Nat) : Nat := (acc (0, 0) bs).2 % 65521
def sumA (bs : List Nat) : Nat := 65536 * highA bs + (lowA bs + 1) % 65521
theorem acc_append (s : Nat × Nat) (as_ bs : List Nat) : acc s (as_ ++ bs) = acc (acc s as_) bs := by simp [acc]
theorem acc_snoc (s : Nat × Nat) (as_ : List Nat) (x : Nat) : acc s (as_ ++ [x]) = stepA (acc s as_) x := by simp [acc]
theorem acc_mod : ∀ (bs : List Nat) (s t : Nat × Nat), s.1 % 65521 = t.1 % 65521 → s.2 % 65521 = t.2 % 65521 → (acc s bs).1 % 65521 = (acc t bs).1 % 65521 ∧ (acc s bs).2 % 65521 = (acc t bs).2 % 65521
  | [], s, t, h1, h2 => ⟨h1, h2⟩
  | x :: bs, s, t, h1, h2 => acc_mod bs (stepA s x) (stepA t x) (by simp only [stepA]; omega) (by simp only [stepA]; omega)
theorem low_more (as_ bs : List Nat) : (acc (lowA as_, highA as_) bs).1 % 65521 = lowA (as_ ++ bs) := by
  unfold lowA highA
  rw [acc_append]
  exact (acc_mod bs _ _ (by simp) (by simp)).1
theorem high_more (as_ bs : List Nat) : (acc (lowA as_, highA as_) bs).2 % 65521 = highA (as_ ++ bs) := by
  unfold lowA highA
  rw [acc_append]
  exact (acc_mod bs _ _ (by simp) (by simp)).2
theorem low_lt (bs : List Nat) : lowA bs < 65521 := Nat.mod_lt _ (by decide)
theorem high_lt (bs : List Nat) : highA bs < 65521 := Nat.mod_lt _ (by decide)
theorem sum_lt (bs : List Nat) : sumA bs < 4294967296 := by
  have := high_lt bs
  have := Nat.mod_lt (lowA bs + 1) (show 0 < 65521 by decide)
  unfold sumA
  omega
theorem acc_le1 : ∀ (bs : List Nat) (s : Nat × Nat), (∀ b ∈ bs, b < 256) → (acc s bs).1 ≤ s.1 + 255 * bs.length
  | [], s, _ => by simp [acc]
  | x :: bs, s, h => by
    have h1 := acc_le1 bs (stepA s x) (fun b hb => h b (List.mem_cons_of_mem _ hb))
    have h2 := h x (List.mem_cons_self ..)
    simp only [stepA] at h1
    simp only [acc, List.foldl_cons, List.length_cons] at *
    simp only [stepA] at *
    omega
theorem acc_le2 : ∀ (bs : List Nat) (s : Nat × Nat) (m : Nat), (∀ b ∈ bs, b < 256) → s.1 + 255 * bs.length + 1 ≤ m → (acc s bs).2 ≤ s.2 + bs.length * m
  | [], s, m, _, _ => by simp [acc]
  | x :: bs, s, m, h, hm => by
    have h2 := h x (List.mem_cons_self ..)
    have h1 := acc_le2 bs (stepA s x) m (fun b hb => h b (List.mem_cons_of_mem _ hb)) (by simp only [stepA, List.length_cons] at *; omega)
    simp only [acc, List.foldl_cons, List.length_cons] at *
    simp only [stepA] at *
    rw [Nat.succ_mul]
    omega
theorem acc_ones : ∀ (bs : List Nat) (s : Nat × Nat), (acc s bs).1 = s.1 + bs.sum
  | [], s => by simp [acc]
  | x :: bs, s => by
    have h1 := acc_ones bs (stepA s x)
    simp only [acc, List.foldl_cons, List.sum_cons] at *
    rw [h1]
    simp only [stepA]
    omega
theorem sum_set (bs : List Nat) (k x : Nat) (hk : k < bs.length) (hx : x < 256) (hb : ∀ b ∈ bs, b < 256) : sumA (bs.set k x) = sumA bs ↔ bs[k]? = some x := by
  have e := List.getElem?_eq_getElem hk
  constructor
  · intro h
    have hy := hb _ (List.getElem_mem hk)
    have hs : (bs.set k x).sum + bs[k] = bs.sum + x := by
      have e1 : bs = bs.take k ++ bs[k] :: bs.drop (k + 1) := by rw [← List.drop_eq_getElem_cons hk, List.take_append_drop]
      have e2 : bs.set k x = bs.take k ++ x :: bs.drop (k + 1) := by rw [List.set_eq_take_append_cons_drop, if_pos hk]
      have e3 : bs.sum = (bs.take k).sum + (bs[k] + (bs.drop (k + 1)).sum) := by
        have e4 := congrArg List.sum e1
        rw [List.sum_append, List.sum_cons] at e4
        exact e4
      rw [e2, e3, List.sum_append, List.sum_cons]
      omega
    have h1 := Nat.mod_lt (lowA bs + 1) (show 0 < 65521 by decide)
    have h2 := Nat.mod_lt (lowA (bs.set k x) + 1) (show 0 < 65521 by decide)
    have h3 : (lowA (bs.set k x) + 1) % 65521 = (lowA bs + 1) % 65521 := by
      unfold sumA at h
      omega
    unfold lowA at h3
    rw [acc_ones, acc_ones] at h3
    rw [e]
    simp only [Option.some.injEq]
    simp only [Nat.zero_add] at h3
    omega
  · intro h
    rw [e] at h
    injection h with h
    rw [← h, List.set_getElem_self]
end Go.Proofs.YtmmilchmnimjoaaGreat
/- A region that draws its order, in a round of a range over a function: what holds of it outside of any fence holds there. Plain lemmas, no program. -/
namespace Go.Proofs.YtmmilchmnimjoaaGreat
set_option linter.unusedVariables false
def noDefer (o : Oper) : Bool := match o.op with | .defer _ => false | _ => true
theorem noDefer_spec {o : Oper} (h : noDefer o = true) : ∀ c, o.op ≠ .defer c := by
  intro c hc
  unfold noDefer at h
  rw [hc] at h
  cases h
section
variable {l n : Nat} {P : Program} {ops : Array Oper} {Q : Exit → Act → World → Prop} {md : Region.Mode}
theorem rowsIn_round {row : String} {args : Array Value} {w : World} {R : Value → World → Prop} (h : Rows P row args w R) : RowsIn (Fence.wide.inRound l) n P row args w R :=
  fun c cs _ => let ⟨v, w', r, s⟩ := h c cs; ⟨v, w', r, stepsIn_wide.2 s⟩
theorem opIn_round {i : Nat} {K : Act → World → Prop} {a : Act} {w : World} (hd : ∀ o, ops[i]? = some o → noDefer o = true) (hQ : ¬ LetsOut Q) (h : wpOp P ops Q i K a w) : wpOpIn (Fence.wide.inRound l) n P ops Q i K a w := by
  unfold wpOp at h
  unfold wpOpIn
  split
  · rename_i ho
    simp only [ho] at h
    exact h
  · rename_i o ho
    simp only [ho] at h
    split
    · rename_i hw
      simp only [hw, if_true] at h
      rcases h with h | h
      · unfold Oper.wp at h
        unfold Oper.wpIn
        refine ⟨fun _ _ => trivial, ?_⟩
        have e : o.semAt (Fence.wide.inRound l).round a.eval = execOp a.eval o := Oper.semAt_some l a.eval o (noDefer_spec (hd o ho))
        rw [e]
        generalize (execOp a.eval o).run P w = r at *
        cases r with
        | ok x w' =>
          cases x <;> simp only [Oper.upon] at h <;> simp only [Oper.uponIn]
          all_goals first
            | exact h
            | exact h.elim
            | exact ⟨fun h0 => (by cases h0), callsIn_wide.2 h⟩
            | exact ⟨fun h0 => (by cases h0), rowsIn_round h⟩
        | halt x w' => cases x <;> simp only [Oper.upon] at h <;> simp only [Oper.uponIn] <;> first | exact h | exact h.elim
      · exact absurd h.2 hQ
    · rename_i hw
      simp only [hw] at h
      exact ⟨fun _ _ => trivial, h⟩
theorem anyIn_round (hd : ∀ (i : Nat) (o : Oper), ops[i]? = some o → noDefer o = true) (hQ : ¬ LetsOut Q) : ∀ (fuel : Nat) (listed : Array Bool) (a : Act) (w : World), wpAny P md ops Q fuel listed a w → wpAnyIn (Fence.wide.inRound l) n P md ops Q fuel listed a w
  | 0, _, _, _, h => h
  | fuel + 1, _, _, _, h => ⟨h.1, fun i hi => wpOpIn_mono (fun a' w' h' => anyIn_round hd hQ fuel _ a' w' h') (opIn_round (hd i) hQ (h.2 i hi))⟩
theorem region_round {id : Nat} {a : Act} {w : World} {S : World → Prop} {R : Act → World → Prop} (hm : P.follows .mixedOrders = true) (hd : ops.all noDefer = true)
    (h : wpAnyH P .any ops (fun e a' w' => e = .normal ∧ R a' w') S ops.size (Array.replicate ops.size false) a w.drew) : (Code.region id ops true).wpIn (Fence.wide.inRound l) n P (fun e a' w' => e = .normal ∧ R a' w') a w :=
  wpIn_region_any hm (anyIn_round (fun i o ho => by
    rw [Array.all_eq_true'] at hd
    exact hd o (Array.mem_of_getElem? ho)) (fun ⟨_, _, h0⟩ => by cases h0.1) _ _ _ _ (wpAny_of_held _ _ _ _ h))
end
end Go.Proofs.YtmmilchmnimjoaaGreat
/- What take of two halves does. -/
namespace Go.Proofs.YtmmilchmnimjoaaGreat
open Go.RowKit Go.Shelf
set_option linter.unusedVariables false
attribute [local go_sem] Oper.semAt_some
def Halves (w : World) (b lo hi : Nat) (n : Int) : Prop := Blk w b 82 #[.int .u64 lo, .int .u64 hi, .int .i64 n]
def TakeInv (w0 : World) (b lo hi : Nat) (n : Int) (bs : List Nat) (pre : List Unit) (W : World) : Prop :=
  Chg (fun i => i = b) w0 W ∧ if pre = [] then Halves W b lo hi n else Halves W b ((acc (lo, hi) bs).1 % 65521) ((acc (lo, hi) bs).2 % 65521) n
theorem takeInv_own (w0 : World) (b lo hi : Nat) (n : Int) (bs : List Nat) (hb : b < w0.heap.size) : OwnFrom w0.heap.size (TakeInv w0 b lo hi n bs) := by
  rintro pre W W' row ⟨hc, hh⟩ hg hr
  have hr' : some b ≠ row := fun e => by have := (hr b e.symm).1; omega
  refine ⟨hc.grown hg (fun k e hk => by have := (hr k e).1; omega), ?_⟩
  split at hh <;> rename_i hp
  · rw [if_pos hp]; exact Blk.grown hh hg hr'
  · rw [if_neg hp]; exact Blk.grown hh hg hr'
set_option maxRecDepth 100000 in
set_option maxHeartbeats 4000000 in
theorem take_in (w : World) (b lo hi : Nat) (n : Int) (A : Option Addr) (len cap : Nat) (bs : List Nat) (hb : Halves w b lo hi n) (hlo : lo < 65521) (hhi : hi < 65521)
    (hS : Src w 1 A len cap (ucells bs)) (hl : bs.length = len) (hm : len ≤ 1048576) (hlc : len ≤ cap) (hby : ∀ x ∈ bs, x < 256) (hne : ∀ a, A = some a → 0 < len → a.block ≠ b) :
    CallsIn Fence.wide 9 Tryz.prog 65 #[.pointer (some ⟨b, 0, none⟩), .slice A len cap] w fun e w' =>
      e = .returned (.tuple #[]) ∧ Halves w' b ((acc (lo, hi) bs).1 % 65521) ((acc (lo, hi) bs).2 % 65521) n ∧ Chg (fun i => i = b) w w' := by
  have hbl : b < w.heap.size := Blk.lt hb
  refine callsIn_of_wp_marks Tryz.func65 rfl trivial ?_ rfl
  simp only [Tryz.ntmps65, List.size_toArray, List.length_cons, List.length_nil, Nat.reduceAdd, Nat.reduceSub, Array.replicate_succ, Array.replicate_zero, List.push_toArray, List.append_toArray, List.nil_append, List.cons_append]
  gi_wp2_with (refine ⟨trivial, ?_⟩; gi_at_call 97; refine (chunk_any _ _ _ _).mono ?_; rintro e w' ⟨rfl, rfl⟩)
  have hbox := Blk.new w 140 #[.pointer (some ⟨b, 0, none⟩)]
  have hsz : ((((w.alloc (.cells #[.pointer (some ⟨b, 0, none⟩)] 140)).alloc (.cells #[.slice A len cap] 22)).alloc (.cells #[.int .i64 1048576] 3))).heap.size = w.heap.size + 3 := by simp
  have hc0 : Chg (fun i => i = b) w (((w.alloc (.cells #[.pointer (some ⟨b, 0, none⟩)] 140)).alloc (.cells #[.slice A len cap] 22)).alloc (.cells #[.int .i64 1048576] 3)) := (((Chg.refl _ w).alloc _).alloc _).alloc _
  have hb1 : Halves (((w.alloc (.cells #[.pointer (some ⟨b, 0, none⟩)] 140)).alloc (.cells #[.slice A len cap] 22)).alloc (.cells #[.int .i64 1048576] 3)) b lo hi n := Blk.alloc (Blk.alloc (Blk.alloc hb _) _) _
  have hbox1 := (hbox.alloc (.cells #[.slice A len cap] 22)).alloc (.cells #[.int .i64 1048576] 3)
  have hs1 := (Blk.new (w.alloc (.cells #[.pointer (some ⟨b, 0, none⟩)] 140)) 22 #[.slice A len cap]).alloc (.cells #[.int .i64 1048576] 3)
  have hn1 := Blk.new ((w.alloc (.cells #[.pointer (some ⟨b, 0, none⟩)] 140)).alloc (.cells #[.slice A len cap] 22)) 3 #[.int .i64 1048576]
  have hS1 : Src (((w.alloc (.cells #[.pointer (some ⟨b, 0, none⟩)] 140)).alloc (.cells #[.slice A len cap] 22)).alloc (.cells #[.int .i64 1048576] 3)) 1 A len cap (ucells bs) := Src.below (w0 := w) hS ((((Chg.refl _ w).alloc _).alloc _).alloc _)
  simp only [World.size_alloc] at hs1 hn1
  clear hbox hb hS
  obtain ⟨w0, hw0⟩ : ∃ w0, ((w.alloc (.cells #[.pointer (some ⟨b, 0, none⟩)] 140)).alloc (.cells #[.slice A len cap] 22)).alloc (.cells #[.int .i64 1048576] 3) = w0 := ⟨_, rfl⟩
  rw [hw0] at hsz hc0 hb1 hbox1 hs1 hn1 hS1 ⊢
  clear hw0
  have h00 : TakeInv w0 b lo hi n bs [] w0 := ⟨Chg.refl _ _, by rw [if_pos rfl]; exact hb1⟩
  have hst := chunk_stops w0 w.heap.size (w.heap.size + 3) (w.heap.size + 1) (w.heap.size + 1 + 1) len cap A hm hlc (by
    intro h0
    obtain ⟨b, off, h, _⟩ := hS1.plain (by simpa [ucells, hl] using h0)
    exact ⟨b, off, h⟩) (by omega) (by omega) (by omega) (by omega) (by omega) (hs1.cell 0) (hn1.cell 0)
  refine wpIn_rangeFunc_ownG (gf := 117) (lb := #[.pointer (some ⟨w.heap.size + 1, 0, none⟩), .pointer (some ⟨w.heap.size + 1 + 1, 0, none⟩)]) rfl (by omega) rfl trivial (enters_of Tryz.func117 (by kernel_rfl) rfl) hst (fun h k => h.trans k) (fun W l o o' hl' => kept_put (B := w0.heap.size) (by omega) W l o o' hl') (Below.refl _ _) (fun _ => rfl)
    (TakeInv w0 b lo hi n bs) (fun _ _ _ => False) (takeInv_own w0 b lo hi n bs (by omega)) (fun _ _ _ _ _ hs _ _ => hs) h00
    (fun x => { tmps := #[.pointer (some ⟨b, 0, none⟩), .slice A len cap, .pointer (some ⟨w.heap.size, 0, none⟩), undef, .slice A len len, undef, undef, undef, undef, .slice A len cap, .func (.func 117) #[] #[.pointer (some ⟨w.heap.size + 1, 0, none⟩), .pointer (some ⟨w.heap.size + 1 + 1, 0, none⟩)], .slice A len len, undef, undef, undef, undef, undef, undef, undef, undef, undef, undef, undef, undef, undef, undef, undef, undef, undef, undef, undef, undef, undef, undef, undef, undef, undef, undef, undef, undef, undef, undef, undef, undef, undef], defers := [] }) ?assign ?body ?done ?stop
  case assign =>
    intro l x W K hK
    gi_wp2
    exact hK
  case body =>
    rintro l pre x W ⟨hcW, hhW⟩ hlen
    obtain rfl : pre = [] := by cases pre with | nil => rfl | cons a r => simp at hlen
    rw [if_pos rfl] at hhW
    have hmx : Tryz.prog.follows .mixedOrders = true := by kernel_rfl
    have hnb : w.heap.size ≠ b := by omega
    have hbW := Blk.chg hbox1 hcW hnb
    have HHW := keepf hhW
    have HBW := keepf hbW
    have c0 := hhW.cell 0
    have c1 := hhW.cell 1
    have cb := hbW.cell 0
    have f0 := hhW.frozen 0
    have f1 := hhW.frozen 1
    simp at c0 c1 cb
    have HSW := keepf (Src.chg hS1 hcW hne (by rw [hS1.1]; omega))
    have HST := keepf hst
    have HCW := keepf hcW
    have H00 := keepf h00
    have HBY := keepf hby
    have HL := keepf hl
    have HNE := keepf hne
    clear hhW hbW hst hcW h00 hby hl hne hS1 hn1 hs1 hbox1 hb1 hc0
    gi_wp2
    refine wpIn_mono (Q := fun e a' w' => e = .normal ∧ a' = { tmps := #[.pointer (some ⟨b, 0, none⟩), .slice A len cap, .pointer (some ⟨w.heap.size, 0, none⟩), undef, .slice A len len, .int .u64 lo, .int .u64 hi, undef, undef, .slice A len cap, .func (.func 117) #[] #[.pointer (some ⟨w.heap.size + 1, 0, none⟩), .pointer (some ⟨w.heap.size + 1 + 1, 0, none⟩)], .slice A len len, .pointer (some ⟨b, 0, none⟩), .pointer (some ⟨b, 0, none⟩), .pointer (some ⟨b, 0, none⟩), .int .u64 lo, .pointer (some ⟨b, 0, none⟩), .pointer (some ⟨b, 0, none⟩), .pointer (some ⟨b, 1, none⟩), .int .u64 hi, undef, undef, undef, undef, undef, undef, undef, undef, undef, undef, undef, undef, undef, undef, undef, undef, undef, undef, undef, undef, undef, undef, undef, undef, undef], defers := [] } ∧ w' = W.drew) (region_round (S := fun wS => wS.cell? ⟨w.heap.size, 0, none⟩ = some (.pointer (some ⟨b, 0, none⟩)) ∧ wS.cell? ⟨b, 0, none⟩ = some (.int .u64 lo) ∧ wS.cell? ⟨b, 1, none⟩ = some (.int .u64 hi)) (R := fun a' w' => a' = { tmps := #[.pointer (some ⟨b, 0, none⟩), .slice A len cap, .pointer (some ⟨w.heap.size, 0, none⟩), undef, .slice A len len, .int .u64 lo, .int .u64 hi, undef, undef, .slice A len cap, .func (.func 117) #[] #[.pointer (some ⟨w.heap.size + 1, 0, none⟩), .pointer (some ⟨w.heap.size + 1 + 1, 0, none⟩)], .slice A len len, .pointer (some ⟨b, 0, none⟩), .pointer (some ⟨b, 0, none⟩), .pointer (some ⟨b, 0, none⟩), .int .u64 lo, .pointer (some ⟨b, 0, none⟩), .pointer (some ⟨b, 0, none⟩), .pointer (some ⟨b, 1, none⟩), .int .u64 hi, undef, undef, undef, undef, undef, undef, undef, undef, undef, undef, undef, undef, undef, undef, undef, undef, undef, undef, undef, undef, undef, undef, undef, undef, undef], defers := [] } ∧ w' = W.drew) hmx (by kernel_rfl) ?reg) ?rest
    case reg =>
      have hHeld : W.drew.cell? ⟨w.heap.size, 0, none⟩ = some (.pointer (some ⟨b, 0, none⟩)) ∧ W.drew.cell? ⟨b, 0, none⟩ = some (.int .u64 lo) ∧ W.drew.cell? ⟨b, 1, none⟩ = some (.int .u64 hi) := ⟨cb, c0, c1⟩
      refine wpAnyH_take (i := 0) (oi := { dst := some 12, op := Go.Op.load 140 (Go.Operand.tmp 2), type := 140, pos := _, after := _, guard := none }) (v := ?_) rfl (by kernel_rfl) (by kernel_rfl) (by kernel_rfl) (fun _ _ _ h => by cases h.1) (Or.inl ⟨by rfl, ?_⟩) (by assumption) ?_
      rotate_left
      · intro w hSw; (try dsimp only at hSw); (first | (go_simp; done) | (go_simp; with_reducible rfl))
      try simp only [Act.put, List.setIfInBounds_toArray, List.set_cons_zero, List.set_cons_succ]
      refine wpAnyH_take (i := 1) (oi := { dst := some 13, op := Go.Op.nilCheck (Go.Operand.tmp 12), type := 0, pos := _, after := _, guard := none }) (v := ?_) rfl (by kernel_rfl) (by kernel_rfl) (by kernel_rfl) (fun _ _ _ h => by cases h.1) (Or.inl ⟨by rfl, ?_⟩) (by assumption) ?_
      rotate_left
      · intro w hSw; (try dsimp only at hSw); (first | (go_simp; done) | (go_simp; with_reducible rfl))
      try simp only [Act.put, List.setIfInBounds_toArray, List.set_cons_zero, List.set_cons_succ]
      refine wpAnyH_take (i := 2) (oi := { dst := some 14, op := Go.Op.fieldAddr 80 (Go.Operand.tmp 13) 0, type := 0, pos := _, after := _, guard := none }) (v := ?_) rfl (by kernel_rfl) (by kernel_rfl) (by kernel_rfl) (fun _ _ _ h => by cases h.1) (Or.inl ⟨by rfl, ?_⟩) (by assumption) ?_
      rotate_left
      · intro w hSw; (try dsimp only at hSw); (first | (go_simp; done) | (go_simp; with_reducible rfl))
      try simp only [Act.put, List.setIfInBounds_toArray, List.set_cons_zero, List.set_cons_succ]
      refine wpAnyH_take (i := 3) (oi := { dst := some 15, op := Go.Op.load 78 (Go.Operand.tmp 14), type := 78, pos := _, after := _, guard := none }) (v := ?_) rfl (by kernel_rfl) (by kernel_rfl) (by kernel_rfl) (fun _ _ _ h => by cases h.1) (Or.inl ⟨by rfl, ?_⟩) (by assumption) ?_
      rotate_left
      · intro w hSw; (try dsimp only at hSw); (first | (go_simp; done) | (go_simp; with_reducible rfl))
      try simp only [Act.put, List.setIfInBounds_toArray, List.set_cons_zero, List.set_cons_succ]
      refine wpAnyH_take (i := 4) (oi := { dst := some 16, op := Go.Op.load 140 (Go.Operand.tmp 2), type := 140, pos := _, after := _, guard := none }) (v := ?_) rfl (by kernel_rfl) (by kernel_rfl) (by kernel_rfl) (fun _ _ _ h => by cases h.1) (Or.inl ⟨by rfl, ?_⟩) (by assumption) ?_
      rotate_left
      · intro w hSw; (try dsimp only at hSw); (first | (go_simp; done) | (go_simp; with_reducible rfl))
      try simp only [Act.put, List.setIfInBounds_toArray, List.set_cons_zero, List.set_cons_succ]
      refine wpAnyH_take (i := 5) (oi := { dst := some 17, op := Go.Op.nilCheck (Go.Operand.tmp 16), type := 0, pos := _, after := _, guard := none }) (v := ?_) rfl (by kernel_rfl) (by kernel_rfl) (by kernel_rfl) (fun _ _ _ h => by cases h.1) (Or.inl ⟨by rfl, ?_⟩) (by assumption) ?_
      rotate_left
      · intro w hSw; (try dsimp only at hSw); (first | (go_simp; done) | (go_simp; with_reducible rfl))
      try simp only [Act.put, List.setIfInBounds_toArray, List.set_cons_zero, List.set_cons_succ]
      refine wpAnyH_take (i := 6) (oi := { dst := some 18, op := Go.Op.fieldAddr 80 (Go.Operand.tmp 17) 1, type := 0, pos := _, after := _, guard := none }) (v := ?_) rfl (by kernel_rfl) (by kernel_rfl) (by kernel_rfl) (fun _ _ _ h => by cases h.1) (Or.inl ⟨by rfl, ?_⟩) (by assumption) ?_
      rotate_left
      · intro w hSw; (try dsimp only at hSw); (first | (go_simp; done) | (go_simp; with_reducible rfl))
      try simp only [Act.put, List.setIfInBounds_toArray, List.set_cons_zero, List.set_cons_succ]
      refine wpAnyH_take (i := 7) (oi := { dst := some 19, op := Go.Op.load 78 (Go.Operand.tmp 18), type := 78, pos := _, after := _, guard := none }) (v := ?_) rfl (by kernel_rfl) (by kernel_rfl) (by kernel_rfl) (fun _ _ _ h => by cases h.1) (Or.inl ⟨by rfl, ?_⟩) (by assumption) ?_
      rotate_left
      · intro w hSw; (try dsimp only at hSw); (first | (go_simp; done) | (go_simp; with_reducible rfl))
      try simp only [Act.put, List.setIfInBounds_toArray, List.set_cons_zero, List.set_cons_succ]
      refine wpAnyH_take (i := 8) (oi := { dst := some 5, op := Go.Op.assign (Go.Operand.tmp 15), type := 78, pos := _, after := _, guard := none }) (v := ?_) rfl (by kernel_rfl) (by kernel_rfl) (by kernel_rfl) (fun _ _ _ h => by cases h.1) (Or.inl ⟨by rfl, ?_⟩) (by assumption) ?_
      rotate_left
      · intro w hSw; (try dsimp only at hSw); (first | (go_simp; done) | (go_simp; with_reducible rfl))
      try simp only [Act.put, List.setIfInBounds_toArray, List.set_cons_zero, List.set_cons_succ]
      refine wpAnyH_take (i := 9) (oi := { dst := some 6, op := Go.Op.assign (Go.Operand.tmp 19), type := 78, pos := _, after := _, guard := none }) (v := ?_) rfl (by kernel_rfl) (by kernel_rfl) (by kernel_rfl) (fun _ _ _ h => by cases h.1) (Or.inl ⟨by rfl, ?_⟩) (by assumption) ?_
      rotate_left
      · intro w hSw; (try dsimp only at hSw); (first | (go_simp; done) | (go_simp; with_reducible rfl))
      try simp only [Act.put, List.setIfInBounds_toArray, List.set_cons_zero, List.set_cons_succ]
      refine wpAnyH_done (by kernel_rfl) ?_ _
      exact ⟨rfl, rfl, rfl⟩
    rintro e a' w' ⟨rfl, rfl, rfl⟩
    gi_wp2
    gi_loopw [5, 6, 22] (fun vl vh vi wr => ∃ k : Nat, k ≤ len ∧ vl = .int .u64 ((acc (lo, hi) (bs.take k)).1 : Nat) ∧ vh = .int .u64 ((acc (lo, hi) (bs.take k)).2 : Nat) ∧ vi = .int .i64 (k : Nat) ∧ wr = W.drew)
      (fun _ _ vi _ => len - (intOf vi).toNat)
    case atStart => exact ⟨0, Nat.zero_le _, by simp [acc], by simp [acc], rfl, rfl⟩
    case round =>
      obtain ⟨k, hk, rfl, rfl, rfl, rfl⟩ := hrel
      by_cases hlt : k < len
      · have hxk : ∃ y, bs[k]? = some y := ⟨_, List.getElem?_eq_getElem (by rw [HL.out]; exact hlt)⟩
        obtain ⟨y, hy⟩ := hxk
        have hy256 : y < 256 := HBY.out y (List.mem_of_getElem? hy)
        obtain ⟨ba, off, hAe, hcell⟩ := HSW.out.plain (by simp [ucells, HL.out]; omega)
        have hcy : W.cell? ⟨ba, off + k, none⟩ = some (.int .u8 (y : Nat)) := hcell k _ (by simp [ucells, hy])
        clear hcell
        have htk : bs.take (k + 1) = bs.take k ++ [y] := by rw [List.take_add_one, hy]; rfl
        have hb1 := acc_le1 (bs.take k) (lo, hi) (fun b hb => HBY.out b (List.mem_of_mem_take hb))
        have hb2 := acc_le2 (bs.take k) (lo, hi) 267452401 (fun b hb => HBY.out b (List.mem_of_mem_take hb)) (by rw [List.length_take, HL.out]; show lo + _ + 1 ≤ _; omega)
        rw [List.length_take, HL.out, Nat.min_eq_left hk] at hb1 hb2
        have hs1 : (acc (lo, hi) (bs.take (k + 1))).1 = (acc (lo, hi) (bs.take k)).1 + y := by rw [htk, acc_snoc]; rfl
        have hs2 : (acc (lo, hi) (bs.take (k + 1))).2 = (acc (lo, hi) (bs.take k)).2 + ((acc (lo, hi) (bs.take k)).1 + y + 1) := by rw [htk, acc_snoc]; rfl
        have HS1 := keepf hs1
        have HS2 := keepf hs2
        clear hs1 hs2 htk
        subst hAe
        simp only at hb1 hb2
        generalize (acc (lo, hi) (bs.take k)).1 = L at *
        generalize (acc (lo, hi) (bs.take k)).2 = H at *
        gi_wp2
        go_roundw
        case rel => exact ⟨k + 1, by omega, by rw [HS1.out]; go_num, by rw [HS2.out]; go_num, by go_num, trivial⟩
        case measure => simp [intOf]; omega
      · obtain rfl : k = len := by omega
        rw [List.take_of_length_le (by rw [HL.out]; exact Nat.le_refl _)]
        have hb1 := acc_le1 bs (lo, hi) HBY.out
        have hb2 := acc_le2 bs (lo, hi) 267452401 HBY.out (by rw [HL.out]; show lo + _ + 1 ≤ _; omega)
        rw [HL.out] at hb1 hb2
        simp only at hb1 hb2
        obtain ⟨L, hLe⟩ : ∃ L, (acc (lo, hi) bs).1 = L := ⟨_, rfl⟩
        obtain ⟨H, hHe⟩ : ∃ H, (acc (lo, hi) bs).2 = H := ⟨_, rfl⟩
        rw [hLe] at hb1 ⊢
        rw [hHe] at hb2 ⊢
        have HLe := keepf hLe
        have HHe := keepf hHe
        clear hLe hHe
        gi_wp2
        refine wpIn_mono (Q := fun e a' w' => e = .normal ∧ w' = (W.drew.drew.setCell ⟨b, 0, none⟩ (.int .u64 (L % 65521 : Nat))).setCell ⟨b, 1, none⟩ (.int .u64 (H % 65521 : Nat))) (region_round (S := fun wS => wS.cell? ⟨w.heap.size, 0, none⟩ = some (.pointer (some ⟨b, 0, none⟩))) (R := fun a' w' => w' = (W.drew.drew.setCell ⟨b, 0, none⟩ (.int .u64 (L % 65521 : Nat))).setCell ⟨b, 1, none⟩ (.int .u64 (H % 65521 : Nat))) hmx (by kernel_rfl) ?reg10) ?rest10
        case reg10 =>
          have hHeld : W.drew.drew.cell? ⟨w.heap.size, 0, none⟩ = some (.pointer (some ⟨b, 0, none⟩)) := cb
          have hnb' : b ≠ w.heap.size := fun h => hnb h.symm
          have hLm : (L : Int).tmod 65521 = ((L % 65521 : Nat) : Int) := by rw [Int.tmod_eq_emod_of_nonneg (by omega)]; simp
          have hHm : (H : Int).tmod 65521 = ((H % 65521 : Nat) : Int) := by rw [Int.tmod_eq_emod_of_nonneg (by omega)]; simp
          refine wpAnyH_take (i := 0) (oi := { dst := some 35, op := Go.Op.load 140 (Go.Operand.tmp 2), type := 140, pos := _, after := _, guard := none }) (v := ?_) rfl (by kernel_rfl) (by kernel_rfl) (by kernel_rfl) (fun _ _ _ h => h) (Or.inl ⟨by rfl, ?_⟩) (by assumption) ?_
          rotate_left
          · intro w hSw; (try dsimp only at hSw); (first | (go_simp; done) | (go_simp; with_reducible rfl))
          try simp only [Act.put, List.setIfInBounds_toArray, List.set_cons_zero, List.set_cons_succ]
          refine wpAnyH_take (i := 1) (oi := { dst := some 36, op := Go.Op.load 140 (Go.Operand.tmp 2), type := 140, pos := _, after := _, guard := none }) (v := ?_) rfl (by kernel_rfl) (by kernel_rfl) (by kernel_rfl) (fun _ _ _ h => h) (Or.inl ⟨by rfl, ?_⟩) (by assumption) ?_
          rotate_left
          · intro w hSw; (try dsimp only at hSw); (first | (go_simp; done) | (go_simp; with_reducible rfl))
          try simp only [Act.put, List.setIfInBounds_toArray, List.set_cons_zero, List.set_cons_succ]
          refine wpAnyH_take (i := 2) (oi := { dst := some 37, op := Go.Op.move (Go.Operand.tmp 5), type := 78, pos := _, after := _, guard := none }) (v := ?_) rfl (by kernel_rfl) (by kernel_rfl) (by kernel_rfl) (fun _ _ _ h => h) (Or.inl ⟨by rfl, ?_⟩) (by assumption) ?_
          rotate_left
          · intro w hSw; (try dsimp only at hSw); (first | (go_simp; done) | (go_simp; with_reducible rfl))
          try simp only [Act.put, List.setIfInBounds_toArray, List.set_cons_zero, List.set_cons_succ]
          refine wpAnyH_take (i := 3) (oi := { dst := some 38, op := Go.Op.binOp Go.BinOp.rem 78 (Go.Operand.tmp 37) (Go.Operand.const (Go.Value.int Go.IntKind.u64 65521)) 78, type := 78, pos := _, after := _, guard := none }) (v := ?_) rfl (by kernel_rfl) (by kernel_rfl) (by kernel_rfl) (fun _ _ _ h => h) (Or.inl ⟨by rfl, ?_⟩) (by assumption) ?_
          rotate_left
          · intro w hSw; (try dsimp only at hSw); (first | (go_simp; done) | (go_simp; with_reducible rfl))
          try simp only [Act.put, List.setIfInBounds_toArray, List.set_cons_zero, List.set_cons_succ]
          refine wpAnyH_take (i := 4) (oi := { dst := some 39, op := Go.Op.move (Go.Operand.tmp 6), type := 78, pos := _, after := _, guard := none }) (v := ?_) rfl (by kernel_rfl) (by kernel_rfl) (by kernel_rfl) (fun _ _ _ h => h) (Or.inl ⟨by rfl, ?_⟩) (by assumption) ?_
          rotate_left
          · intro w hSw; (try dsimp only at hSw); (first | (go_simp; done) | (go_simp; with_reducible rfl))
          try simp only [Act.put, List.setIfInBounds_toArray, List.set_cons_zero, List.set_cons_succ]
          refine wpAnyH_take (i := 5) (oi := { dst := some 40, op := Go.Op.binOp Go.BinOp.rem 78 (Go.Operand.tmp 39) (Go.Operand.const (Go.Value.int Go.IntKind.u64 65521)) 78, type := 78, pos := _, after := _, guard := none }) (v := ?_) rfl (by kernel_rfl) (by kernel_rfl) (by kernel_rfl) (fun _ _ _ h => h) (Or.inl ⟨by rfl, ?_⟩) (by assumption) ?_
          rotate_left
          · intro w hSw; (try dsimp only at hSw); (first | (go_simp; done) | (go_simp; with_reducible rfl))
          try simp only [Act.put, List.setIfInBounds_toArray, List.set_cons_zero, List.set_cons_succ]
          refine wpAnyH_take (i := 6) (oi := { dst := some 41, op := Go.Op.nilCheck (Go.Operand.tmp 35), type := 0, pos := _, after := _, guard := none }) (v := ?_) rfl (by kernel_rfl) (by kernel_rfl) (by kernel_rfl) (fun _ _ _ h => h) (Or.inl ⟨by rfl, ?_⟩) (by assumption) ?_
          rotate_left
          · intro w hSw; (try dsimp only at hSw); (first | (go_simp; done) | (go_simp; with_reducible rfl))
          try simp only [Act.put, List.setIfInBounds_toArray, List.set_cons_zero, List.set_cons_succ]
          refine wpAnyH_take (i := 7) (oi := { dst := some 42, op := Go.Op.fieldAddr 80 (Go.Operand.tmp 41) 0, type := 0, pos := _, after := _, guard := none }) (v := ?_) rfl (by kernel_rfl) (by kernel_rfl) (by kernel_rfl) (fun _ _ _ h => h) (Or.inl ⟨by rfl, ?_⟩) (by assumption) ?_
          rotate_left
          · intro w hSw; (try dsimp only at hSw); (first | (go_simp; done) | (go_simp; with_reducible rfl))
          try simp only [Act.put, List.setIfInBounds_toArray, List.set_cons_zero, List.set_cons_succ]
          refine wpAnyH_ready (rs := [8]) (by kernel_rfl) (by simp) ?_
          refine AllReadyH.cons (o := { dst := none, op := Go.Op.store 78 (Go.Operand.tmp 42) (Go.Operand.tmp 38), type := 0, pos := _, after := _, guard := none }) rfl (fun K hK => ?_) AllReadyH.nil
          go_simp
          skip
          refine hK.out _ _ (by change World.cell? (World.setCell W _ _) _ = _; rw [World.cell?_setCell_far _ _ _ _ hnb']; exact cb) (fun hHeld => ?_)
          clear hK K
          try simp only [Act.put, List.setIfInBounds_toArray, List.set_cons_zero, List.set_cons_succ]
          refine wpAnyH_take (i := 9) (oi := { dst := some 43, op := Go.Op.nilCheck (Go.Operand.tmp 36), type := 0, pos := _, after := _, guard := none }) (v := ?_) rfl (by kernel_rfl) (by kernel_rfl) (by kernel_rfl) (fun _ _ _ h => h) (Or.inl ⟨by rfl, ?_⟩) (by assumption) ?_
          rotate_left
          · intro w hSw; (try dsimp only at hSw); (first | (go_simp; done) | (go_simp; with_reducible rfl))
          try simp only [Act.put, List.setIfInBounds_toArray, List.set_cons_zero, List.set_cons_succ]
          refine wpAnyH_take (i := 10) (oi := { dst := some 44, op := Go.Op.fieldAddr 80 (Go.Operand.tmp 43) 1, type := 0, pos := _, after := _, guard := none }) (v := ?_) rfl (by kernel_rfl) (by kernel_rfl) (by kernel_rfl) (fun _ _ _ h => h) (Or.inl ⟨by rfl, ?_⟩) (by assumption) ?_
          rotate_left
          · intro w hSw; (try dsimp only at hSw); (first | (go_simp; done) | (go_simp; with_reducible rfl))
          try simp only [Act.put, List.setIfInBounds_toArray, List.set_cons_zero, List.set_cons_succ]
          refine wpAnyH_ready (rs := [11]) (by kernel_rfl) (by simp) ?_
          refine AllReadyH.cons (o := { dst := none, op := Go.Op.store 78 (Go.Operand.tmp 44) (Go.Operand.tmp 40), type := 0, pos := _, after := _, guard := none }) rfl (fun K hK => ?_) AllReadyH.nil
          go_simp
          skip
          refine hK.out _ _ (by change World.cell? (World.setCell (World.setCell W _ _) _ _) _ = _; rw [World.cell?_setCell_far _ _ _ _ hnb', World.cell?_setCell_far _ _ _ _ hnb']; exact cb) (fun hHeld => ?_)
          clear hK K
          try simp only [Act.put, List.setIfInBounds_toArray, List.set_cons_zero, List.set_cons_succ]
          refine wpAnyH_done (by kernel_rfl) ?_ _
          exact ⟨rfl, rfl⟩
        rintro e a' w' ⟨rfl, rfl⟩
        have hne' : ∀ k, w.heap.size ≤ k → k < w.heap.size + 3 → k ≠ b := fun k h1 h2 => by omega
        have hB := ((Blk.drew (Blk.drew HHW.out)).set_ 0 (.int .u64 (L % 65521 : Nat))).set_ 1 (.int .u64 (H % 65521 : Nat))
        refine ⟨(((KeepsOthers.drew W).trans (KeepsOthers.drew _)).trans ((KeepsOthers.setCell _ _ _).trans (KeepsOthers.setCell _ _ _))).from _, fun k h1 h2 => ?_, ((HCW.out.drew.drew).setCell (p := ⟨b, 0, none⟩) (fun _ => rfl) _).setCell (p := ⟨b, 1, none⟩) (fun _ => rfl) _, ?_⟩
        · rw [Below.heap_setCell _ _ _ _ (hne' k h1 h2), Below.heap_setCell _ _ _ _ (hne' k h1 h2)]
          rfl
        · rw [if_neg (by simp), HLe.out, HHe.out]
          exact hB
  case done =>
    rintro D xs W hD rfl ⟨hcW, hhW⟩ hK
    gi_wp2
    refine ⟨by simp, .inl ⟨_, _, rfl, run_takeDeferred hK, ?_⟩⟩
    have hD' : w0.heap.size ≤ D := hD
    have hg := grownBy_putObj' W D (.deferred none)
    have hcD : Chg (fun i => i = b) w (W.putObj D (.deferred none)) := (hc0.trans hcW (fun i _ h => h)).grown hg (fun k e hk => by cases e; omega)
    refine ⟨_, results_none rfl _ _ _, rfl, ?_, hcD⟩
    rcases Nat.eq_zero_or_pos len with h0 | h0
    · obtain rfl : bs = [] := List.eq_nil_of_length_eq_zero (by omega)
      rw [if_pos (by unfold pieces; rw [if_pos h0])] at hhW
      have := Blk.grown hhW hg (by intro e; cases e; omega)
      simpa [acc, Halves, Nat.mod_eq_of_lt hlo, Nat.mod_eq_of_lt hhi] using this
    · rw [if_neg (by unfold pieces; rw [if_neg (by omega)]; simp)] at hhW
      exact Blk.grown hhW hg (by intro e; cases e; omega)
  case stop =>
    rintro D c pre W _ _ h _
    exact h.elim
end Go.Proofs.YtmmilchmnimjoaaGreat
