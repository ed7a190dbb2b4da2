/- What take of two halves does. -/
import Derived.Test.YtgfdinclhakjhaaChunk
import Derived.Test.YtgfdinclhakjhaaAd
import Derived.Test.YtgfdinclhakjhaaRound
namespace Go.Proofs.Ytgfdinclhakjhaa
open Go.RowKit Go.Shelf
set_option linter.unusedVariables false
attribute [local go_sem] Oper.semAt_some

/-- The sum at b has these halves, and so many bytes. -/
def Halves (w : World) (b lo hi : Nat) (n : Int) : Prop := Blk w b 33 #[.int .u64 lo, .int .u64 hi, .int .i64 n]

/-- Between the pieces. -/
def TakeInv (w0 : World) (b lo hi : Nat) (n : Int) (bs : List Nat) (pre : List Unit) (W : World) : Prop :=
  Chg (fun i => i = b) w0 W ∧ if pre = [] then Halves W b lo hi n else Halves W b ((acc (lo, hi) bs).1 % 65521) ((acc (lo, hi) bs).2 % 65521) n

theorem takeInv_own (w0 : World) (b lo hi : Nat) (n : Int) (bs : List Nat) (hb : b < w0.heap.size) : OwnFrom w0.heap.size (TakeInv w0 b lo hi n bs) := by
  rintro pre W W' row ⟨hc, hh⟩ hg hr
  have hr' : some b ≠ row := fun e => by have := (hr b e.symm).1; omega
  refine ⟨hc.grown hg (fun k e hk => by have := (hr k e).1; omega), ?_⟩
  split at hh <;> rename_i hp
  · rw [if_pos hp]; exact Blk.grown hh hg hr'
  · rw [if_neg hp]; exact Blk.grown hh hg hr'

set_option maxRecDepth 100000 in
set_option maxHeartbeats 4000000 in
theorem take_in (w : World) (b lo hi : Nat) (n : Int) (A : Option Addr) (len cap : Nat) (bs : List Nat) (hb : Halves w b lo hi n) (hlo : lo < 65521) (hhi : hi < 65521)
    (hS : Src w 1 A len cap (ucells bs)) (hl : bs.length = len) (hm : len ≤ 1048576) (hlc : len ≤ cap) (hby : ∀ x ∈ bs, x < 256) (hne : ∀ a, A = some a → 0 < len → a.block ≠ b) :
    CallsIn Fence.wide 9 Try.prog 16 #[.pointer (some ⟨b, 0, none⟩), .slice A len cap] w fun e w' =>
      e = .returned (.tuple #[]) ∧ Halves w' b ((acc (lo, hi) bs).1 % 65521) ((acc (lo, hi) bs).2 % 65521) n ∧ Chg (fun i => i = b) w w' := by
  have hbl : b < w.heap.size := Blk.lt hb
  refine callsIn_of_wp_marks Try.func16 rfl trivial ?_ rfl
  simp only [Try.ntmps16, List.size_toArray, List.length_cons, List.length_nil, Nat.reduceAdd, Nat.reduceSub, Array.replicate_succ, Array.replicate_zero, List.push_toArray, List.append_toArray, List.nil_append, List.cons_append]
  gi_wp2_with (refine ⟨trivial, ?_⟩; gi_at_call 18; refine (chunk_any _ _ _ _).mono ?_; rintro e w' ⟨rfl, rfl⟩)
  have hbox := Blk.new w 47 #[.pointer (some ⟨b, 0, none⟩)]
  have hsz : ((((w.alloc (.cells #[.pointer (some ⟨b, 0, none⟩)] 47)).alloc (.cells #[.slice A len cap] 22)).alloc (.cells #[.int .i64 1048576] 3))).heap.size = w.heap.size + 3 := by simp
  have hc0 : Chg (fun i => i = b) w (((w.alloc (.cells #[.pointer (some ⟨b, 0, none⟩)] 47)).alloc (.cells #[.slice A len cap] 22)).alloc (.cells #[.int .i64 1048576] 3)) := (((Chg.refl _ w).alloc _).alloc _).alloc _
  have hb1 : Halves (((w.alloc (.cells #[.pointer (some ⟨b, 0, none⟩)] 47)).alloc (.cells #[.slice A len cap] 22)).alloc (.cells #[.int .i64 1048576] 3)) b lo hi n := Blk.alloc (Blk.alloc (Blk.alloc hb _) _) _
  have hbox1 := (hbox.alloc (.cells #[.slice A len cap] 22)).alloc (.cells #[.int .i64 1048576] 3)
  have hs1 := (Blk.new (w.alloc (.cells #[.pointer (some ⟨b, 0, none⟩)] 47)) 22 #[.slice A len cap]).alloc (.cells #[.int .i64 1048576] 3)
  have hn1 := Blk.new ((w.alloc (.cells #[.pointer (some ⟨b, 0, none⟩)] 47)).alloc (.cells #[.slice A len cap] 22)) 3 #[.int .i64 1048576]
  have hS1 : Src (((w.alloc (.cells #[.pointer (some ⟨b, 0, none⟩)] 47)).alloc (.cells #[.slice A len cap] 22)).alloc (.cells #[.int .i64 1048576] 3)) 1 A len cap (ucells bs) := Src.below (w0 := w) hS ((((Chg.refl _ w).alloc _).alloc _).alloc _)
  simp only [World.size_alloc] at hs1 hn1
  clear hbox hb hS
  obtain ⟨w0, hw0⟩ : ∃ w0, ((w.alloc (.cells #[.pointer (some ⟨b, 0, none⟩)] 47)).alloc (.cells #[.slice A len cap] 22)).alloc (.cells #[.int .i64 1048576] 3) = w0 := ⟨_, rfl⟩
  rw [hw0] at hsz hc0 hb1 hbox1 hs1 hn1 hS1 ⊢
  clear hw0
  have h00 : TakeInv w0 b lo hi n bs [] w0 := ⟨Chg.refl _ _, by rw [if_pos rfl]; exact hb1⟩
  have hst := chunk_stops w0 w.heap.size (w.heap.size + 3) (w.heap.size + 1) (w.heap.size + 1 + 1) len cap A hm hlc (by
    intro h0
    obtain ⟨b, off, h, _⟩ := hS1.plain (by simpa [ucells, hl] using h0)
    exact ⟨b, off, h⟩) (by omega) (by omega) (by omega) (by omega) (by omega) (hs1.cell 0) (hn1.cell 0)
  refine wpIn_rangeFunc_ownG (gf := 19) (lb := #[.pointer (some ⟨w.heap.size + 1, 0, none⟩), .pointer (some ⟨w.heap.size + 1 + 1, 0, none⟩)]) rfl (by omega) rfl trivial (enters_of Try.func19 (by kernel_rfl) rfl) hst (fun h k => h.trans k) (fun W l o o' hl' => kept_put (B := w0.heap.size) (by omega) W l o o' hl') (Below.refl _ _) (fun _ => rfl)
    (TakeInv w0 b lo hi n bs) (fun _ _ _ => False) (takeInv_own w0 b lo hi n bs (by omega)) (fun _ _ _ _ _ hs _ _ => hs) h00
    (fun x => { tmps := #[.pointer (some ⟨b, 0, none⟩), .slice A len cap, .pointer (some ⟨w.heap.size, 0, none⟩), undef, .slice A len len, undef, undef, undef, undef, .slice A len cap, .func (.func 19) #[] #[.pointer (some ⟨w.heap.size + 1, 0, none⟩), .pointer (some ⟨w.heap.size + 1 + 1, 0, none⟩)], .slice A len len, undef, undef, undef, undef, undef, undef, undef, undef, undef, undef, undef, undef, undef, undef, undef, undef, undef, undef, undef, undef, undef, undef, undef, undef, undef, undef, undef, undef, undef, undef, undef, undef, undef], defers := [] }) ?assign ?body ?done ?stop
  case assign =>
    intro l x W K hK
    gi_wp2
    exact hK
  case body =>
    rintro l pre x W ⟨hcW, hhW⟩ hlen
    obtain rfl : pre = [] := by cases pre with | nil => rfl | cons a r => simp at hlen
    rw [if_pos rfl] at hhW
    have hmx : Try.prog.follows .mixedOrders = true := by kernel_rfl
    have hnb : w.heap.size ≠ b := by omega
    have hbW := Blk.chg hbox1 hcW hnb
    have HHW := keepf hhW
    have HBW := keepf hbW
    have c0 := hhW.cell 0
    have c1 := hhW.cell 1
    have cb := hbW.cell 0
    have f0 := hhW.frozen 0
    have f1 := hhW.frozen 1
    simp at c0 c1 cb
    have HSW := keepf (Src.chg hS1 hcW hne (by rw [hS1.1]; omega))
    have HST := keepf hst
    have HCW := keepf hcW
    have H00 := keepf h00
    have HBY := keepf hby
    have HL := keepf hl
    have HNE := keepf hne
    clear hhW hbW hst hcW h00 hby hl hne hS1 hn1 hs1 hbox1 hb1 hc0
    gi_wp2
    refine wpIn_mono (Q := fun e a' w' => e = .normal ∧ a' = { tmps := #[.pointer (some ⟨b, 0, none⟩), .slice A len cap, .pointer (some ⟨w.heap.size, 0, none⟩), undef, .slice A len len, .int .u64 lo, .int .u64 hi, undef, undef, .slice A len cap, .func (.func 19) #[] #[.pointer (some ⟨w.heap.size + 1, 0, none⟩), .pointer (some ⟨w.heap.size + 1 + 1, 0, none⟩)], .slice A len len, .pointer (some ⟨b, 0, none⟩), .pointer (some ⟨b, 0, none⟩), .pointer (some ⟨b, 0, none⟩), .int .u64 lo, .pointer (some ⟨b, 0, none⟩), .pointer (some ⟨b, 0, none⟩), .pointer (some ⟨b, 1, none⟩), .int .u64 hi, undef, undef, undef, undef, undef, undef, undef, undef, undef, undef, undef, undef, undef, undef, undef, undef, undef, undef, undef, undef, undef, undef, undef, undef, undef], defers := [] } ∧ w' = W.drew) (region_round (S := fun wS => wS.cell? ⟨w.heap.size, 0, none⟩ = some (.pointer (some ⟨b, 0, none⟩)) ∧ wS.cell? ⟨b, 0, none⟩ = some (.int .u64 lo) ∧ wS.cell? ⟨b, 1, none⟩ = some (.int .u64 hi)) (R := fun a' w' => a' = { tmps := #[.pointer (some ⟨b, 0, none⟩), .slice A len cap, .pointer (some ⟨w.heap.size, 0, none⟩), undef, .slice A len len, .int .u64 lo, .int .u64 hi, undef, undef, .slice A len cap, .func (.func 19) #[] #[.pointer (some ⟨w.heap.size + 1, 0, none⟩), .pointer (some ⟨w.heap.size + 1 + 1, 0, none⟩)], .slice A len len, .pointer (some ⟨b, 0, none⟩), .pointer (some ⟨b, 0, none⟩), .pointer (some ⟨b, 0, none⟩), .int .u64 lo, .pointer (some ⟨b, 0, none⟩), .pointer (some ⟨b, 0, none⟩), .pointer (some ⟨b, 1, none⟩), .int .u64 hi, undef, undef, undef, undef, undef, undef, undef, undef, undef, undef, undef, undef, undef, undef, undef, undef, undef, undef, undef, undef, undef, undef, undef, undef, undef], defers := [] } ∧ w' = W.drew) hmx (by kernel_rfl) ?reg) ?rest
    case reg =>
      have hHeld : W.drew.cell? ⟨w.heap.size, 0, none⟩ = some (.pointer (some ⟨b, 0, none⟩)) ∧ W.drew.cell? ⟨b, 0, none⟩ = some (.int .u64 lo) ∧ W.drew.cell? ⟨b, 1, none⟩ = some (.int .u64 hi) := ⟨cb, c0, c1⟩
      refine wpAnyH_take (i := 0) (oi := { dst := some 12, op := Go.Op.load 47 (Go.Operand.tmp 2), type := 47, pos := _, after := _, guard := none }) (v := ?_) rfl (by kernel_rfl) (by kernel_rfl) (by kernel_rfl) (fun _ _ _ h => by cases h.1) (Or.inl ⟨by rfl, ?_⟩) (by assumption) ?_
      rotate_left
      · intro w hSw; (try dsimp only at hSw); (first | (go_simp; done) | (go_simp; with_reducible rfl))
      try simp only [Act.put, List.setIfInBounds_toArray, List.set_cons_zero, List.set_cons_succ]
      refine wpAnyH_take (i := 1) (oi := { dst := some 13, op := Go.Op.nilCheck (Go.Operand.tmp 12), type := 0, pos := _, after := _, guard := none }) (v := ?_) rfl (by kernel_rfl) (by kernel_rfl) (by kernel_rfl) (fun _ _ _ h => by cases h.1) (Or.inl ⟨by rfl, ?_⟩) (by assumption) ?_
      rotate_left
      · intro w hSw; (try dsimp only at hSw); (first | (go_simp; done) | (go_simp; with_reducible rfl))
      try simp only [Act.put, List.setIfInBounds_toArray, List.set_cons_zero, List.set_cons_succ]
      refine wpAnyH_take (i := 2) (oi := { dst := some 14, op := Go.Op.fieldAddr 31 (Go.Operand.tmp 13) 0, type := 0, pos := _, after := _, guard := none }) (v := ?_) rfl (by kernel_rfl) (by kernel_rfl) (by kernel_rfl) (fun _ _ _ h => by cases h.1) (Or.inl ⟨by rfl, ?_⟩) (by assumption) ?_
      rotate_left
      · intro w hSw; (try dsimp only at hSw); (first | (go_simp; done) | (go_simp; with_reducible rfl))
      try simp only [Act.put, List.setIfInBounds_toArray, List.set_cons_zero, List.set_cons_succ]
      refine wpAnyH_take (i := 3) (oi := { dst := some 15, op := Go.Op.load 29 (Go.Operand.tmp 14), type := 29, pos := _, after := _, guard := none }) (v := ?_) rfl (by kernel_rfl) (by kernel_rfl) (by kernel_rfl) (fun _ _ _ h => by cases h.1) (Or.inl ⟨by rfl, ?_⟩) (by assumption) ?_
      rotate_left
      · intro w hSw; (try dsimp only at hSw); (first | (go_simp; done) | (go_simp; with_reducible rfl))
      try simp only [Act.put, List.setIfInBounds_toArray, List.set_cons_zero, List.set_cons_succ]
      refine wpAnyH_take (i := 4) (oi := { dst := some 16, op := Go.Op.load 47 (Go.Operand.tmp 2), type := 47, pos := _, after := _, guard := none }) (v := ?_) rfl (by kernel_rfl) (by kernel_rfl) (by kernel_rfl) (fun _ _ _ h => by cases h.1) (Or.inl ⟨by rfl, ?_⟩) (by assumption) ?_
      rotate_left
      · intro w hSw; (try dsimp only at hSw); (first | (go_simp; done) | (go_simp; with_reducible rfl))
      try simp only [Act.put, List.setIfInBounds_toArray, List.set_cons_zero, List.set_cons_succ]
      refine wpAnyH_take (i := 5) (oi := { dst := some 17, op := Go.Op.nilCheck (Go.Operand.tmp 16), type := 0, pos := _, after := _, guard := none }) (v := ?_) rfl (by kernel_rfl) (by kernel_rfl) (by kernel_rfl) (fun _ _ _ h => by cases h.1) (Or.inl ⟨by rfl, ?_⟩) (by assumption) ?_
      rotate_left
      · intro w hSw; (try dsimp only at hSw); (first | (go_simp; done) | (go_simp; with_reducible rfl))
      try simp only [Act.put, List.setIfInBounds_toArray, List.set_cons_zero, List.set_cons_succ]
      refine wpAnyH_take (i := 6) (oi := { dst := some 18, op := Go.Op.fieldAddr 31 (Go.Operand.tmp 17) 1, type := 0, pos := _, after := _, guard := none }) (v := ?_) rfl (by kernel_rfl) (by kernel_rfl) (by kernel_rfl) (fun _ _ _ h => by cases h.1) (Or.inl ⟨by rfl, ?_⟩) (by assumption) ?_
      rotate_left
      · intro w hSw; (try dsimp only at hSw); (first | (go_simp; done) | (go_simp; with_reducible rfl))
      try simp only [Act.put, List.setIfInBounds_toArray, List.set_cons_zero, List.set_cons_succ]
      refine wpAnyH_take (i := 7) (oi := { dst := some 19, op := Go.Op.load 29 (Go.Operand.tmp 18), type := 29, pos := _, after := _, guard := none }) (v := ?_) rfl (by kernel_rfl) (by kernel_rfl) (by kernel_rfl) (fun _ _ _ h => by cases h.1) (Or.inl ⟨by rfl, ?_⟩) (by assumption) ?_
      rotate_left
      · intro w hSw; (try dsimp only at hSw); (first | (go_simp; done) | (go_simp; with_reducible rfl))
      try simp only [Act.put, List.setIfInBounds_toArray, List.set_cons_zero, List.set_cons_succ]
      refine wpAnyH_take (i := 8) (oi := { dst := some 5, op := Go.Op.assign (Go.Operand.tmp 15), type := 29, pos := _, after := _, guard := none }) (v := ?_) rfl (by kernel_rfl) (by kernel_rfl) (by kernel_rfl) (fun _ _ _ h => by cases h.1) (Or.inl ⟨by rfl, ?_⟩) (by assumption) ?_
      rotate_left
      · intro w hSw; (try dsimp only at hSw); (first | (go_simp; done) | (go_simp; with_reducible rfl))
      try simp only [Act.put, List.setIfInBounds_toArray, List.set_cons_zero, List.set_cons_succ]
      refine wpAnyH_take (i := 9) (oi := { dst := some 6, op := Go.Op.assign (Go.Operand.tmp 19), type := 29, pos := _, after := _, guard := none }) (v := ?_) rfl (by kernel_rfl) (by kernel_rfl) (by kernel_rfl) (fun _ _ _ h => by cases h.1) (Or.inl ⟨by rfl, ?_⟩) (by assumption) ?_
      rotate_left
      · intro w hSw; (try dsimp only at hSw); (first | (go_simp; done) | (go_simp; with_reducible rfl))
      try simp only [Act.put, List.setIfInBounds_toArray, List.set_cons_zero, List.set_cons_succ]
      refine wpAnyH_done (by kernel_rfl) ?_ _
      exact ⟨rfl, rfl, rfl⟩
    rintro e a' w' ⟨rfl, rfl, rfl⟩
    gi_wp2
    gi_loopw [5, 6, 22] (fun vl vh vi wr => ∃ k : Nat, k ≤ len ∧ vl = .int .u64 ((acc (lo, hi) (bs.take k)).1 : Nat) ∧ vh = .int .u64 ((acc (lo, hi) (bs.take k)).2 : Nat) ∧ vi = .int .i64 (k : Nat) ∧ wr = W.drew)
      (fun _ _ vi _ => len - (intOf vi).toNat)
    case atStart => exact ⟨0, Nat.zero_le _, by simp [acc], by simp [acc], rfl, rfl⟩
    case round =>
      obtain ⟨k, hk, rfl, rfl, rfl, rfl⟩ := hrel
      by_cases hlt : k < len
      · have hxk : ∃ y, bs[k]? = some y := ⟨_, List.getElem?_eq_getElem (by rw [HL.out]; exact hlt)⟩
        obtain ⟨y, hy⟩ := hxk
        have hy256 : y < 256 := HBY.out y (List.mem_of_getElem? hy)
        obtain ⟨ba, off, hAe, hcell⟩ := HSW.out.plain (by simp [ucells, HL.out]; omega)
        have hcy : W.cell? ⟨ba, off + k, none⟩ = some (.int .u8 (y : Nat)) := hcell k _ (by simp [ucells, hy])
        clear hcell
        have htk : bs.take (k + 1) = bs.take k ++ [y] := by rw [List.take_add_one, hy]; rfl
        have hb1 := acc_le1 (bs.take k) (lo, hi) (fun b hb => HBY.out b (List.mem_of_mem_take hb))
        have hb2 := acc_le2 (bs.take k) (lo, hi) 267452401 (fun b hb => HBY.out b (List.mem_of_mem_take hb)) (by rw [List.length_take, HL.out]; show lo + _ + 1 ≤ _; omega)
        rw [List.length_take, HL.out, Nat.min_eq_left hk] at hb1 hb2
        have hs1 : (acc (lo, hi) (bs.take (k + 1))).1 = (acc (lo, hi) (bs.take k)).1 + y := by rw [htk, acc_snoc]; rfl
        have hs2 : (acc (lo, hi) (bs.take (k + 1))).2 = (acc (lo, hi) (bs.take k)).2 + ((acc (lo, hi) (bs.take k)).1 + y + 1) := by rw [htk, acc_snoc]; rfl
        have HS1 := keepf hs1
        have HS2 := keepf hs2
        clear hs1 hs2 htk
        subst hAe
        simp only at hb1 hb2
        generalize (acc (lo, hi) (bs.take k)).1 = L at *
        generalize (acc (lo, hi) (bs.take k)).2 = H at *
        gi_wp2
        go_roundw
        case rel => exact ⟨k + 1, by omega, by rw [HS1.out]; go_num, by rw [HS2.out]; go_num, by go_num, trivial⟩
        case measure => simp [intOf]; omega
      · obtain rfl : k = len := by omega
        rw [List.take_of_length_le (by rw [HL.out]; exact Nat.le_refl _)]
        have hb1 := acc_le1 bs (lo, hi) HBY.out
        have hb2 := acc_le2 bs (lo, hi) 267452401 HBY.out (by rw [HL.out]; show lo + _ + 1 ≤ _; omega)
        rw [HL.out] at hb1 hb2
        simp only at hb1 hb2
        obtain ⟨L, hLe⟩ : ∃ L, (acc (lo, hi) bs).1 = L := ⟨_, rfl⟩
        obtain ⟨H, hHe⟩ : ∃ H, (acc (lo, hi) bs).2 = H := ⟨_, rfl⟩
        rw [hLe] at hb1 ⊢
        rw [hHe] at hb2 ⊢
        have HLe := keepf hLe
        have HHe := keepf hHe
        clear hLe hHe
        gi_wp2
        refine wpIn_mono (Q := fun e a' w' => e = .normal ∧ w' = (W.drew.drew.setCell ⟨b, 0, none⟩ (.int .u64 (L % 65521 : Nat))).setCell ⟨b, 1, none⟩ (.int .u64 (H % 65521 : Nat))) (region_round (S := fun wS => wS.cell? ⟨w.heap.size, 0, none⟩ = some (.pointer (some ⟨b, 0, none⟩))) (R := fun a' w' => w' = (W.drew.drew.setCell ⟨b, 0, none⟩ (.int .u64 (L % 65521 : Nat))).setCell ⟨b, 1, none⟩ (.int .u64 (H % 65521 : Nat))) hmx (by kernel_rfl) ?reg10) ?rest10
        case reg10 =>
          have hHeld : W.drew.drew.cell? ⟨w.heap.size, 0, none⟩ = some (.pointer (some ⟨b, 0, none⟩)) := cb
          have hnb' : b ≠ w.heap.size := fun h => hnb h.symm
          have hLm : (L : Int).tmod 65521 = ((L % 65521 : Nat) : Int) := by rw [Int.tmod_eq_emod_of_nonneg (by omega)]; simp
          have hHm : (H : Int).tmod 65521 = ((H % 65521 : Nat) : Int) := by rw [Int.tmod_eq_emod_of_nonneg (by omega)]; simp
          refine wpAnyH_take (i := 0) (oi := { dst := some 35, op := Go.Op.load 47 (Go.Operand.tmp 2), type := 47, pos := _, after := _, guard := none }) (v := ?_) rfl (by kernel_rfl) (by kernel_rfl) (by kernel_rfl) (fun _ _ _ h => h) (Or.inl ⟨by rfl, ?_⟩) (by assumption) ?_
          rotate_left
          · intro w hSw; (try dsimp only at hSw); (first | (go_simp; done) | (go_simp; with_reducible rfl))
          try simp only [Act.put, List.setIfInBounds_toArray, List.set_cons_zero, List.set_cons_succ]
          refine wpAnyH_take (i := 1) (oi := { dst := some 36, op := Go.Op.load 47 (Go.Operand.tmp 2), type := 47, pos := _, after := _, guard := none }) (v := ?_) rfl (by kernel_rfl) (by kernel_rfl) (by kernel_rfl) (fun _ _ _ h => h) (Or.inl ⟨by rfl, ?_⟩) (by assumption) ?_
          rotate_left
          · intro w hSw; (try dsimp only at hSw); (first | (go_simp; done) | (go_simp; with_reducible rfl))
          try simp only [Act.put, List.setIfInBounds_toArray, List.set_cons_zero, List.set_cons_succ]
          refine wpAnyH_take (i := 2) (oi := { dst := some 37, op := Go.Op.move (Go.Operand.tmp 5), type := 29, pos := _, after := _, guard := none }) (v := ?_) rfl (by kernel_rfl) (by kernel_rfl) (by kernel_rfl) (fun _ _ _ h => h) (Or.inl ⟨by rfl, ?_⟩) (by assumption) ?_
          rotate_left
          · intro w hSw; (try dsimp only at hSw); (first | (go_simp; done) | (go_simp; with_reducible rfl))
          try simp only [Act.put, List.setIfInBounds_toArray, List.set_cons_zero, List.set_cons_succ]
          refine wpAnyH_take (i := 3) (oi := { dst := some 38, op := Go.Op.binOp Go.BinOp.rem 29 (Go.Operand.tmp 37) (Go.Operand.const (Go.Value.int Go.IntKind.u64 65521)) 29, type := 29, pos := _, after := _, guard := none }) (v := ?_) rfl (by kernel_rfl) (by kernel_rfl) (by kernel_rfl) (fun _ _ _ h => h) (Or.inl ⟨by rfl, ?_⟩) (by assumption) ?_
          rotate_left
          · intro w hSw; (try dsimp only at hSw); (first | (go_simp; done) | (go_simp; with_reducible rfl))
          try simp only [Act.put, List.setIfInBounds_toArray, List.set_cons_zero, List.set_cons_succ]
          refine wpAnyH_take (i := 4) (oi := { dst := some 39, op := Go.Op.move (Go.Operand.tmp 6), type := 29, pos := _, after := _, guard := none }) (v := ?_) rfl (by kernel_rfl) (by kernel_rfl) (by kernel_rfl) (fun _ _ _ h => h) (Or.inl ⟨by rfl, ?_⟩) (by assumption) ?_
          rotate_left
          · intro w hSw; (try dsimp only at hSw); (first | (go_simp; done) | (go_simp; with_reducible rfl))
          try simp only [Act.put, List.setIfInBounds_toArray, List.set_cons_zero, List.set_cons_succ]
          refine wpAnyH_take (i := 5) (oi := { dst := some 40, op := Go.Op.binOp Go.BinOp.rem 29 (Go.Operand.tmp 39) (Go.Operand.const (Go.Value.int Go.IntKind.u64 65521)) 29, type := 29, pos := _, after := _, guard := none }) (v := ?_) rfl (by kernel_rfl) (by kernel_rfl) (by kernel_rfl) (fun _ _ _ h => h) (Or.inl ⟨by rfl, ?_⟩) (by assumption) ?_
          rotate_left
          · intro w hSw; (try dsimp only at hSw); (first | (go_simp; done) | (go_simp; with_reducible rfl))
          try simp only [Act.put, List.setIfInBounds_toArray, List.set_cons_zero, List.set_cons_succ]
          refine wpAnyH_take (i := 6) (oi := { dst := some 41, op := Go.Op.nilCheck (Go.Operand.tmp 35), type := 0, pos := _, after := _, guard := none }) (v := ?_) rfl (by kernel_rfl) (by kernel_rfl) (by kernel_rfl) (fun _ _ _ h => h) (Or.inl ⟨by rfl, ?_⟩) (by assumption) ?_
          rotate_left
          · intro w hSw; (try dsimp only at hSw); (first | (go_simp; done) | (go_simp; with_reducible rfl))
          try simp only [Act.put, List.setIfInBounds_toArray, List.set_cons_zero, List.set_cons_succ]
          refine wpAnyH_take (i := 7) (oi := { dst := some 42, op := Go.Op.fieldAddr 31 (Go.Operand.tmp 41) 0, type := 0, pos := _, after := _, guard := none }) (v := ?_) rfl (by kernel_rfl) (by kernel_rfl) (by kernel_rfl) (fun _ _ _ h => h) (Or.inl ⟨by rfl, ?_⟩) (by assumption) ?_
          rotate_left
          · intro w hSw; (try dsimp only at hSw); (first | (go_simp; done) | (go_simp; with_reducible rfl))
          try simp only [Act.put, List.setIfInBounds_toArray, List.set_cons_zero, List.set_cons_succ]
          refine wpAnyH_ready (rs := [8]) (by kernel_rfl) (by simp) ?_
          refine AllReadyH.cons (o := { dst := none, op := Go.Op.store 29 (Go.Operand.tmp 42) (Go.Operand.tmp 38), type := 0, pos := _, after := _, guard := none }) rfl (fun K hK => ?_) AllReadyH.nil
          go_simp
          skip
          refine hK.out _ _ (by change World.cell? (World.setCell W _ _) _ = _; rw [World.cell?_setCell_far _ _ _ _ hnb']; exact cb) (fun hHeld => ?_)
          clear hK K
          try simp only [Act.put, List.setIfInBounds_toArray, List.set_cons_zero, List.set_cons_succ]
          refine wpAnyH_take (i := 9) (oi := { dst := some 43, op := Go.Op.nilCheck (Go.Operand.tmp 36), type := 0, pos := _, after := _, guard := none }) (v := ?_) rfl (by kernel_rfl) (by kernel_rfl) (by kernel_rfl) (fun _ _ _ h => h) (Or.inl ⟨by rfl, ?_⟩) (by assumption) ?_
          rotate_left
          · intro w hSw; (try dsimp only at hSw); (first | (go_simp; done) | (go_simp; with_reducible rfl))
          try simp only [Act.put, List.setIfInBounds_toArray, List.set_cons_zero, List.set_cons_succ]
          refine wpAnyH_take (i := 10) (oi := { dst := some 44, op := Go.Op.fieldAddr 31 (Go.Operand.tmp 43) 1, type := 0, pos := _, after := _, guard := none }) (v := ?_) rfl (by kernel_rfl) (by kernel_rfl) (by kernel_rfl) (fun _ _ _ h => h) (Or.inl ⟨by rfl, ?_⟩) (by assumption) ?_
          rotate_left
          · intro w hSw; (try dsimp only at hSw); (first | (go_simp; done) | (go_simp; with_reducible rfl))
          try simp only [Act.put, List.setIfInBounds_toArray, List.set_cons_zero, List.set_cons_succ]
          refine wpAnyH_ready (rs := [11]) (by kernel_rfl) (by simp) ?_
          refine AllReadyH.cons (o := { dst := none, op := Go.Op.store 29 (Go.Operand.tmp 44) (Go.Operand.tmp 40), type := 0, pos := _, after := _, guard := none }) rfl (fun K hK => ?_) AllReadyH.nil
          go_simp
          skip
          refine hK.out _ _ (by change World.cell? (World.setCell (World.setCell W _ _) _ _) _ = _; rw [World.cell?_setCell_far _ _ _ _ hnb', World.cell?_setCell_far _ _ _ _ hnb']; exact cb) (fun hHeld => ?_)
          clear hK K
          try simp only [Act.put, List.setIfInBounds_toArray, List.set_cons_zero, List.set_cons_succ]
          refine wpAnyH_done (by kernel_rfl) ?_ _
          exact ⟨rfl, rfl⟩
        rintro e a' w' ⟨rfl, rfl⟩
        have hne' : ∀ k, w.heap.size ≤ k → k < w.heap.size + 3 → k ≠ b := fun k h1 h2 => by omega
        have hB := ((Blk.drew (Blk.drew HHW.out)).set_ 0 (.int .u64 (L % 65521 : Nat))).set_ 1 (.int .u64 (H % 65521 : Nat))
        refine ⟨(((KeepsOthers.drew W).trans (KeepsOthers.drew _)).trans ((KeepsOthers.setCell _ _ _).trans (KeepsOthers.setCell _ _ _))).from _, fun k h1 h2 => ?_, ((HCW.out.drew.drew).setCell (p := ⟨b, 0, none⟩) (fun _ => rfl) _).setCell (p := ⟨b, 1, none⟩) (fun _ => rfl) _, ?_⟩
        · rw [Below.heap_setCell _ _ _ _ (hne' k h1 h2), Below.heap_setCell _ _ _ _ (hne' k h1 h2)]
          rfl
        · rw [if_neg (by simp), HLe.out, HHe.out]
          exact hB
  case done =>
    rintro D xs W hD rfl ⟨hcW, hhW⟩ hK
    gi_wp2
    refine ⟨by simp, .inl ⟨_, _, rfl, run_takeDeferred hK, ?_⟩⟩
    have hD' : w0.heap.size ≤ D := hD
    have hg := grownBy_putObj' W D (.deferred none)
    have hcD : Chg (fun i => i = b) w (W.putObj D (.deferred none)) := (hc0.trans hcW (fun i _ h => h)).grown hg (fun k e hk => by cases e; omega)
    refine ⟨_, results_none rfl _ _ _, rfl, ?_, hcD⟩
    rcases Nat.eq_zero_or_pos len with h0 | h0
    · obtain rfl : bs = [] := List.eq_nil_of_length_eq_zero (by omega)
      rw [if_pos (by unfold pieces; rw [if_pos h0])] at hhW
      have := Blk.grown hhW hg (by intro e; cases e; omega)
      simpa [acc, Halves, Nat.mod_eq_of_lt hlo, Nat.mod_eq_of_lt hhi] using this
    · rw [if_neg (by unfold pieces; rw [if_neg (by omega)]; simp)] at hhW
      exact Blk.grown hhW hg (by intro e; cases e; omega)
  case stop =>
    rintro D c pre W _ _ h _
    exact h.elim
end Go.Proofs.Ytgfdinclhakjhaa
