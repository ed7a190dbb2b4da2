/- 'AdlerBytes': for every input the statement's function returns true: a sum's bytes are as the document says, and come back; others are none. Conditions: none. -/
import Derived.Test.YtgfdinclhakjhaaBytesIn
import Derived.Test.YtgfdinclhakjhaaBy
import Derived.Test.YtgfdinclhakjhaaRows
import Derived.OpenShut
import Derived.ChangeOld
import Derived.Lib.SmallJoins
import Derived.Laws.BytesArg
import Derived.Deep.RegionHeld3
import Derived.Deep.RegionWith
namespace Go.Proofs.Ytgfdinclhakjhaa.adlerbytes
open Go.RowKit Go.ChangeShapes Go.WideShapes Go.ChangeAt
set_option linter.unusedVariables false

theorem own : ownKnob Try.prog.godebug = none := by kernel_rfl
theorem laidOut : laidOutB Try.prog = true := by kernel_rfl

/-- The string of bytes. -/
def bstr (bs : List Nat) : ByteArray := strOfNums (bs.map fun b : Nat => (b : Int))

theorem convert_piece {w : World} {S : Nat → Prop} (A : Option Addr) (len cap : Nat) (bs : List Nat) (h : Piece.At ⟨A, len, cap, bs⟩ w S) (h0 : 0 < len) :
    (convert 22 9 (.slice A len cap)).run Try.prog w = .ok (.string (bstr bs)) w := by
  have hl := h.len
  have hs := h.src
  simp only at hl hs
  obtain ⟨b, off, rfl, hc⟩ := hs.plain (by simp [ucells, hl]; exact h0)
  refine run_convert_bytes_arg w 22 5 Try.underlying22 Try.underlying5 b off len cap (bs.map fun b : Nat => (b : Int)) (by simpa using hl) (fun i hi => ?_) 9 Try.underlying9
  rw [hc i (.int .u8 (bs[i]'(by omega) : Nat)) (by simp [ucells, hl, hi])]
  simp [hl, hi]

theorem val_piece {w : World} {S : Nat → Prop} (A : Option Addr) (cap b0 b1 b2 b3 : Nat) (h : Piece.At ⟨A, 4, cap, [b0, b1, b2, b3]⟩ w S) :
    Calls Try.prog 13 #[.slice A 4 cap] w fun e w' => e = .returned (.tuple #[.int .u32 (val4 b0 b1 b2 b3 : Nat), .int .i64 0]) ∧ ∃ n, w' = w.drewN n := by
  have hs := h.src
  have hb := h.bytes
  simp only at hs hb
  obtain ⟨b, off, rfl, hc⟩ := hs.plain (by simp [ucells])
  exact val_some b off cap b0 b1 b2 b3 w (hb _ (by simp)) (hb _ (by simp)) (hb _ (by simp)) (hb _ (by simp)) (hc 0 _ rfl) (hc 1 _ rfl) (hc 2 _ rfl) (hc 3 _ rfl)

theorem bytes_piece (x : Nat) (w : World) (hx : x < 4294967296) : Piece.At ⟨some ⟨w.heap.size, 0, none⟩, 4, 4, b4 x⟩ (w.alloc (.cells (ucells (b4 x)).toArray 5)) NoS := piece_new 4 (heap_alloc_new w _) rfl (b4_lt x hx)

theorem val_b4 (x : Nat) : val4 (x / 16777216) (x / 65536 % 256) (x / 256 % 256) (x % 256) = x := by
  unfold val4
  omega

theorem b4_val (b0 b1 b2 b3 : Nat) (h0 : b0 < 256) (h1 : b1 < 256) (h2 : b2 < 256) (h3 : b3 < 256) : b4 (val4 b0 b1 b2 b3) = [b0, b1, b2, b3] := by
  unfold val4 b4
  rw [List.cons.injEq, List.cons.injEq, List.cons.injEq, List.cons.injEq]
  refine ⟨by omega, by omega, by omega, by omega, rfl⟩

/-- What is held may be more from here on. -/
theorem held_more {P : Program} {md : Region.Mode} {ops : Array Oper} {Q : Exit → Act → World → Prop} {S T : World → Prop} (hT : ∀ w, T w → S w) : ∀ (fuel : Nat) (listed : Array Bool) (a : Act) (w : World), wpAnyH P md ops Q T fuel listed a w → wpAnyH P md ops Q S fuel listed a w
  | 0, _, _, _, h => h
  | fuel + 1, _, _, _, h => ⟨h.1, fun i hi => wpOp_mono (fun a' w' h' => ⟨hT _ h'.1, held_more hT fuel _ a' w' h'.2⟩) (h.2 i hi)⟩

set_option maxHeartbeats 400000 in
theorem walk (x : Int) (A : Option Addr) (len cap : Nat) (xs : List Nat) (w : World) (w1 : (Lit.int .u32 x).wf = true) (hl : xs.length = len) (hm : len ≤ maxLen) (hS : Src w 1 A len cap (xs.flatMap encB)) (hg : ∀ b ∈ xs, b < 256) (hc : len ≤ cap) :
    Calls Try.prog 5 #[.int .u32 x, .slice A len cap] w fun e w' => e = .returned (.bool true) ∧ Below w.heap.size w w' := by
  have HP := keepf (piece_in hl hS hg hc)
  have HL := keepf hl
  have HG := keepf hg
  clear hl hS hg hc
  unfold maxLen at hm
  obtain ⟨z, rfl⟩ : ∃ z : Nat, x = z := ⟨x.toNat, by have := bounds_u32 w1; omega⟩
  have hz : z < 4294967296 := by have := bounds_u32 w1; omega
  clear w1
  have hv1 := val_piece _ 4 _ _ _ _ (bytes_piece z w hz)
  rw [val_b4] at hv1
  have HV1 := keepf hv1
  have HP2 := keepf (HP.out.no ((Chg.refl NoS w).alloc (.cells (ucells (b4 z)).toArray 5)))
  have HC2 := keepf ((Chg.refl NoS w).alloc (.cells (ucells (b4 z)).toArray 5))
  clear hv1
  by_cases h4 : len = 4
  · subst h4
    obtain ⟨b0, b1, b2, b3, rfl⟩ : ∃ b0 b1 b2 b3, xs = [b0, b1, b2, b3] := by
      have hl := HL.out
      match xs, hl with
      | [b0, b1, b2, b3], _ => exact ⟨b0, b1, b2, b3, rfl⟩
    have hb4 := b4_val b0 b1 b2 b3 (HG.out _ (by simp)) (HG.out _ (by simp)) (HG.out _ (by simp)) (HG.out _ (by simp))
    have hvl : val4 b0 b1 b2 b3 < 4294967296 := by
      have h0 := HG.out b0 (by simp)
      have h1 := HG.out b1 (by simp)
      have h2 := HG.out b2 (by simp)
      have h3 := HG.out b3 (by simp)
      unfold val4
      omega
    go_enter Try.func5, Try.ntmps5
    go_wp2_with fail
    refine (bytes_any z _ hz).mono ?_
    rintro e w2 ⟨rfl, rfl⟩
    go_wp2_with fail
    refine HV1.out.mono ?_
    rintro e w2 ⟨rfl, n1, rfl⟩
    have HP3 := keepf (show Piece.At ⟨A, 4, cap, [b0, b1, b2, b3]⟩ ((w.alloc (.cells (ucells (b4 z)).toArray 5)).drewN n1) NoS from HP2.out.no ((Chg.refl _ _).drewN n1))
    have HC3 := keepf (HC2.out.drewN n1)
    clear HV1 HP2 HC2
    generalize (w.alloc (.cells (ucells (b4 z)).toArray 5)).drewN n1 = w2 at *
    have HV2 := keepf (val_piece _ _ _ _ _ _ HP3.out)
    obtain ⟨y, hy⟩ : ∃ y, val4 b0 b1 b2 b3 = y := ⟨_, rfl⟩
    rw [hy] at HV2 hb4 hvl
    clear hy
    obtain ⟨xs, hxs⟩ : ∃ xs, [b0, b1, b2, b3] = xs := ⟨_, rfl⟩
    rw [hxs] at hb4 HP3 HL HG
    have HB4 := keepf hb4
    clear HP hxs hb4
    go_wp2_with fail
    refine HV2.out.mono ?_
    rintro e w3 ⟨rfl, n2, rfl⟩
    have HP4 := keepf (show Piece.At ⟨A, 4, cap, xs⟩ (w2.drewN n2) NoS from HP3.out.no ((Chg.refl _ _).drewN n2))
    have HC4 := keepf (HC3.out.drewN n2)
    clear HV2 HP3 HC3
    generalize w2.drewN n2 = w3 at *
    have k1 := convert_piece _ _ _ _ (Piece.At.no (bytes_piece z w3 hz) (Chg.refl NoS _).drew) (by decide)
    have k2 := convert_piece _ _ _ _ (Piece.At.no (bytes_piece z w3 hz) (((Chg.refl NoS _).alloc (.cells (ucells (b4 z)).toArray 5)).drew)) (by decide)
    have k3 := convert_piece _ _ _ _ (Piece.At.no (bytes_piece z (w3.alloc (.cells (ucells (b4 z)).toArray 5)) hz) (Chg.refl NoS _).drew) (by decide)
    rw [World.size_alloc] at k3
    go_wp2_with fail
    refine wp_region_held_drew (S := fun _ => True) (by kernel_rfl) trivial (fun hHeld => ?_)
    refine wpAnyH_take (i := 0) (oi := { dst := some 20, op := Go.Op.move (Go.Operand.tmp 0), type := 23, pos := _, after := _, guard := none }) (v := ?_) rfl (by kernel_rfl) (by kernel_rfl) (by kernel_rfl) (fun _ _ _ h => h) (Or.inl ⟨by rfl, ?_⟩) (by assumption) ?_
    rotate_left
    · intro w hSw; (try dsimp only at hSw); (first | (go_simp; done) | (go_simp; with_reducible rfl))
    try simp only [Act.put, List.setIfInBounds_toArray, List.set_cons_zero, List.set_cons_succ]
    refine wpAnyH_take (i := 3) (oi := { dst := some 23, op := Go.Op.move (Go.Operand.tmp 0), type := 23, pos := _, after := _, guard := none }) (v := ?_) rfl (by kernel_rfl) (by kernel_rfl) (by kernel_rfl) (fun _ _ _ h => h) (Or.inl ⟨by rfl, ?_⟩) (by assumption) ?_
    rotate_left
    · intro w hSw; (try dsimp only at hSw); (first | (go_simp; done) | (go_simp; with_reducible rfl))
    try simp only [Act.put, List.setIfInBounds_toArray, List.set_cons_zero, List.set_cons_succ]
    refine wpAnyH_ready (rs := [1]) (by kernel_rfl) (by simp) ?_
    refine AllReadyH.cons (o := { dst := some 21, op := Go.Op.call { callee := Go.Callee.value (Go.Operand.func 14), args := #[Go.Operand.tmp 20], argTypes := #[23] }, type := 22, pos := _, after := _, guard := none }) rfl (fun K hK => ?_) AllReadyH.nil
    go_simp
    (go_at_call 14; refine (bytes_any z _ hz).mono ?_; rintro e w' ⟨rfl, rfl⟩)
    refine hK.out _ _ trivial (fun hHeld => ?_)
    clear hK K
    try simp only [Act.put, List.setIfInBounds_toArray, List.set_cons_zero, List.set_cons_succ]
    refine held_more (T := fun w' => (convert 22 9 (.slice (some ⟨w3.heap.size, 0, none⟩) 4 4)).run Try.prog w' = .ok (.string (bstr (b4 z))) w') (fun _ _ => trivial) _ _ _ _ ?_
    refine wpAnyH_take (i := 2) (oi := { dst := some 22, op := Go.Op.convert 22 9 (Go.Operand.tmp 21), type := 9, pos := _, after := _, guard := none }) (v := ?_) rfl (by kernel_rfl) (by kernel_rfl) (by kernel_rfl) (fun _ _ _ h => h) (Or.inl ⟨by rfl, ?_⟩) (by assumption) ?_
    rotate_left
    · intro w hSw; (try dsimp only at hSw); (first | (go_simp; done) | (go_simp; with_reducible rfl))
    try simp only [Act.put, List.setIfInBounds_toArray, List.set_cons_zero, List.set_cons_succ]
    refine wpAnyH_ready (rs := [4]) (by kernel_rfl) (by simp) ?_
    refine AllReadyH.cons (o := { dst := some 24, op := Go.Op.call { callee := Go.Callee.value (Go.Operand.func 15), args := #[Go.Operand.tmp 23], argTypes := #[23] }, type := 22, pos := _, after := _, guard := none }) rfl (fun K hK => ?_) AllReadyH.nil
    go_simp
    (go_at_call 15; refine (refBytes_any z _ hz).mono ?_; rintro e w' ⟨rfl, rfl⟩)
    refine hK.out _ _ k2 (fun hHeld => ?_)
    clear hK K
    try simp only [Act.put, List.setIfInBounds_toArray, List.set_cons_zero, List.set_cons_succ]
    refine held_more (T := fun w' => (convert 22 9 (.slice (some ⟨w3.heap.size, 0, none⟩) 4 4)).run Try.prog w' = .ok (.string (bstr (b4 z))) w' ∧ (convert 22 9 (.slice (some ⟨w3.heap.size + 1, 0, none⟩) 4 4)).run Try.prog w' = .ok (.string (bstr (b4 z))) w') (fun _ h => h.1) _ _ _ _ ?_
    have hHeld3 := And.intro k2 k3
    refine wpAnyH_take (i := 5) (oi := { dst := some 25, op := Go.Op.convert 22 9 (Go.Operand.tmp 24), type := 9, pos := _, after := _, guard := none }) (v := ?_) rfl (by kernel_rfl) (by kernel_rfl) (by kernel_rfl) (fun _ _ _ h => h) (Or.inl ⟨by rfl, ?_⟩) (by assumption) ?_
    rotate_left
    · intro w hSw; (try dsimp only at hSw); (first | (go_simp; done) | (go_simp; with_reducible rfl))
    try simp only [Act.put, List.setIfInBounds_toArray, List.set_cons_zero, List.set_cons_succ]
    refine wpAnyH_take (i := 6) (oi := { dst := some 26, op := Go.Op.binOp Go.BinOp.neq 9 (Go.Operand.tmp 22) (Go.Operand.tmp 25) 9, type := 4, pos := _, after := _, guard := none }) (v := ?_) rfl (by kernel_rfl) (by kernel_rfl) (by kernel_rfl) (fun _ _ _ h => h) (Or.inl ⟨by rfl, ?_⟩) (by assumption) ?_
    rotate_left
    · intro w hSw; (try dsimp only at hSw); (first | (go_simp; done) | (go_simp; with_reducible rfl))
    try simp only [Act.put, List.setIfInBounds_toArray, List.set_cons_zero, List.set_cons_succ]
    refine wpAnyH_take (i := 7) (oi := { dst := some 27, op := Go.Op.move (Go.Operand.tmp 26), type := 4, pos := _, after := _, guard := none }) (v := ?_) rfl (by kernel_rfl) (by kernel_rfl) (by kernel_rfl) (fun _ _ _ h => h) (Or.inl ⟨by rfl, ?_⟩) (by assumption) ?_
    rotate_left
    · intro w hSw; (try dsimp only at hSw); (first | (go_simp; done) | (go_simp; with_reducible rfl))
    try simp only [Act.put, List.setIfInBounds_toArray, List.set_cons_zero, List.set_cons_succ]
    refine wpAnyH_take (i := 8) (oi := { dst := some 28, op := Go.Op.move (Go.Operand.tmp 5), type := 23, pos := _, after := _, guard := some (7, false) }) (v := ?_) rfl (by kernel_rfl) (by kernel_rfl) (by kernel_rfl) (fun _ _ _ h => h) (Or.inl ⟨by rfl, ?_⟩) (by assumption) ?_
    rotate_left
    · intro w hSw; (try dsimp only at hSw); (first | (go_simp; done) | (go_simp; with_reducible rfl))
    try simp only [Act.put, List.setIfInBounds_toArray, List.set_cons_zero, List.set_cons_succ]
    refine wpAnyH_take (i := 9) (oi := { dst := some 29, op := Go.Op.move (Go.Operand.tmp 0), type := 23, pos := _, after := _, guard := some (7, false) }) (v := ?_) rfl (by kernel_rfl) (by kernel_rfl) (by kernel_rfl) (fun _ _ _ h => h) (Or.inl ⟨by rfl, ?_⟩) (by assumption) ?_
    rotate_left
    · intro w hSw; (try dsimp only at hSw); (first | (go_simp; done) | (go_simp; with_reducible rfl))
    try simp only [Act.put, List.setIfInBounds_toArray, List.set_cons_zero, List.set_cons_succ]
    refine wpAnyH_take (i := 10) (oi := { dst := some 30, op := Go.Op.binOp Go.BinOp.neq 23 (Go.Operand.tmp 28) (Go.Operand.tmp 29) 23, type := 4, pos := _, after := _, guard := some (7, false) }) (v := ?_) rfl (by kernel_rfl) (by kernel_rfl) (by kernel_rfl) (fun _ _ _ h => h) (Or.inl ⟨by rfl, ?_⟩) (by assumption) ?_
    rotate_left
    · intro w hSw; (try dsimp only at hSw); (first | (go_simp; done) | (go_simp; with_reducible rfl))
    try simp only [Act.put, List.setIfInBounds_toArray, List.set_cons_zero, List.set_cons_succ]
    refine wpAnyH_take (i := 11) (oi := { dst := some 31, op := Go.Op.pick (Go.Operand.tmp 27) (Go.Operand.const (Go.Value.bool true)) (Go.Operand.tmp 30), type := 4, pos := _, after := _, guard := none }) (v := ?_) rfl (by kernel_rfl) (by kernel_rfl) (by kernel_rfl) (fun _ _ _ h => h) (Or.inl ⟨by rfl, ?_⟩) (by assumption) ?_
    rotate_left
    · intro w hSw; (try dsimp only at hSw); (first | (go_simp; done) | (go_simp; with_reducible rfl))
    try simp only [Act.put, List.setIfInBounds_toArray, List.set_cons_zero, List.set_cons_succ]
    refine wpAnyH_take (i := 12) (oi := { dst := some 32, op := Go.Op.move (Go.Operand.tmp 31), type := 4, pos := _, after := _, guard := none }) (v := ?_) rfl (by kernel_rfl) (by kernel_rfl) (by kernel_rfl) (fun _ _ _ h => h) (Or.inl ⟨by rfl, ?_⟩) (by assumption) ?_
    rotate_left
    · intro w hSw; (try dsimp only at hSw); (first | (go_simp; done) | (go_simp; with_reducible rfl))
    try simp only [Act.put, List.setIfInBounds_toArray, List.set_cons_zero, List.set_cons_succ]
    refine wpAnyH_take (i := 13) (oi := { dst := some 33, op := Go.Op.move (Go.Operand.tmp 6), type := 38, pos := _, after := _, guard := some (12, false) }) (v := ?_) rfl (by kernel_rfl) (by kernel_rfl) (by kernel_rfl) (fun _ _ _ h => h) (Or.inl ⟨by rfl, ?_⟩) (by assumption) ?_
    rotate_left
    · intro w hSw; (try dsimp only at hSw); (first | (go_simp; done) | (go_simp; with_reducible rfl))
    try simp only [Act.put, List.setIfInBounds_toArray, List.set_cons_zero, List.set_cons_succ]
    refine wpAnyH_take (i := 14) (oi := { dst := some 34, op := Go.Op.binOp Go.BinOp.neq 38 (Go.Operand.tmp 33) (Go.Operand.const (Go.Value.int Go.IntKind.i64 0)) 38, type := 4, pos := _, after := _, guard := some (12, false) }) (v := ?_) rfl (by kernel_rfl) (by kernel_rfl) (by kernel_rfl) (fun _ _ _ h => h) (Or.inl ⟨by rfl, ?_⟩) (by assumption) ?_
    rotate_left
    · intro w hSw; (try dsimp only at hSw); (first | (go_simp; done) | (go_simp; with_reducible rfl))
    try simp only [Act.put, List.setIfInBounds_toArray, List.set_cons_zero, List.set_cons_succ]
    refine wpAnyH_take (i := 15) (oi := { dst := some 35, op := Go.Op.pick (Go.Operand.tmp 32) (Go.Operand.const (Go.Value.bool true)) (Go.Operand.tmp 34), type := 4, pos := _, after := _, guard := none }) (v := ?_) rfl (by kernel_rfl) (by kernel_rfl) (by kernel_rfl) (fun _ _ _ h => h) (Or.inl ⟨by rfl, ?_⟩) (by assumption) ?_
    rotate_left
    · intro w hSw; (try dsimp only at hSw); (first | (go_simp; done) | (go_simp; with_reducible rfl))
    try simp only [Act.put, List.setIfInBounds_toArray, List.set_cons_zero, List.set_cons_succ]
    refine wpAnyH_done (by kernel_rfl) ?_ _
    go_wp2_with fail
    clear k1 k2 k3 hHeld hHeld3
    have HP5 := keepf (show Piece.At ⟨A, 4, cap, xs⟩ (((w3.alloc (.cells (ucells (b4 z)).toArray 5)).alloc (.cells (ucells (b4 z)).toArray 5)).drew) NoS from HP4.out.no ((((Chg.refl _ _).alloc _).alloc _).drew))
    have HC5 := keepf (show Chg NoS w (((w3.alloc (.cells (ucells (b4 z)).toArray 5)).alloc (.cells (ucells (b4 z)).toArray 5)).drew) from ((HC4.out.alloc _).alloc _).drew)
    clear HP4 HC4
    generalize ((w3.alloc (.cells (ucells (b4 z)).toArray 5)).alloc (.cells (ucells (b4 z)).toArray 5)).drew = w5 at *
    have hrb := refBytes_any y w5.drew hvl
    rw [HB4.out] at hrb
    have HRB := keepf hrb
    have hp6 : Piece.At ⟨some ⟨w5.heap.size, 0, none⟩, 4, 4, xs⟩ (w5.alloc (.cells (ucells xs).toArray 5)) NoS := piece_new 4 (heap_alloc_new w5 _) HL.out HG.out
    have HP6 := keepf (hp6.no (Chg.refl NoS _).drew)
    have HP7 := keepf (HP5.out.no (((Chg.refl NoS _).alloc (.cells (ucells xs).toArray 5)).drew))
    have k0 := convert_piece _ _ _ _ (HP5.out.no (Chg.refl NoS _).drew) (by decide)
    have k4 := convert_piece _ _ _ _ HP7.out (by decide)
    have k5 := convert_piece _ _ _ _ HP6.out (by decide)
    have HC6 := keepf ((HC5.out.alloc (.cells (ucells xs).toArray 5)).drew)
    clear hrb hp6
    refine wp_region_held_drew (S := fun w' => (convert 22 9 (.slice A 4 cap)).run Try.prog w' = .ok (.string (bstr xs)) w') (by kernel_rfl) k0 (fun hHeld => ?_)
    refine wpAnyH_take (i := 0) (oi := { dst := some 48, op := Go.Op.move (Go.Operand.tmp 8), type := 38, pos := _, after := _, guard := none }) (v := ?_) rfl (by kernel_rfl) (by kernel_rfl) (by kernel_rfl) (fun _ _ _ h => h) (Or.inl ⟨by rfl, ?_⟩) (by assumption) ?_
    rotate_left
    · intro w hSw; (try dsimp only at hSw); (first | (go_simp; done) | (go_simp; with_reducible rfl))
    try simp only [Act.put, List.setIfInBounds_toArray, List.set_cons_zero, List.set_cons_succ]
    refine wpAnyH_take (i := 1) (oi := { dst := some 49, op := Go.Op.binOp Go.BinOp.eql 38 (Go.Operand.tmp 48) (Go.Operand.const (Go.Value.int Go.IntKind.i64 0)) 38, type := 4, pos := _, after := _, guard := none }) (v := ?_) rfl (by kernel_rfl) (by kernel_rfl) (by kernel_rfl) (fun _ _ _ h => h) (Or.inl ⟨by rfl, ?_⟩) (by assumption) ?_
    rotate_left
    · intro w hSw; (try dsimp only at hSw); (first | (go_simp; done) | (go_simp; with_reducible rfl))
    try simp only [Act.put, List.setIfInBounds_toArray, List.set_cons_zero, List.set_cons_succ]
    refine wpAnyH_take (i := 2) (oi := { dst := some 50, op := Go.Op.move (Go.Operand.tmp 49), type := 4, pos := _, after := _, guard := none }) (v := ?_) rfl (by kernel_rfl) (by kernel_rfl) (by kernel_rfl) (fun _ _ _ h => h) (Or.inl ⟨by rfl, ?_⟩) (by assumption) ?_
    rotate_left
    · intro w hSw; (try dsimp only at hSw); (first | (go_simp; done) | (go_simp; with_reducible rfl))
    try simp only [Act.put, List.setIfInBounds_toArray, List.set_cons_zero, List.set_cons_succ]
    refine wpAnyH_take (i := 3) (oi := { dst := some 51, op := Go.Op.move (Go.Operand.tmp 7), type := 23, pos := _, after := _, guard := some (2, true) }) (v := ?_) rfl (by kernel_rfl) (by kernel_rfl) (by kernel_rfl) (fun _ _ _ h => h) (Or.inl ⟨by rfl, ?_⟩) (by assumption) ?_
    rotate_left
    · intro w hSw; (try dsimp only at hSw); (first | (go_simp; done) | (go_simp; with_reducible rfl))
    try simp only [Act.put, List.setIfInBounds_toArray, List.set_cons_zero, List.set_cons_succ]
    refine wpAnyH_take (i := 6) (oi := { dst := some 54, op := Go.Op.move (Go.Operand.tmp 1), type := 22, pos := _, after := _, guard := some (2, true) }) (v := ?_) rfl (by kernel_rfl) (by kernel_rfl) (by kernel_rfl) (fun _ _ _ h => h) (Or.inl ⟨by rfl, ?_⟩) (by assumption) ?_
    rotate_left
    · intro w hSw; (try dsimp only at hSw); (first | (go_simp; done) | (go_simp; with_reducible rfl))
    try simp only [Act.put, List.setIfInBounds_toArray, List.set_cons_zero, List.set_cons_succ]
    refine wpAnyH_take (i := 7) (oi := { dst := some 55, op := Go.Op.convert 22 9 (Go.Operand.tmp 54), type := 9, pos := _, after := _, guard := some (2, true) }) (v := ?_) rfl (by kernel_rfl) (by kernel_rfl) (by kernel_rfl) (fun _ _ _ h => h) (Or.inl ⟨by rfl, ?_⟩) (by assumption) ?_
    rotate_left
    · intro w hSw; (try dsimp only at hSw); (first | (go_simp; done) | (go_simp; with_reducible rfl))
    try simp only [Act.put, List.setIfInBounds_toArray, List.set_cons_zero, List.set_cons_succ]
    refine wpAnyH_ready (rs := [4]) (by kernel_rfl) (by simp) ?_
    refine AllReadyH.cons (o := { dst := some 52, op := Go.Op.call { callee := Go.Callee.value (Go.Operand.func 15), args := #[Go.Operand.tmp 51], argTypes := #[23] }, type := 22, pos := _, after := _, guard := some (2, true) }) rfl (fun K hK => ?_) AllReadyH.nil
    go_simp
    (go_at_call 15; refine HRB.out.mono ?_; rintro e w' ⟨rfl, rfl⟩)
    refine hK.out _ _ k4 (fun hHeld => ?_)
    clear hK K
    try simp only [Act.put, List.setIfInBounds_toArray, List.set_cons_zero, List.set_cons_succ]
    refine held_more (T := fun w' => (convert 22 9 (.slice A 4 cap)).run Try.prog w' = .ok (.string (bstr xs)) w' ∧ (convert 22 9 (.slice (some ⟨w5.heap.size, 0, none⟩) 4 4)).run Try.prog w' = .ok (.string (bstr xs)) w') (fun _ h => h.1) _ _ _ _ ?_
    have hHeld3 := And.intro k4 k5
    refine wpAnyH_take (i := 5) (oi := { dst := some 53, op := Go.Op.convert 22 9 (Go.Operand.tmp 52), type := 9, pos := _, after := _, guard := some (2, true) }) (v := ?_) rfl (by kernel_rfl) (by kernel_rfl) (by kernel_rfl) (fun _ _ _ h => h) (Or.inl ⟨by rfl, ?_⟩) (by assumption) ?_
    rotate_left
    · intro w hSw; (try dsimp only at hSw); (first | (go_simp; done) | (go_simp; with_reducible rfl))
    try simp only [Act.put, List.setIfInBounds_toArray, List.set_cons_zero, List.set_cons_succ]
    refine wpAnyH_take (i := 8) (oi := { dst := some 56, op := Go.Op.binOp Go.BinOp.eql 9 (Go.Operand.tmp 53) (Go.Operand.tmp 55) 9, type := 4, pos := _, after := _, guard := some (2, true) }) (v := ?_) rfl (by kernel_rfl) (by kernel_rfl) (by kernel_rfl) (fun _ _ _ h => h) (Or.inl ⟨by rfl, ?_⟩) (by assumption) ?_
    rotate_left
    · intro w hSw; (try dsimp only at hSw); (first | (go_simp; done) | (go_simp; with_reducible rfl))
    try simp only [Act.put, List.setIfInBounds_toArray, List.set_cons_zero, List.set_cons_succ]
    refine wpAnyH_take (i := 9) (oi := { dst := some 57, op := Go.Op.pick (Go.Operand.tmp 50) (Go.Operand.tmp 56) (Go.Operand.const (Go.Value.bool false)), type := 4, pos := _, after := _, guard := none }) (v := ?_) rfl (by kernel_rfl) (by kernel_rfl) (by kernel_rfl) (fun _ _ _ h => h) (Or.inl ⟨by rfl, ?_⟩) (by assumption) ?_
    rotate_left
    · intro w hSw; (try dsimp only at hSw); (first | (go_simp; done) | (go_simp; with_reducible rfl))
    try simp only [Act.put, List.setIfInBounds_toArray, List.set_cons_zero, List.set_cons_succ]
    refine wpAnyH_take (i := 10) (oi := { dst := some 58, op := Go.Op.move (Go.Operand.tmp 57), type := 4, pos := _, after := _, guard := none }) (v := ?_) rfl (by kernel_rfl) (by kernel_rfl) (by kernel_rfl) (fun _ _ _ h => h) (Or.inl ⟨by rfl, ?_⟩) (by assumption) ?_
    rotate_left
    · intro w hSw; (try dsimp only at hSw); (first | (go_simp; done) | (go_simp; with_reducible rfl))
    try simp only [Act.put, List.setIfInBounds_toArray, List.set_cons_zero, List.set_cons_succ]
    refine wpAnyH_ready (rs := [11]) (by kernel_rfl) (by simp) ?_
    refine AllReadyH.cons (o := { dst := some 59, op := Go.Op.call { callee := Go.Callee.value (Go.Operand.func 9), args := #[], argTypes := #[] }, type := 4, pos := _, after := _, guard := some (10, true) }) rfl (fun K hK => ?_) AllReadyH.nil
    go_simp
    (go_at_call 9; refine (works_any _).mono ?_; rintro e w7 ⟨rfl, hc7⟩; have HC7 := keepf (HC6.out.trans hc7 (fun _ _ h => h)); have k6 := convert_piece _ _ _ _ (HP7.out.no hc7) (by decide); have k7 := convert_piece _ _ _ _ (HP6.out.no hc7) (by decide); clear hc7)
    refine hK.out _ _ ⟨k6, k7⟩ (fun hHeld => ?_)
    clear hK K
    try simp only [Act.put, List.setIfInBounds_toArray, List.set_cons_zero, List.set_cons_succ]
    refine wpAnyH_take (i := 12) (oi := { dst := some 60, op := Go.Op.pick (Go.Operand.tmp 58) (Go.Operand.tmp 59) (Go.Operand.const (Go.Value.bool false)), type := 4, pos := _, after := _, guard := none }) (v := ?_) rfl (by kernel_rfl) (by kernel_rfl) (by kernel_rfl) (fun _ _ _ h => h) (Or.inl ⟨by rfl, ?_⟩) (by assumption) ?_
    rotate_left
    · intro w hSw; (try dsimp only at hSw); (first | (go_simp; done) | (go_simp; with_reducible rfl))
    try simp only [Act.put, List.setIfInBounds_toArray, List.set_cons_zero, List.set_cons_succ]
    refine wpAnyH_take (i := 13) (oi := { dst := some 4, op := Go.Op.assign (Go.Operand.tmp 60), type := 4, pos := _, after := _, guard := none }) (v := ?_) rfl (by kernel_rfl) (by kernel_rfl) (by kernel_rfl) (fun _ _ _ h => h) (Or.inl ⟨by rfl, ?_⟩) (by assumption) ?_
    rotate_left
    · intro w hSw; (try dsimp only at hSw); (first | (go_simp; done) | (go_simp; with_reducible rfl))
    try simp only [Act.put, List.setIfInBounds_toArray, List.set_cons_zero, List.set_cons_succ]
    refine wpAnyH_done (by kernel_rfl) ?_ _
    go_wp2_with fail
    go_ret
    exact ⟨rfl, HC7.out.no_below⟩
  · go_enter Try.func5, Try.ntmps5
    go_wp2_with fail
    refine (bytes_any z _ hz).mono ?_
    rintro e w2 ⟨rfl, rfl⟩
    go_wp2_with fail
    refine HV1.out.mono ?_
    rintro e w2 ⟨rfl, n1, rfl⟩
    have HP3 := keepf (show Piece.At ⟨A, len, cap, xs⟩ ((w.alloc (.cells (ucells (b4 z)).toArray 5)).drewN n1) NoS from HP2.out.no ((Chg.refl _ _).drewN n1))
    have HC3 := keepf (HC2.out.drewN n1)
    clear HV1 HP2 HC2
    generalize (w.alloc (.cells (ucells (b4 z)).toArray 5)).drewN n1 = w3 at *
    have d1 : decide ((len : Int) = 4) = false := by simp; omega
    go_wp2_with fail
    refine (val_none A len cap w3 h4).mono ?_
    rintro e w4 ⟨rfl, rfl⟩
    have k1 := convert_piece _ _ _ _ (Piece.At.no (bytes_piece z w3 hz) (Chg.refl NoS _).drew) (by decide)
    have k2 := convert_piece _ _ _ _ (Piece.At.no (bytes_piece z w3 hz) (((Chg.refl NoS _).alloc (.cells (ucells (b4 z)).toArray 5)).drew)) (by decide)
    have k3 := convert_piece _ _ _ _ (Piece.At.no (bytes_piece z (w3.alloc (.cells (ucells (b4 z)).toArray 5)) hz) (Chg.refl NoS _).drew) (by decide)
    rw [World.size_alloc] at k3
    go_wp2_with fail
    refine wp_region_held_drew (S := fun _ => True) (by kernel_rfl) trivial (fun hHeld => ?_)
    refine wpAnyH_take (i := 0) (oi := { dst := some 20, op := Go.Op.move (Go.Operand.tmp 0), type := 23, pos := _, after := _, guard := none }) (v := ?_) rfl (by kernel_rfl) (by kernel_rfl) (by kernel_rfl) (fun _ _ _ h => h) (Or.inl ⟨by rfl, ?_⟩) (by assumption) ?_
    rotate_left
    · intro w hSw; (try dsimp only at hSw); (first | (go_simp; done) | (go_simp; with_reducible rfl))
    try simp only [Act.put, List.setIfInBounds_toArray, List.set_cons_zero, List.set_cons_succ]
    refine wpAnyH_take (i := 3) (oi := { dst := some 23, op := Go.Op.move (Go.Operand.tmp 0), type := 23, pos := _, after := _, guard := none }) (v := ?_) rfl (by kernel_rfl) (by kernel_rfl) (by kernel_rfl) (fun _ _ _ h => h) (Or.inl ⟨by rfl, ?_⟩) (by assumption) ?_
    rotate_left
    · intro w hSw; (try dsimp only at hSw); (first | (go_simp; done) | (go_simp; with_reducible rfl))
    try simp only [Act.put, List.setIfInBounds_toArray, List.set_cons_zero, List.set_cons_succ]
    refine wpAnyH_ready (rs := [1]) (by kernel_rfl) (by simp) ?_
    refine AllReadyH.cons (o := { dst := some 21, op := Go.Op.call { callee := Go.Callee.value (Go.Operand.func 14), args := #[Go.Operand.tmp 20], argTypes := #[23] }, type := 22, pos := _, after := _, guard := none }) rfl (fun K hK => ?_) AllReadyH.nil
    go_simp
    (go_at_call 14; refine (bytes_any z _ hz).mono ?_; rintro e w' ⟨rfl, rfl⟩)
    refine hK.out _ _ trivial (fun hHeld => ?_)
    clear hK K
    try simp only [Act.put, List.setIfInBounds_toArray, List.set_cons_zero, List.set_cons_succ]
    refine held_more (T := fun w' => (convert 22 9 (.slice (some ⟨w3.heap.size, 0, none⟩) 4 4)).run Try.prog w' = .ok (.string (bstr (b4 z))) w') (fun _ _ => trivial) _ _ _ _ ?_
    refine wpAnyH_take (i := 2) (oi := { dst := some 22, op := Go.Op.convert 22 9 (Go.Operand.tmp 21), type := 9, pos := _, after := _, guard := none }) (v := ?_) rfl (by kernel_rfl) (by kernel_rfl) (by kernel_rfl) (fun _ _ _ h => h) (Or.inl ⟨by rfl, ?_⟩) (by assumption) ?_
    rotate_left
    · intro w hSw; (try dsimp only at hSw); (first | (go_simp; done) | (go_simp; with_reducible rfl))
    try simp only [Act.put, List.setIfInBounds_toArray, List.set_cons_zero, List.set_cons_succ]
    refine wpAnyH_ready (rs := [4]) (by kernel_rfl) (by simp) ?_
    refine AllReadyH.cons (o := { dst := some 24, op := Go.Op.call { callee := Go.Callee.value (Go.Operand.func 15), args := #[Go.Operand.tmp 23], argTypes := #[23] }, type := 22, pos := _, after := _, guard := none }) rfl (fun K hK => ?_) AllReadyH.nil
    go_simp
    (go_at_call 15; refine (refBytes_any z _ hz).mono ?_; rintro e w' ⟨rfl, rfl⟩)
    refine hK.out _ _ k2 (fun hHeld => ?_)
    clear hK K
    try simp only [Act.put, List.setIfInBounds_toArray, List.set_cons_zero, List.set_cons_succ]
    refine held_more (T := fun w' => (convert 22 9 (.slice (some ⟨w3.heap.size, 0, none⟩) 4 4)).run Try.prog w' = .ok (.string (bstr (b4 z))) w' ∧ (convert 22 9 (.slice (some ⟨w3.heap.size + 1, 0, none⟩) 4 4)).run Try.prog w' = .ok (.string (bstr (b4 z))) w') (fun _ h => h.1) _ _ _ _ ?_
    have hHeld3 := And.intro k2 k3
    refine wpAnyH_take (i := 5) (oi := { dst := some 25, op := Go.Op.convert 22 9 (Go.Operand.tmp 24), type := 9, pos := _, after := _, guard := none }) (v := ?_) rfl (by kernel_rfl) (by kernel_rfl) (by kernel_rfl) (fun _ _ _ h => h) (Or.inl ⟨by rfl, ?_⟩) (by assumption) ?_
    rotate_left
    · intro w hSw; (try dsimp only at hSw); (first | (go_simp; done) | (go_simp; with_reducible rfl))
    try simp only [Act.put, List.setIfInBounds_toArray, List.set_cons_zero, List.set_cons_succ]
    refine wpAnyH_take (i := 6) (oi := { dst := some 26, op := Go.Op.binOp Go.BinOp.neq 9 (Go.Operand.tmp 22) (Go.Operand.tmp 25) 9, type := 4, pos := _, after := _, guard := none }) (v := ?_) rfl (by kernel_rfl) (by kernel_rfl) (by kernel_rfl) (fun _ _ _ h => h) (Or.inl ⟨by rfl, ?_⟩) (by assumption) ?_
    rotate_left
    · intro w hSw; (try dsimp only at hSw); (first | (go_simp; done) | (go_simp; with_reducible rfl))
    try simp only [Act.put, List.setIfInBounds_toArray, List.set_cons_zero, List.set_cons_succ]
    refine wpAnyH_take (i := 7) (oi := { dst := some 27, op := Go.Op.move (Go.Operand.tmp 26), type := 4, pos := _, after := _, guard := none }) (v := ?_) rfl (by kernel_rfl) (by kernel_rfl) (by kernel_rfl) (fun _ _ _ h => h) (Or.inl ⟨by rfl, ?_⟩) (by assumption) ?_
    rotate_left
    · intro w hSw; (try dsimp only at hSw); (first | (go_simp; done) | (go_simp; with_reducible rfl))
    try simp only [Act.put, List.setIfInBounds_toArray, List.set_cons_zero, List.set_cons_succ]
    refine wpAnyH_take (i := 8) (oi := { dst := some 28, op := Go.Op.move (Go.Operand.tmp 5), type := 23, pos := _, after := _, guard := some (7, false) }) (v := ?_) rfl (by kernel_rfl) (by kernel_rfl) (by kernel_rfl) (fun _ _ _ h => h) (Or.inl ⟨by rfl, ?_⟩) (by assumption) ?_
    rotate_left
    · intro w hSw; (try dsimp only at hSw); (first | (go_simp; done) | (go_simp; with_reducible rfl))
    try simp only [Act.put, List.setIfInBounds_toArray, List.set_cons_zero, List.set_cons_succ]
    refine wpAnyH_take (i := 9) (oi := { dst := some 29, op := Go.Op.move (Go.Operand.tmp 0), type := 23, pos := _, after := _, guard := some (7, false) }) (v := ?_) rfl (by kernel_rfl) (by kernel_rfl) (by kernel_rfl) (fun _ _ _ h => h) (Or.inl ⟨by rfl, ?_⟩) (by assumption) ?_
    rotate_left
    · intro w hSw; (try dsimp only at hSw); (first | (go_simp; done) | (go_simp; with_reducible rfl))
    try simp only [Act.put, List.setIfInBounds_toArray, List.set_cons_zero, List.set_cons_succ]
    refine wpAnyH_take (i := 10) (oi := { dst := some 30, op := Go.Op.binOp Go.BinOp.neq 23 (Go.Operand.tmp 28) (Go.Operand.tmp 29) 23, type := 4, pos := _, after := _, guard := some (7, false) }) (v := ?_) rfl (by kernel_rfl) (by kernel_rfl) (by kernel_rfl) (fun _ _ _ h => h) (Or.inl ⟨by rfl, ?_⟩) (by assumption) ?_
    rotate_left
    · intro w hSw; (try dsimp only at hSw); (first | (go_simp; done) | (go_simp; with_reducible rfl))
    try simp only [Act.put, List.setIfInBounds_toArray, List.set_cons_zero, List.set_cons_succ]
    refine wpAnyH_take (i := 11) (oi := { dst := some 31, op := Go.Op.pick (Go.Operand.tmp 27) (Go.Operand.const (Go.Value.bool true)) (Go.Operand.tmp 30), type := 4, pos := _, after := _, guard := none }) (v := ?_) rfl (by kernel_rfl) (by kernel_rfl) (by kernel_rfl) (fun _ _ _ h => h) (Or.inl ⟨by rfl, ?_⟩) (by assumption) ?_
    rotate_left
    · intro w hSw; (try dsimp only at hSw); (first | (go_simp; done) | (go_simp; with_reducible rfl))
    try simp only [Act.put, List.setIfInBounds_toArray, List.set_cons_zero, List.set_cons_succ]
    refine wpAnyH_take (i := 12) (oi := { dst := some 32, op := Go.Op.move (Go.Operand.tmp 31), type := 4, pos := _, after := _, guard := none }) (v := ?_) rfl (by kernel_rfl) (by kernel_rfl) (by kernel_rfl) (fun _ _ _ h => h) (Or.inl ⟨by rfl, ?_⟩) (by assumption) ?_
    rotate_left
    · intro w hSw; (try dsimp only at hSw); (first | (go_simp; done) | (go_simp; with_reducible rfl))
    try simp only [Act.put, List.setIfInBounds_toArray, List.set_cons_zero, List.set_cons_succ]
    refine wpAnyH_take (i := 13) (oi := { dst := some 33, op := Go.Op.move (Go.Operand.tmp 6), type := 38, pos := _, after := _, guard := some (12, false) }) (v := ?_) rfl (by kernel_rfl) (by kernel_rfl) (by kernel_rfl) (fun _ _ _ h => h) (Or.inl ⟨by rfl, ?_⟩) (by assumption) ?_
    rotate_left
    · intro w hSw; (try dsimp only at hSw); (first | (go_simp; done) | (go_simp; with_reducible rfl))
    try simp only [Act.put, List.setIfInBounds_toArray, List.set_cons_zero, List.set_cons_succ]
    refine wpAnyH_take (i := 14) (oi := { dst := some 34, op := Go.Op.binOp Go.BinOp.neq 38 (Go.Operand.tmp 33) (Go.Operand.const (Go.Value.int Go.IntKind.i64 0)) 38, type := 4, pos := _, after := _, guard := some (12, false) }) (v := ?_) rfl (by kernel_rfl) (by kernel_rfl) (by kernel_rfl) (fun _ _ _ h => h) (Or.inl ⟨by rfl, ?_⟩) (by assumption) ?_
    rotate_left
    · intro w hSw; (try dsimp only at hSw); (first | (go_simp; done) | (go_simp; with_reducible rfl))
    try simp only [Act.put, List.setIfInBounds_toArray, List.set_cons_zero, List.set_cons_succ]
    refine wpAnyH_take (i := 15) (oi := { dst := some 35, op := Go.Op.pick (Go.Operand.tmp 32) (Go.Operand.const (Go.Value.bool true)) (Go.Operand.tmp 34), type := 4, pos := _, after := _, guard := none }) (v := ?_) rfl (by kernel_rfl) (by kernel_rfl) (by kernel_rfl) (fun _ _ _ h => h) (Or.inl ⟨by rfl, ?_⟩) (by assumption) ?_
    rotate_left
    · intro w hSw; (try dsimp only at hSw); (first | (go_simp; done) | (go_simp; with_reducible rfl))
    try simp only [Act.put, List.setIfInBounds_toArray, List.set_cons_zero, List.set_cons_succ]
    refine wpAnyH_done (by kernel_rfl) ?_ _
    go_wp2_with fail
    refine (works_any _).mono ?_
    rintro e w4 ⟨rfl, hc4⟩
    have HC4 := keepf ((((HC3.out.alloc _).alloc _).drew).trans hc4 (fun _ _ h => h))
    clear hc4
    go_wp2_with fail
    go_ret
    exact ⟨rfl, HC4.out.no_below⟩

set_option maxRecDepth 100000 in
theorem lifted (os : Os) (started : os.Started) (H : Type) (enc : TypeId × Value → H) :
    ReturnsInHanded {} Try.checked os 5 .any (Rows.adlerBytesSpec.pre6 enc Try.prog Try.f5 Rows.adlerBytesRow.domain false) (Rows.adlerBytesSpec.post enc Try.prog Try.f5 false true false false) := by
  refine returnsInHanded_of_change (C := Try.checked) own started (by kernel_rfl) Try.func5
    (ChangeSpec.witness6 (enc := enc) (C := Try.checked) false ⟨#[], #[.int .u32 0, .slice none 0 0], []⟩ 8 (by kernel_rfl) (by kernel_rfl) (by kernel_rfl) (by kernel_rfl)) ?_
  intro W base args ds gs before hval0 hW hcnd _
  have hval : ∀ (j : Nat) t v, Try.f5.params[j]? = some t → args[j]? = some v → Value.okWide Try.prog W .any base t v := hval0
  have hW' := hW
  obtain ⟨p, q, hA0, hV, rfl, hfz, hnd⟩ := hW
  have hA : DataW.TrodAll enc Try.prog W 0 (fun _ => true) true Try.f5.params.toList args.toList ds p := hA0
  rw [Try.params5] at hA hval
  obtain ⟨v0, vs0, d0, ds0, p0, q0, hargs, rfl, rfl, h0, r0⟩ := trodAll_cons hA
  obtain ⟨v1, vs1, d1, ds1, p1, q1, rfl, rfl, rfl, h1, r1⟩ := trodAll_cons r0
  obtain ⟨rfl, rfl, rfl⟩ := trodAll_nil r1
  obtain rfl : args = #[v0, v1] := by cases args; simp_all
  obtain ⟨rfl, rfl⟩ := trodVars_none hV
  obtain ⟨a0, rfl, rfl, rfl, w0⟩ := open_int Try.underlying23 (hval 0 23 v0 rfl rfl) h0
  obtain ⟨a1, len1, cap1, rfl⟩ := okWide_slice Try.underlying22 (hval 1 22 v1 rfl rfl)
  have k1 := h1
  have lt1 : ∀ x ∈ p1, x.block < W.heap.size := by obtain ⟨m, hm⟩ := k1; exact DataW.trod_lt m _ _ _ hm
  obtain ⟨hm1, xs1, hl1, hS1, hg1⟩ : len1 ≤ maxLen ∧ ∃ xs : List Nat, xs.length = len1 ∧ Src W 1 a1 len1 cap1 (xs.flatMap encB) ∧ ∀ b ∈ xs, (fun p : Nat => p < 256) b := by
    obtain ⟨fuel, hf⟩ := h1
    exact open_rows encB (fun p : Nat => p < 256) 1 Try.underlying22 (by kernel_rfl) (fun _ => rfl) (fun n cs y h _ => byte_el h) (by simpa [Value.cells] using hf)
  have hc1 : len1 ≤ cap1 := by
    obtain ⟨fuel, hf⟩ := h1
    exact open_cap Try.underlying22 (by simpa [Value.cells] using hf)
  clear hA0 hval0
  refine (walk a0 a1 len1 cap1 xs1 W w0 hl1 hm1 hS1 hg1 hc1).mono fun e W' ⟨he, bel⟩ => ?_
  subst he
  exact ⟨_, rfl, _, _, _, [], _, [], hW', trodAll_mk1 (shut_bool Try.underlying4 _), (trodAll_cons_mk (shut_int Try.underlying23 w0) (trodAll_cons_mk (Below.trod laidOut (by kernel_rfl) (of_decide_eq_true (by kernel_rfl)) k1 bel lt1) trodAll_mk0)), rfl, bel.frame _, fun h => by cases h⟩

theorem over : Rows.adlerBytesRow.holds Try.pinned (OpenSpec.ofChange Rows.adlerBytesSpec) :=
  OpenClaim.holds_of_wide 5 Try.f5 rfl rfl rfl rfl rfl rfl rfl ⟨rfl, rfl, rfl, rfl, rfl⟩ rfl rfl rfl rfl rfl (by kernel_rfl) Try.func5 (by kernel_rfl)
    (of_decide_eq_true (by kernel_rfl)) (by unfold Func.isWrapper; first | (rw [if_pos (by decide +kernel)]; kernel_rfl) | (rw [if_neg (by decide +kernel)]; exact ⟨rfl, rfl⟩))
    (fun os started H enc _ => lifted os started H enc)

theorem proved : Rows.AdlerBytesSaid := over
#print axioms proved
end Go.Proofs.Ytgfdinclhakjhaa.adlerbytes
