/- Merged by program: RUnp. -/
import Derived.Test.YtmmilchmnimjoaaGreatN25
import Derived.Test.YtmmilchmnimjoaaGreatN26
import Derived.Test.YtmmilchmnimjoaaGreatN32
import Derived.Deep.RegionHeld3
/- The document's own Unpack of stage 8, where bytes were packed: whatever is behind. (Written by wip/tools/mkrunp.py.) -/
namespace Go.Proofs.YtmmilchmnimjoaaGreat
open Go.RowKit
set_option linter.unusedVariables false
set_option linter.unusedSimpArgs false
theorem held_moreU {P : Program} {md : Region.Mode} {ops : Array Oper} {Q : Exit → Act → World → Prop} {S T : World → Prop} (hT : ∀ w, T w → S w) : ∀ (fuel : Nat) (listed : Array Bool) (a : Act) (w : World), wpAnyH P md ops Q T fuel listed a w → wpAnyH P md ops Q S fuel listed a w
  | 0, _, _, _, h => h
  | fuel + 1, _, _, _, h => ⟨h.1, fun i hi => wpOp_mono (fun a' w' h' => ⟨hT _ h'.1, held_moreU hT fuel _ a' w' h'.2⟩) (h.2 i hi)⟩
theorem head_cells {w : World} {A : Option Addr} {n c : Nat} {L : List Bool} {bs ms : List Nat} (h : Src w 1 A n c (ucells (zpk L bs ++ ms))) : ∃ b off, A = some ⟨b, off, none⟩ ∧ w.cell? ⟨b, off, none⟩ = some (.int .u8 120) ∧ w.cell? ⟨b, off + 1, none⟩ = some (.int .u8 (156 : Nat)) := by
  obtain ⟨b, off, rfl, hcell⟩ := h.plain (by rw [ucells_len]; simp [zpk])
  exact ⟨b, off, rfl, hcell 0 _ rfl, hcell 1 _ rfl⟩
def RUTo (w : World) (bs : List Nat) (m n : Nat) (e : Ending) (w' : World) : Prop :=
  ∃ (A : Option Addr) (c : Nat), e = .returned (.tuple #[.slice A m c, .int .i64 (n : Nat), .int .i64 0]) ∧ w'.ownsRow 0 5 1 (.slice A m c) m (ucells bs) ∧ Chg NoS w w'
set_option maxHeartbeats 4000000 in
set_option maxRecDepth 100000 in
theorem runpack_ok (j : Nat) (bs ms : List Nat) (L : List Bool) (A : Option Addr) (n c : Nat) (w : World) (hP : Packed j bs L) (hb : ∀ x ∈ bs, x < 256) (hms : ∀ x ∈ ms, x < 256) (hl : bs.length ≤ 1500) (hml : ms.length ≤ 300) (hn : n = (zpk L bs).length + ms.length) (hc : n ≤ c)
    (hS : Src w 1 A n c (ucells (zpk L bs ++ ms))) : Calls Tryz.prog 9 #[.slice A n c, .int .i64 (bs.length : Nat)] w (RUTo w bs bs.length (zpk L bs).length) := by
  have hpl := packed_len hP
  have hzl := zpk_len L bs
  have hnb := nby_of L
  have hbl : (bytesOf false L).length ≤ 99000 := by rw [bytesOf_length]; unfold nby; omega
  obtain ⟨b, off, hA, hc0, hc1⟩ := head_cells hS
  obtain ⟨m, hm⟩ : ∃ m, m = (bytesOf false L).length := ⟨_, rfl⟩
  have hB2 : ∀ x ∈ bytesOf false L ++ (b4 (sumA bs) ++ ms), x < 256 := by
    intro x hx
    rcases List.mem_append.1 hx with h | h
    · exact byte_lt x h
    · rcases List.mem_append.1 h with h | h
      · exact b4_lt _ (sum_lt bs) x h
      · exact hms x h
  have hB2l : (bytesOf false L ++ (b4 (sumA bs) ++ ms)).length = n - 2 := by
    simp only [List.length_append, b4_len]
    omega
  have hS2 : Src w 1 (cutA A 2 c) (bytesOf false L ++ (b4 (sumA bs) ++ ms)).length (c - 2) (ucells (bytesOf false L ++ (b4 (sumA bs) ++ ms))) := by
    have h := src_cut (lo := 2) (m := n - 2) hS hc (by omega)
    rw [hB2l]
    have e : ((ucells (zpk L bs ++ ms)).drop 2).take (n - 2) = ucells (bytesOf false L ++ (b4 (sumA bs) ++ ms)) := by
      rw [List.take_of_length_le (by simp [ucells, zpk, b4_len]; omega)]
      simp [ucells, zpk]
    rwa [e] at h
  have hS4 : Src w 1 (cutA A (m + 2) c) 4 (c - (m + 2)) (ucells (b4 (sumA bs))) := by
    have h := src_cut (lo := m + 2) (m := 4) hS hc (by omega)
    have e : ((ucells (zpk L bs ++ ms)).drop (m + 2)).take 4 = ucells (b4 (sumA bs)) := by
      have e1 : (zpk L bs ++ ms).drop (m + 2) = b4 (sumA bs) ++ ms := by
        show (bytesOf false L ++ b4 (sumA bs) ++ ms).drop m = _
        rw [hm, List.append_assoc, List.drop_left]
      have e2 : (b4 (sumA bs) ++ ms).take 4 = b4 (sumA bs) := by
        have h4 := List.take_left (l₁ := b4 (sumA bs)) (l₂ := ms)
        rwa [b4_len] at h4
      unfold ucells
      rw [← List.map_drop, ← List.map_take, e1, e2]
    rwa [e] at h
  have HCH := keepf (fun (W : World) h0 h1 => rcheck_h 156 n c b off W (by omega) (by omega) (by omega) (by omega) h0 h1)
  have HR := keepf (fun (W : World) (h : Chg NoS w W) => rinflate_ok (bytesOf false L ++ (b4 (sumA bs) ++ ms)) bs (cutA A 2 c) (c - 2) bs.length L.length W (Src.below (w0 := w) hS2 h) hB2 (by omega) (by omega) (packed_more (ms := b4 (sumA bs) ++ ms) hP hb (Nat.le_refl _)))
  rw [hB2l] at HR
  have HSU := keepf (fun (W : World) (A3 : Option Addr) (c3 : Nat) (h : Src W 1 A3 bs.length c3 (ucells bs)) (h2 : bs.length ≤ c3) => rsum_src bs A3 c3 W h h2 hb (by omega))
  have HBY := keepf (fun (W : World) => refBytes_any (sumA bs) W (sum_lt bs))
  have HS4 := keepf hS4
  have HN0 := keepf hc0
  have HN1 := keepf hc1
  have hfrom : ∀ W : World, (Instr.sliceAt 22 (.slice A n c) (some (.int .i64 2)) none none).run Tryz.prog W = .ok (.slice (cutA A 2 c) (n - 2) (c - 2)) W := fun W => fromB A n c 2 (by omega) W
  have hmid : ∀ W : World, (Instr.sliceAt 22 (.slice A n c) (some (.int .i64 ((m : Int) + 2))) (some (.int .i64 ((m : Int) + 6))) none).run Tryz.prog W = .ok (.slice (cutA A (m + 2) c) 4 (c - (m + 2))) W := fun W => by
    have h := midB A n c (m + 2) (m + 6) (by omega) (by omega) W
    rw [show m + 6 - (m + 2) = 4 from by omega] at h
    simpa using h
  have d3 : decide ((n : Int) < (m : Int) + 6) = false := by simp; omega
  have hmn : m + 6 ≤ n := by omega
  have w2_ : IntKind.i64.wrap ((m : Int) + 2) = (m : Int) + 2 := by rw [IntKind.wrap_i64]; omega
  have w6_ : IntKind.i64.wrap ((m : Int) + 6) = (m : Int) + 6 := by rw [IntKind.wrap_i64]; omega
  have hm99 : m ≤ 99000 := by omega
  have d1 : decide ((bs.length : Int) < 0) = false := by simp
  have d2 : decide ((16777216 : Int) < (bs.length : Int)) = false := by simp; omega
  have d2' : decide (16777216 < bs.length) = false := by simp; omega
  have HM := keepf (show (L.length + 7) / 8 = m by rw [hm, hnb])
  have HZ := keepf (show (zpk L bs).length = m + 6 by omega)
  obtain ⟨x, hx⟩ : ∃ x, x = sumA bs := ⟨_, rfl⟩
  rw [← hx] at HSU HBY HS4
  obtain ⟨q, hq⟩ : ∃ q, q = bs.length := ⟨_, rfl⟩
  rw [← hq] at d1 d2 d2' HR HSU ⊢
  have HQ := keepf hq
  have hq15 : q ≤ 1500 := by omega
  rw [HZ.out]
  subst hA
  clear hS hb hms hP hn hpl hzl hnb hbl hm hB2 hB2l hS2 hS4 hc0 hc1 hx hq hl hml
  go_enter Tryz.func9, Tryz.ntmps9
  go_upto_region 6 with (go_at_call 11; refine (HCH.out _ HN0.out HN1.out).mono ?_; rintro e w1 ⟨rfl, q1, hw1⟩; have HC1 := keepf (show Chg NoS w w1 by rw [hw1]; exact (Chg.refl NoS w).drewN q1); clear hw1)
  go_upto_region 11 with (go_at_call 19; refine (HR.out _ HC1.out).mono ?_; rintro e w3 ⟨A3, c3, rfl, ho3, hc3, _⟩; rw [← HQ.out] at ho3 ⊢; rw [HM.out]; have HO3 := keepf ho3; have HC3 := keepf (HC1.out.trans hc3 (fun _ _ e => e)); clear ho3 hc3)
  obtain ⟨s4, hs4⟩ : ∃ s4, s4 = bstr (b4 x) := ⟨_, rfl⟩
  have HS5 := keepf hs4
  have HCV := keepf (fun (W : World) (h : Chg NoS w3 W) => (show Cs (cutA (some ⟨b, off, none⟩) (m + 2) c) 4 (c - (m + 2)) s4 W by rw [hs4]; exact conv_src (Src.below (w0 := w) HS4.out (HC3.out.trans h (fun _ _ e => e)))))
  have HSU3 := keepf (HSU.out w3.drew A3 c3 (Src.below (w0 := w3) (src_own HO3.out) (Chg.refl NoS w3).drew) (own_cap7 HO3.out))
  clear hs4
  refine wp_region_held_drew (S := (fun w' => Cs (cutA (some ⟨b, off, none⟩) (m + 2) c) 4 (c - (m + 2)) s4 w')) (by kernel_rfl) (HCV.out _ (Chg.refl NoS w3).drew) (fun hHeld => ?_)
  refine wpAnyH_take (i := 0) (oi := { dst := some 38, op := Go.Op.move (Go.Operand.tmp 0), type := 22, pos := _, after := _, guard := none }) (v := ?_) rfl (by kernel_rfl) (by kernel_rfl) (by kernel_rfl) (fun _ _ _ h => h) (Or.inl ⟨by rfl, ?_⟩) (by assumption) ?_
  rotate_left
  · intro w hSw; (try dsimp only at hSw); (first | (go_simp; done) | (go_simp; with_reducible rfl))
  try simp only [Act.put, List.setIfInBounds_toArray, List.set_cons_zero, List.set_cons_succ]
  refine wpAnyH_take (i := 1) (oi := { dst := some 39, op := Go.Op.move (Go.Operand.tmp 9), type := 3, pos := _, after := _, guard := none }) (v := ?_) rfl (by kernel_rfl) (by kernel_rfl) (by kernel_rfl) (fun _ _ _ h => h) (Or.inl ⟨by rfl, ?_⟩) (by assumption) ?_
  rotate_left
  · intro w hSw; (try dsimp only at hSw); (first | (go_simp; done) | (go_simp; with_reducible rfl))
  try simp only [Act.put, List.setIfInBounds_toArray, List.set_cons_zero, List.set_cons_succ]
  refine wpAnyH_take (i := 2) (oi := { dst := some 40, op := Go.Op.binOp Go.BinOp.add 3 (Go.Operand.tmp 39) (Go.Operand.const (Go.Value.int Go.IntKind.i64 2)) 3, type := 3, pos := _, after := _, guard := none }) (v := ?_) rfl (by kernel_rfl) (by kernel_rfl) (by kernel_rfl) (fun _ _ _ h => h) (Or.inl ⟨by rfl, ?_⟩) (by assumption) ?_
  rotate_left
  · intro w hSw; (try dsimp only at hSw); (first | (go_simp; done) | (go_simp; with_reducible rfl))
  try simp only [Act.put, List.setIfInBounds_toArray, List.set_cons_zero, List.set_cons_succ]
  refine wpAnyH_take (i := 3) (oi := { dst := some 41, op := Go.Op.move (Go.Operand.tmp 9), type := 3, pos := _, after := _, guard := none }) (v := ?_) rfl (by kernel_rfl) (by kernel_rfl) (by kernel_rfl) (fun _ _ _ h => h) (Or.inl ⟨by rfl, ?_⟩) (by assumption) ?_
  rotate_left
  · intro w hSw; (try dsimp only at hSw); (first | (go_simp; done) | (go_simp; with_reducible rfl))
  try simp only [Act.put, List.setIfInBounds_toArray, List.set_cons_zero, List.set_cons_succ]
  refine wpAnyH_take (i := 4) (oi := { dst := some 42, op := Go.Op.binOp Go.BinOp.add 3 (Go.Operand.tmp 41) (Go.Operand.const (Go.Value.int Go.IntKind.i64 6)) 3, type := 3, pos := _, after := _, guard := none }) (v := ?_) rfl (by kernel_rfl) (by kernel_rfl) (by kernel_rfl) (fun _ _ _ h => h) (Or.inl ⟨by rfl, ?_⟩) (by assumption) ?_
  rotate_left
  · intro w hSw; (try dsimp only at hSw); (first | (go_simp; done) | (go_simp; with_reducible rfl))
  try simp only [Act.put, List.setIfInBounds_toArray, List.set_cons_zero, List.set_cons_succ]
  refine wpAnyH_take (i := 5) (oi := { dst := some 43, op := Go.Op.slice 22 (Go.Operand.tmp 38) (some (Go.Operand.tmp 40)) (some (Go.Operand.tmp 42)) none, type := 22, pos := _, after := _, guard := none }) (v := ?_) rfl (by kernel_rfl) (by kernel_rfl) (by kernel_rfl) (fun _ _ _ h => h) (Or.inl ⟨by rfl, ?_⟩) (by assumption) ?_
  rotate_left
  · intro w hSw; (try dsimp only at hSw); (first | (go_simp; done) | (go_simp; with_reducible rfl))
  try simp only [Act.put, List.setIfInBounds_toArray, List.set_cons_zero, List.set_cons_succ]
  refine wpAnyH_take (i := 6) (oi := { dst := some 44, op := Go.Op.convert 22 9 (Go.Operand.tmp 43), type := 9, pos := _, after := _, guard := none }) (v := ?_) rfl (by kernel_rfl) (by kernel_rfl) (by kernel_rfl) (fun _ _ _ h => h) (Or.inl ⟨by rfl, ?_⟩) (by assumption) ?_
  rotate_left
  · intro w hSw; (try dsimp only at hSw); (first | (go_simp; done) | (go_simp; with_reducible rfl))
  try simp only [Act.put, List.setIfInBounds_toArray, List.set_cons_zero, List.set_cons_succ]
  refine wpAnyH_take (i := 7) (oi := { dst := some 45, op := Go.Op.move (Go.Operand.tmp 8), type := 22, pos := _, after := _, guard := none }) (v := ?_) rfl (by kernel_rfl) (by kernel_rfl) (by kernel_rfl) (fun _ _ _ h => h) (Or.inl ⟨by rfl, ?_⟩) (by assumption) ?_
  rotate_left
  · intro w hSw; (try dsimp only at hSw); (first | (go_simp; done) | (go_simp; with_reducible rfl))
  try simp only [Act.put, List.setIfInBounds_toArray, List.set_cons_zero, List.set_cons_succ]
  refine wpAnyH_ready (rs := [8]) (by kernel_rfl) (by simp) ?_
  refine AllReadyH.cons (o := { dst := some 46, op := Go.Op.call { callee := Go.Callee.value (Go.Operand.func 21), args := #[Go.Operand.tmp 45], argTypes := #[22] }, type := 42, pos := _, after := _, guard := none }) rfl (fun K hK => ?_) AllReadyH.nil
  go_simp
  (go_at_call 21; refine HSU3.out.mono ?_; rintro e w4 ⟨rfl, rfl⟩)
  refine hK.out _ _ (HCV.out _ (Chg.refl NoS w3).drew) (fun hHeld => ?_)
  clear hK K
  try simp only [Act.put, List.setIfInBounds_toArray, List.set_cons_zero, List.set_cons_succ]
  refine wpAnyH_ready (rs := [9]) (by kernel_rfl) (by simp) ?_
  refine AllReadyH.cons (o := { dst := some 47, op := Go.Op.call { callee := Go.Callee.value (Go.Operand.func 20), args := #[Go.Operand.tmp 46], argTypes := #[42] }, type := 22, pos := _, after := _, guard := none }) rfl (fun K hK => ?_) AllReadyH.nil
  go_simp
  (go_at_call 20; refine (HBY.out _).mono ?_; rintro e w5 ⟨rfl, hw5⟩; have HC5 := keepf (show Chg NoS w3 w5 by rw [hw5]; exact ((Chg.refl NoS w3).drew).alloc _); obtain ⟨g5, hg5⟩ : ∃ g5, g5 = w3.drew.heap.size := ⟨_, rfl⟩; have HV5 := keepf (show (fun w' => Cs (some ⟨g5, 0, none⟩) 4 4 s4 w' ∧ Cs (cutA (some ⟨b, off, none⟩) (m + 2) c) 4 (c - (m + 2)) s4 w') w5 from ⟨by rw [hg5, HS5.out, hw5]; exact conv_src (src_own (own_of w3.drew 5 (ucells (b4 x)).toArray 4 (by simp [ucells, b4]) (by omega))), HCV.out _ HC5.out⟩); have HV5r := keepf (HCV.out _ HC5.out); rw [← hg5]; clear hw5 hg5)
  refine hK.out _ _ HV5r.out (fun hHeld => ?_)
  clear hK K
  try simp only [Act.put, List.setIfInBounds_toArray, List.set_cons_zero, List.set_cons_succ]
  refine held_moreU (T := (fun w' => Cs (some ⟨g5, 0, none⟩) 4 4 s4 w' ∧ Cs (cutA (some ⟨b, off, none⟩) (m + 2) c) 4 (c - (m + 2)) s4 w')) (fun _ h => h.2) _ _ _ _ ?_
  have hHeld3 := HV5.out
  refine wpAnyH_take (i := 10) (oi := { dst := some 48, op := Go.Op.convert 22 9 (Go.Operand.tmp 47), type := 9, pos := _, after := _, guard := none }) (v := ?_) rfl (by kernel_rfl) (by kernel_rfl) (by kernel_rfl) (fun _ _ _ h => h) (Or.inl ⟨by rfl, ?_⟩) (by assumption) ?_
  rotate_left
  · intro w hSw; (try dsimp only at hSw); (first | (go_simp; done) | (go_simp; with_reducible rfl))
  try simp only [Act.put, List.setIfInBounds_toArray, List.set_cons_zero, List.set_cons_succ]
  refine wpAnyH_take (i := 11) (oi := { dst := some 49, op := Go.Op.binOp Go.BinOp.neq 9 (Go.Operand.tmp 44) (Go.Operand.tmp 48) 9, type := 4, pos := _, after := _, guard := none }) (v := ?_) rfl (by kernel_rfl) (by kernel_rfl) (by kernel_rfl) (fun _ _ _ h => h) (Or.inl ⟨by rfl, ?_⟩) (by assumption) ?_
  rotate_left
  · intro w hSw; (try dsimp only at hSw); (first | (go_simp; done) | (go_simp; with_reducible rfl))
  try simp only [Act.put, List.setIfInBounds_toArray, List.set_cons_zero, List.set_cons_succ]
  refine wpAnyH_done (by kernel_rfl) ?_ _
  go_wp2_with fail
  go_ret3
  exact ⟨A3, c3, rfl, own_chg (S := NoS) HO3.out HC5.out (fun _ _ e => e), HC3.out.trans HC5.out (fun _ _ e => e)⟩
end Go.Proofs.YtmmilchmnimjoaaGreat
