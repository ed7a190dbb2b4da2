/- Merged by program: RefL RefM RefN. -/
import Derived.Test.YtmmilchmnimjoaaGreatN08
import Derived.Test.YtmmilchmnimjoaaGreatN10
import Derived.Test.YtmmilchmnimjoaaGreatN23
/- The document's own unpacking: the lengths of a block's codes. -/
namespace Go.Proofs.YtmmilchmnimjoaaGreat
open Go.RowKit
set_option linter.unusedVariables false
set_option linter.unusedSimpArgs false
section
variable {bs : List Nat} {most a last b n ns : Nat} {out r : List Nat} {ls l : List Int}
theorem run_inv {bb times : Nat} {v : Int} (h : Runs bs most ⟨a, out, .lens ls l n ns last⟩ (.ok r b)) {x : Nx} (hs : Step bs most ⟨a, out, .lens ls l n ns last⟩ x) (e : stRun bb out ls l n ns last times v = x) :
    times ≤ n - l.length ∧ Runs bs most ⟨bb, out, .lens ls (l ++ List.replicate times v) n ns last⟩ (.ok r b) := by
  unfold stRun at e
  split at e
  · subst e
    cases h with
    | stop h => cases h.one hs
    | go h k => cases h.one hs
  · subst e
    cases h with
    | stop h => cases h.one hs
    | go h k =>
      have := h.one hs
      injection this with this
      subst this
      exact ⟨by omega, k⟩
inductive Adds (bs : List Nat) (l : List Int) (a s : Nat) : Nat → Nat → Int → Prop
  | one (h : s < 16) : Adds bs l a s 0 1 s
  | again (h : s = 16) (h0 : l ≠ []) (h1 : a + 2 ≤ 8 * bs.length) : Adds bs l a s 2 (3 + numAt false bs a 2) (l.getD (l.length - 1) 0)
  | zeros (h : s = 17) (h1 : a + 3 ≤ 8 * bs.length) : Adds bs l a s 3 (3 + numAt false bs a 3) 0
  | many (h : s = 18) (h1 : a + 7 ≤ 8 * bs.length) : Adds bs l a s 7 (11 + numAt false bs a 7) 0
theorem runs_lens (hl : ls.length ≤ 19) (h : Runs bs most ⟨a, out, .lens ls l n ns last⟩ (.ok r b)) :
    (n ≤ l.length ∧ l.getD 256 0 ≠ 0 ∧ May (l.take ns) ∧ May (l.drop ns) ∧ Runs bs most ⟨a, out, .coded (l.take ns) (l.drop ns) last⟩ (.ok r b)) ∨
    (l.length < n ∧ ∃ s m nb times v, Out ls (leftBits false bs a) s m 0 ∧ Adds bs l (a + m) s nb times v ∧ times ≤ n - l.length ∧ Runs bs most ⟨a + m + nb, out, .lens ls (l ++ List.replicate times v) n ns last⟩ (.ok r b)) := by
  have key : ∀ x, Step bs most ⟨a, out, .lens ls l n ns last⟩ x → x = .inr (.ok r b) ∨ ∃ t, x = .inl t ∧ Runs bs most t (.ok r b) := by
    intro x hx
    cases h with
    | stop h => exact .inl (hx.one h)
    | go h k => exact .inr ⟨_, hx.one h, k⟩
  have hstep : ∃ x, Step bs most ⟨a, out, .lens ls l n ns last⟩ x := by
    cases h with
    | stop h => exact ⟨_, h⟩
    | go h k => exact ⟨_, h⟩
  obtain ⟨x, hx⟩ := hstep
  have hk := key x hx
  cases hx with
  | lensEnd hn e =>
    refine .inl ⟨hn, ?_⟩
    unfold stEnd at e
    repeat' split at e
    · subst e; rcases hk with hk | ⟨t, hk, _⟩ <;> cases hk
    · subst e; rcases hk with hk | ⟨t, hk, _⟩ <;> cases hk
    · subst e; rcases hk with hk | ⟨t, hk, _⟩ <;> cases hk
    · rename_i h1 h2 h3
      subst e
      rcases hk with hk | ⟨t, hk, k⟩
      · cases hk
      · injection hk with hk
        subst hk
        exact ⟨h1, by simpa using h2, by simpa using h3, k⟩
  | @lens _ _ _ _ _ _ _ s m k _ hn o e =>
    refine .inr ⟨hn, ?_⟩
    have hs := Step.lens (most := most) (last := last) (ns := ns) hn o e
    have e0 := e
    unfold stLens at e
    by_cases h0 : k = 0
    · subst h0
      rw [if_neg (by simp)] at e
      have hol := out_le o
      by_cases c1 : s = 16
      · rw [if_pos c1] at e
        split at e
        · subst e; rcases hk with hk | ⟨t, hk, _⟩ <;> cases hk
        · split at e
          · subst e; rcases hk with hk | ⟨t, hk, _⟩ <;> cases hk
          · rename_i q1 q2
            obtain ⟨q3, q4⟩ := run_inv h hs e
            exact ⟨s, m, 2, _, _, o, .again c1 (fun hh => q2 (by rw [hh]; rfl)) (by omega), q3, q4⟩
      · rw [if_neg c1] at e
        by_cases c2 : s = 17
        · rw [if_pos c2] at e
          split at e
          · subst e; rcases hk with hk | ⟨t, hk, _⟩ <;> cases hk
          · rename_i q1
            obtain ⟨q3, q4⟩ := run_inv h hs e
            exact ⟨s, m, 3, _, _, o, .zeros c2 (by omega), q3, q4⟩
        · rw [if_neg c2] at e
          by_cases c3 : s = 18
          · rw [if_pos c3] at e
            split at e
            · subst e; rcases hk with hk | ⟨t, hk, _⟩ <;> cases hk
            · rename_i q1
              obtain ⟨q3, q4⟩ := run_inv h hs e
              exact ⟨s, m, 7, _, _, o, .many c3 (by omega), q3, q4⟩
          · rw [if_neg c3] at e
            obtain ⟨q3, q4⟩ := run_inv h hs e
            exact ⟨s, m, 0, _, _, o, .one (by omega), q3, q4⟩
    · rw [if_pos h0] at e
      subst e
      rcases hk with hk | ⟨t, hk, _⟩ <;> cases hk
end
end Go.Proofs.YtmmilchmnimjoaaGreat
/- The document's own unpacking: the lengths of a block's codes, walked. -/
namespace Go.Proofs.YtmmilchmnimjoaaGreat
open Go.RowKit
set_option linter.unusedVariables false
set_option linter.unusedSimpArgs false
theorem RS.grown {w w' : World} {g a most : Nat} {bs out : List Nat} {V So v : Value} {n : Nat} {xs : List Value} {o : Obj} (h : RS w g bs V a out So most) (ho : w.ownsRow 0 3 1 v n xs) (hg : (w.alloc o).grownBy w' v.ownBlock) : RS w' g bs V a out So most := by
  have hc : Chg (fun i => v.ownBlock = some i) w w' := ((Chg.refl _ w).alloc o).grown hg (fun k e _ => e)
  exact ⟨(h.blk.alloc o).grown hg (fun e => own_ne_blk ho h.blk (by decide) e.symm), own_chg h.bits hc (fun i hi e => own_apart h.bits ho (by decide) hi e), own_chg h.own hc (fun i hi e => own_apart h.own ho (by decide) hi e), h.le, h.len, h.mst, h.ole⟩
structure LSt (w wr : World) (g : Nat) (bs : List Nat) (V : Value) (a : Nat) (out : List Nat) (So : Value) (most : Nat) (L : List Int) (A2 : Option Addr) (c2 : Nat) : Prop where
  rs : RS wr g bs V a out So most
  rm : RM g w So wr So
  row : wr.ownsRow 0 3 1 (.slice A2 L.length c2) L.length (icells L)
  new : ∀ x, A2 = some x → w.heap.size ≤ x.block
theorem LSt.step {w wr w' : World} {g a b most : Nat} {bs out : List Nat} {V So : Value} {L : List Int} {A2 : Option Addr} {c2 : Nat} (h : LSt w wr g bs V a out So most L A2 c2) (hr : RS w' g bs V b out So most) (hm : RM g wr So w' So) : LSt w w' g bs V b out So most L A2 c2 :=
  ⟨hr, h.rm.trans hm, h.rs.keep hm h.row (by decide) (by decide), h.new⟩
theorem LSt.turn {w wr w' : World} {g a most : Nat} {bs out : List Nat} {V So : Value} {L : List Int} {A2 A3 : Option Addr} {c2 c3 : Nat} {o : Obj} {v : Int} (h : LSt w wr g bs V a out So most L A2 c2) (hg : (wr.alloc o).grownBy w' (Value.slice A2 L.length c2).ownBlock)
    (ho : w'.ownsRow 0 3 1 (.slice A3 (L.length + 1) c3) (L.length + 1) (icells L ++ [.int .i64 v])) (hat : (Value.slice A3 (L.length + 1) c3).ownBlock = (Value.slice A2 L.length c2).ownBlock ∨ (Value.slice A3 (L.length + 1) c3).ownBlock = some (wr.alloc o).heap.size) :
    LSt w w' g bs V a out So most (L ++ [v]) A3 c3 := by
  have hs := h.rm.1.size
  have hc : Chg (fun i => (Value.slice A2 L.length c2).ownBlock = some i) wr w' := ((Chg.refl _ wr).alloc o).grown hg (fun k e _ => e)
  refine ⟨h.rs.grown h.row hg, ⟨h.rm.1.trans hc (fun i hi e => ?_), fun i hi e => e⟩, ?_, ?_⟩
  · rcases A2 with _ | x
    · simp [Value.ownBlock] at e
    · have := h.new x rfl
      simp [Value.ownBlock] at e
      omega
  · rw [List.length_append, List.length_singleton, show icells (L ++ [v]) = icells L ++ [.int .i64 v] from by simp [icells]]
    exact ho
  · rintro x rfl
    rcases hat with e | e
    · rcases A2 with _ | y
      · simp [Value.ownBlock] at e
      · have := h.new y rfl
        simp [Value.ownBlock] at e
        omega
    · simp [Value.ownBlock] at e
      omega
theorem src_int1 (w : World) (x : Int) : Src (w.alloc (.cells #[.int .i64 x] 3)) 1 (some ⟨w.heap.size, 0, none⟩) 1 1 [.int .i64 x] :=
  ⟨rfl, fun h => (by cases h), fun ad had j u hu => by
    cases had
    match j, hu with
    | 0, hu => simp at hu; subst hu; simp [Addr.add]
    | j + 1, hu => simp at hu⟩
theorem info_sint : (Tryz.prog.info? 3).map (fun i => (i.zero, i.size, i.bytes)) = some (some (.int .i64 0), 1, 8) := by kernel_rfl
def RLenTo (w : World) (g : Nat) (bs : List Nat) (V : Value) (a : Nat) (out : List Nat) (So : Value) (most : Nat) (cl : List Int) (n ns last : Nat) (r : List Nat) (b : Nat) (e : Ending) (w' : World) : Prop :=
  ∃ (L : List Int) (a1 : Nat) (A2 : Option Addr) (c2 : Nat), e = .returned (.slice A2 n c2) ∧ LSt w w' g bs V a1 out So most L A2 c2 ∧ L.length = n ∧ Runs bs most ⟨a1, out, .lens cl L n ns last⟩ (.ok r b) ∧ a ≤ a1
set_option maxHeartbeats 4000000 in
set_option maxRecDepth 100000 in
theorem rlengths_ok (g a most last b n ns : Nat) (bs out r : List Nat) (V So : Value) (w : World) (cl : List Int) (A A1 : Option Addr) (c c1 : Nat) (h : RS w g bs V a out So most) (hM : May cl) (h19 : cl.length ≤ 19) (hn : n ≤ 400) (hbs : 0 < bs.length)
    (hL : ∀ W, Chg (fun i => i = g ∨ So.ownBlock = some i) w W → LRow W A c cl) (hK : ∀ W, Chg (fun i => i = g ∨ So.ownBlock = some i) w W → KRow W A1 c1 cl)
    (hr : Runs bs most ⟨a, out, .lens cl [] n ns last⟩ (.ok r b)) :
    Calls Tryz.prog 60 #[.pointer (some ⟨g, 0, none⟩), .slice A cl.length c, .slice A1 cl.length c1, .int .i64 n] w (RLenTo w g bs V a out So most cl n ns last r b) := by
  have HM := keepf hM
  have HL := keepf hL
  have HK := keepf hK
  have HS0 := keepf (show LSt w w g bs V a out So most [] none 0 from ⟨h, RM.refl _ _ _, own_nil _ _ _ _, fun x hx => by cases hx⟩)
  have HR := keepf hr
  obtain ⟨n1, hn1⟩ : ∃ n, n = cl.length := ⟨_, rfl⟩
  have HN1 := keepf hn1
  rw [← hn1] at ⊢
  obtain ⟨i0, hi, hz0, hz1, hz2⟩ := info_parts info_sint
  clear h hM hL hK hr hn1
  go_enter Tryz.func60, Tryz.ntmps60
  go_wp2_with fail
  go_loopw [9, 10] (fun vo vk wr => ∃ (k m0 a1 : Nat) (L : List Int) (A2 : Option Addr) (c2 : Nat), k ≤ m0 ∧ m0 ≤ n ∧ vk = .int .i64 k ∧ vo = .slice A2 m0 c2 ∧ Hid (m0 = L.length) ∧ Hid (LSt w wr g bs V a1 out So most L A2 c2) ∧ Hid (Runs bs most ⟨a1, out, .lens cl L n ns last⟩ (.ok r b)) ∧ Hid (a ≤ a1)) (fun _ vk _ => n - (intOf vk).toNat)
  case atStart => exact ⟨0, 0, a, [], none, 0, Nat.le_refl _, Nat.zero_le _, rfl, rfl, rfl, HS0.out, HR.out, Nat.le_refl _⟩
  case round =>
    clear HS0
    obtain ⟨k, m0, a1, L, A2, c2, hk, hm0, rfl, rfl, HML, HST, HRN, HAA⟩ := hrel
    rename World => wo
    have e2 := HST.out.rs.blk.cell 2
    simp at e2
    by_cases hlt : m0 < n
    · have hkn : k < n := by omega
      have hrl := (runs_lens h19 HRN.out).resolve_left (fun hh => by have := HML.out; omega)
      obtain ⟨_, s, m, nb, times, v, hout, hadd, htm, hrun⟩ := hrl
      have hol := out_le hout
      have hs19 : s < 19 := by have := HN1.out; omega
      have HSY := keepf (rsymbol_ok g a1 most s m bs out V So wo cl A A1 c c1 HST.out.rs HM.out (HL.out _ HST.out.rm.1) (HK.out _ HST.out.rm.1) hout)
      rw [← HN1.out] at HSY
      have HADD := keepf hadd
      have HRUN := keepf hrun
      rw [← HML.out] at htm
      clear hout hadd hrun hol
      go_upto_region 7 with (go_at_call 56; refine HSY.out.mono ?_; rintro e w3 ⟨rfl, hr3, hm3⟩; have HS3 := keepf (HST.out.step hr3 hm3); clear hr3 hm3)
      clear e2 HSY
      cases HADD.out with
      | one hs =>
        have u16 : ((s : Int) == 16) = false := by simp; omega
        have u17 : ((s : Int) == 17) = false := by simp; omega
        have u18 : ((s : Int) == 18) = false := by simp; omega
        have e3 := HS3.out.rs.blk.cell 2
        simp at e3
        have d1 : decide ((n : Int) - m0 < (1 : Int)) = false := by simp; omega
        have HSI := keepf (show LSt w w3 g bs V (a1 + m) out So most (L ++ List.replicate 0 (((s : Nat) : Int))) A2 c2 by rw [List.replicate_zero, List.append_nil]; exact HS3.out)
        go_upto_region 22 with fail
        go_wp2_with fail
        clear e3 d1
        go_loopw [9, 13] (fun vo vj wr => ∃ (j : Nat) (A3 : Option Addr) (c3 : Nat), j ≤ 1 ∧ vj = .int .i64 j ∧ vo = .slice A3 (m0 + j) c3 ∧ Hid (LSt w wr g bs V (a1 + m) out So most (L ++ List.replicate j (((s : Nat) : Int))) A3 c3)) (fun _ vj _ => 1 - (intOf vj).toNat)
        case atStart => exact ⟨0, A2, c2, Nat.zero_le _, rfl, rfl, HSI.out⟩
        case round =>
          clear HSI
          obtain ⟨j, A3, c3, hj, rfl, rfl, HI⟩ := hrel
          have e4 := HI.out.rs.blk.cell 2
          simp at e4
          obtain ⟨m1, hm1⟩ : ∃ m1, m1 = m0 + j := ⟨_, rfl⟩
          have HM1 := keepf hm1
          have HLN := keepf (show (L ++ List.replicate j (((s : Nat) : Int))).length = m1 by rw [List.length_append, List.length_replicate, ← HML.out, hm1])
          have hm1n : m1 ≤ 400 := by omega
          rw [← hm1]
          clear hm1
          by_cases hjt : j < 1
          · have dj : decide ((j : Int) < (1 : Int)) = true := by simp; omega
            have HOW := keepf (show wr.ownsRow 0 3 1 (.slice A3 m1 c3) m1 (icells (L ++ List.replicate j (((s : Nat) : Int)))) by rw [← HLN.out]; exact HI.out.row)
            go_wp2_with (first
              | (at_builtin; refine wpList_append_src rfl (.tmp 91) (.tmp 93) 63 rfl 3 i0 (.int .i64 0) 1 8 Tryz.underlying63 hi hz0 hz1 hz2 rfl (by decide) (.slice A3 m1 c3) m1 (icells (L ++ List.replicate j (((s : Nat) : Int)))) rfl (own_chg (S := NoS) HOW.out ((Chg.refl _ _).alloc _) (fun _ _ h => h)) _ _ _ [.int .i64 (((s : Nat) : Int))] rfl (src_int1 _ _) (by intro u hu; simp only [List.mem_singleton] at hu; subst hu; rfl) (by unfold maxLen; omega) (by omega) ?_
                 intro S2 w4 hown4 hgr4 hat4
                 obtain ⟨A4, c4, rfl, hA4⟩ := own_slice hown4
                 have HG4 := keepf hgr4
                 have HO4 := keepf hown4
                 have HA4 := keepf hat4
                 clear hown4 hgr4 hat4 hA4))
            go_roundw
            case rel =>
              have h := HI.out.turn (v := ((s : Nat) : Int)) (by rw [HLN.out]; exact HG4.out) (by rw [HLN.out]; exact HO4.out) (by rw [HLN.out]; exact HA4.out)
              rw [List.append_assoc, ← List.replicate_succ'] at h
              exact ⟨j + 1, A4, c4, by omega, by go_num, by rw [HM1.out]; rfl, h⟩
            case measure => simp [intOf]; omega
          · have dj : decide ((j : Int) < (1 : Int)) = false := by simp; omega
            obtain rfl : j = 1 := by omega
            go_wp2_with fail
            go_roundw
            case rel => exact ⟨k + 1, m1, (a1 + m), _, A3, c3, by have := HM1.out; omega, by have := HM1.out; omega, by go_num, rfl, HLN.out.symm, HI.out, HRUN.out, keepf (by have := HAA.out; omega)⟩
            case measure => simp [intOf]; omega
      | again hs hne h1 =>
        subst hs
        have hnl := numAt_lt bs (a1 + m) 2
        have HNB := keepf (rnumber_any g (a1 + m) 2 most bs out V So w3 HS3.out.rs h1 (by decide) hbs)
        obtain ⟨y, hy⟩ : ∃ y, y = numAt false bs (a1 + m) 2 := ⟨_, rfl⟩
        rw [← hy] at HNB hnl htm HRUN
        have hyl : y < 4 := hnl
        clear hnl hy
        have hL0 : 0 < m0 := by
          rw [HML.out]
          exact List.length_pos_iff.2 hne
        obtain ⟨x, hx⟩ : ∃ x, x = L.getD (L.length - 1) 0 := ⟨_, rfl⟩
        rw [← hx] at HRUN
        have HX := keepf hx
        have d16 : ((m0 : Int) == 0) = false := by simp; omega
        clear hx hne
        go_upto_region 13 with (go_at_call 34; refine HNB.out.mono ?_; rintro e w5 ⟨rfl, hr5, hm5⟩; have HS5 := keepf (HS3.out.step hr5 hm5); clear hr5 hm5)
        clear HNB
        obtain ⟨gb, cb, hA2, hb1, hb2⟩ := own_form HS5.out.row (by have := HML.out; omega)
        injection hA2 with hA2 e5 e6
        subst hA2
        clear e5 e6 hb1 hb2
        have hrow := HS5.out.row.cellAt (m0 - 1) (by have := HML.out; omega)
        have hrx : (icells L)[m0 - 1]? = some (.int .i64 x) := by
          have hlt2 : L.length - 1 < L.length := by have := HML.out; omega
          rw [HX.out, HML.out, icells, List.getElem?_map, List.getElem?_eq_getElem hlt2, List.getD_eq_getElem?_getD, List.getElem?_eq_getElem hlt2]
          rfl
        rw [hrx] at hrow
        have t1 : (0 : Int) ≤ (m0 : Int) - 1 := by omega
        have t2 : (m0 : Int) - 1 < m0 := by omega
        have t3 : ((m0 : Int) - 1).toNat = m0 - 1 := by omega
        clear hrx
        have e3 := HS5.out.rs.blk.cell 2
        simp at e3
        have d1 : decide ((n : Int) - m0 < (3 + (y : Int))) = false := by simp; omega
        have HSI := keepf (show LSt w w5 g bs V (a1 + m + 2) out So most (L ++ List.replicate 0 (x)) (some ⟨gb, 0, none⟩) c2 by rw [List.replicate_zero, List.append_nil]; exact HS5.out)
        go_upto_region 22 with fail
        go_wp2_with fail
        clear e3 d1
        go_loopw [9, 13] (fun vo vj wr => ∃ (j : Nat) (A3 : Option Addr) (c3 : Nat), j ≤ (3 + y) ∧ vj = .int .i64 j ∧ vo = .slice A3 (m0 + j) c3 ∧ Hid (LSt w wr g bs V (a1 + m + 2) out So most (L ++ List.replicate j (x)) A3 c3)) (fun _ vj _ => (3 + y) - (intOf vj).toNat)
        case atStart => exact ⟨0, some ⟨gb, 0, none⟩, c2, Nat.zero_le _, rfl, rfl, HSI.out⟩
        case round =>
          clear HSI
          obtain ⟨j, A3, c3, hj, rfl, rfl, HI⟩ := hrel
          have e4 := HI.out.rs.blk.cell 2
          simp at e4
          obtain ⟨m1, hm1⟩ : ∃ m1, m1 = m0 + j := ⟨_, rfl⟩
          have HM1 := keepf hm1
          have HLN := keepf (show (L ++ List.replicate j (x)).length = m1 by rw [List.length_append, List.length_replicate, ← HML.out, hm1])
          have hm1n : m1 ≤ 400 := by omega
          rw [← hm1]
          clear hm1
          by_cases hjt : j < (3 + y)
          · have dj : decide ((j : Int) < (3 + (y : Int))) = true := by simp; omega
            have HOW := keepf (show wr.ownsRow 0 3 1 (.slice A3 m1 c3) m1 (icells (L ++ List.replicate j (x))) by rw [← HLN.out]; exact HI.out.row)
            go_wp2_with (first
              | (at_builtin; refine wpList_append_src rfl (.tmp 91) (.tmp 93) 63 rfl 3 i0 (.int .i64 0) 1 8 Tryz.underlying63 hi hz0 hz1 hz2 rfl (by decide) (.slice A3 m1 c3) m1 (icells (L ++ List.replicate j (x))) rfl (own_chg (S := NoS) HOW.out ((Chg.refl _ _).alloc _) (fun _ _ h => h)) _ _ _ [.int .i64 (x)] rfl (src_int1 _ _) (by intro u hu; simp only [List.mem_singleton] at hu; subst hu; rfl) (by unfold maxLen; omega) (by omega) ?_
                 intro S2 w4 hown4 hgr4 hat4
                 obtain ⟨A4, c4, rfl, hA4⟩ := own_slice hown4
                 have HG4 := keepf hgr4
                 have HO4 := keepf hown4
                 have HA4 := keepf hat4
                 clear hown4 hgr4 hat4 hA4))
            go_roundw
            case rel =>
              have h := HI.out.turn (v := x) (by rw [HLN.out]; exact HG4.out) (by rw [HLN.out]; exact HO4.out) (by rw [HLN.out]; exact HA4.out)
              rw [List.append_assoc, ← List.replicate_succ'] at h
              exact ⟨j + 1, A4, c4, by omega, by go_num, by rw [HM1.out]; rfl, h⟩
            case measure => simp [intOf]; omega
          · have dj : decide ((j : Int) < (3 + (y : Int))) = false := by simp; omega
            obtain rfl : j = (3 + y) := by omega
            go_wp2_with fail
            go_roundw
            case rel => exact ⟨k + 1, m1, (a1 + m + 2), _, A3, c3, by have := HM1.out; omega, by have := HM1.out; omega, by go_num, rfl, HLN.out.symm, HI.out, HRUN.out, keepf (by have := HAA.out; omega)⟩
            case measure => simp [intOf]; omega
      | zeros hs h1 =>
        subst hs
        have hnl := numAt_lt bs (a1 + m) 3
        have HNB := keepf (rnumber_any g (a1 + m) 3 most bs out V So w3 HS3.out.rs h1 (by decide) hbs)
        obtain ⟨y, hy⟩ : ∃ y, y = numAt false bs (a1 + m) 3 := ⟨_, rfl⟩
        rw [← hy] at HNB hnl htm HRUN
        have hyl : y < 8 := hnl
        clear hnl hy
        go_upto_region 16 with (go_at_call 34; refine HNB.out.mono ?_; rintro e w5 ⟨rfl, hr5, hm5⟩; have HS5 := keepf (HS3.out.step hr5 hm5); clear hr5 hm5)
        clear HNB
        have e3 := HS5.out.rs.blk.cell 2
        simp at e3
        have d1 : decide ((n : Int) - m0 < (3 + (y : Int))) = false := by simp; omega
        have HSI := keepf (show LSt w w5 g bs V (a1 + m + 3) out So most (L ++ List.replicate 0 (0)) A2 c2 by rw [List.replicate_zero, List.append_nil]; exact HS5.out)
        go_upto_region 22 with fail
        go_wp2_with fail
        clear e3 d1
        go_loopw [9, 13] (fun vo vj wr => ∃ (j : Nat) (A3 : Option Addr) (c3 : Nat), j ≤ (3 + y) ∧ vj = .int .i64 j ∧ vo = .slice A3 (m0 + j) c3 ∧ Hid (LSt w wr g bs V (a1 + m + 3) out So most (L ++ List.replicate j (0)) A3 c3)) (fun _ vj _ => (3 + y) - (intOf vj).toNat)
        case atStart => exact ⟨0, A2, c2, Nat.zero_le _, rfl, rfl, HSI.out⟩
        case round =>
          clear HSI
          obtain ⟨j, A3, c3, hj, rfl, rfl, HI⟩ := hrel
          have e4 := HI.out.rs.blk.cell 2
          simp at e4
          obtain ⟨m1, hm1⟩ : ∃ m1, m1 = m0 + j := ⟨_, rfl⟩
          have HM1 := keepf hm1
          have HLN := keepf (show (L ++ List.replicate j (0)).length = m1 by rw [List.length_append, List.length_replicate, ← HML.out, hm1])
          have hm1n : m1 ≤ 400 := by omega
          rw [← hm1]
          clear hm1
          by_cases hjt : j < (3 + y)
          · have dj : decide ((j : Int) < (3 + (y : Int))) = true := by simp; omega
            have HOW := keepf (show wr.ownsRow 0 3 1 (.slice A3 m1 c3) m1 (icells (L ++ List.replicate j (0))) by rw [← HLN.out]; exact HI.out.row)
            go_wp2_with (first
              | (at_builtin; refine wpList_append_src rfl (.tmp 91) (.tmp 93) 63 rfl 3 i0 (.int .i64 0) 1 8 Tryz.underlying63 hi hz0 hz1 hz2 rfl (by decide) (.slice A3 m1 c3) m1 (icells (L ++ List.replicate j (0))) rfl (own_chg (S := NoS) HOW.out ((Chg.refl _ _).alloc _) (fun _ _ h => h)) _ _ _ [.int .i64 (0)] rfl (src_int1 _ _) (by intro u hu; simp only [List.mem_singleton] at hu; subst hu; rfl) (by unfold maxLen; omega) (by omega) ?_
                 intro S2 w4 hown4 hgr4 hat4
                 obtain ⟨A4, c4, rfl, hA4⟩ := own_slice hown4
                 have HG4 := keepf hgr4
                 have HO4 := keepf hown4
                 have HA4 := keepf hat4
                 clear hown4 hgr4 hat4 hA4))
            go_roundw
            case rel =>
              have h := HI.out.turn (v := 0) (by rw [HLN.out]; exact HG4.out) (by rw [HLN.out]; exact HO4.out) (by rw [HLN.out]; exact HA4.out)
              rw [List.append_assoc, ← List.replicate_succ'] at h
              exact ⟨j + 1, A4, c4, by omega, by go_num, by rw [HM1.out]; rfl, h⟩
            case measure => simp [intOf]; omega
          · have dj : decide ((j : Int) < (3 + (y : Int))) = false := by simp; omega
            obtain rfl : j = (3 + y) := by omega
            go_wp2_with fail
            go_roundw
            case rel => exact ⟨k + 1, m1, (a1 + m + 3), _, A3, c3, by have := HM1.out; omega, by have := HM1.out; omega, by go_num, rfl, HLN.out.symm, HI.out, HRUN.out, keepf (by have := HAA.out; omega)⟩
            case measure => simp [intOf]; omega
      | many hs h1 =>
        subst hs
        have hnl := numAt_lt bs (a1 + m) 7
        have HNB := keepf (rnumber_any g (a1 + m) 7 most bs out V So w3 HS3.out.rs h1 (by decide) hbs)
        obtain ⟨y, hy⟩ : ∃ y, y = numAt false bs (a1 + m) 7 := ⟨_, rfl⟩
        rw [← hy] at HNB hnl htm HRUN
        have hyl : y < 128 := hnl
        clear hnl hy
        go_upto_region 19 with (go_at_call 34; refine HNB.out.mono ?_; rintro e w5 ⟨rfl, hr5, hm5⟩; have HS5 := keepf (HS3.out.step hr5 hm5); clear hr5 hm5)
        clear HNB
        have e3 := HS5.out.rs.blk.cell 2
        simp at e3
        have d1 : decide ((n : Int) - m0 < (11 + (y : Int))) = false := by simp; omega
        have HSI := keepf (show LSt w w5 g bs V (a1 + m + 7) out So most (L ++ List.replicate 0 (0)) A2 c2 by rw [List.replicate_zero, List.append_nil]; exact HS5.out)
        go_upto_region 22 with fail
        go_wp2_with fail
        clear e3 d1
        go_loopw [9, 13] (fun vo vj wr => ∃ (j : Nat) (A3 : Option Addr) (c3 : Nat), j ≤ (11 + y) ∧ vj = .int .i64 j ∧ vo = .slice A3 (m0 + j) c3 ∧ Hid (LSt w wr g bs V (a1 + m + 7) out So most (L ++ List.replicate j (0)) A3 c3)) (fun _ vj _ => (11 + y) - (intOf vj).toNat)
        case atStart => exact ⟨0, A2, c2, Nat.zero_le _, rfl, rfl, HSI.out⟩
        case round =>
          clear HSI
          obtain ⟨j, A3, c3, hj, rfl, rfl, HI⟩ := hrel
          have e4 := HI.out.rs.blk.cell 2
          simp at e4
          obtain ⟨m1, hm1⟩ : ∃ m1, m1 = m0 + j := ⟨_, rfl⟩
          have HM1 := keepf hm1
          have HLN := keepf (show (L ++ List.replicate j (0)).length = m1 by rw [List.length_append, List.length_replicate, ← HML.out, hm1])
          have hm1n : m1 ≤ 400 := by omega
          rw [← hm1]
          clear hm1
          by_cases hjt : j < (11 + y)
          · have dj : decide ((j : Int) < (11 + (y : Int))) = true := by simp; omega
            have HOW := keepf (show wr.ownsRow 0 3 1 (.slice A3 m1 c3) m1 (icells (L ++ List.replicate j (0))) by rw [← HLN.out]; exact HI.out.row)
            go_wp2_with (first
              | (at_builtin; refine wpList_append_src rfl (.tmp 91) (.tmp 93) 63 rfl 3 i0 (.int .i64 0) 1 8 Tryz.underlying63 hi hz0 hz1 hz2 rfl (by decide) (.slice A3 m1 c3) m1 (icells (L ++ List.replicate j (0))) rfl (own_chg (S := NoS) HOW.out ((Chg.refl _ _).alloc _) (fun _ _ h => h)) _ _ _ [.int .i64 (0)] rfl (src_int1 _ _) (by intro u hu; simp only [List.mem_singleton] at hu; subst hu; rfl) (by unfold maxLen; omega) (by omega) ?_
                 intro S2 w4 hown4 hgr4 hat4
                 obtain ⟨A4, c4, rfl, hA4⟩ := own_slice hown4
                 have HG4 := keepf hgr4
                 have HO4 := keepf hown4
                 have HA4 := keepf hat4
                 clear hown4 hgr4 hat4 hA4))
            go_roundw
            case rel =>
              have h := HI.out.turn (v := 0) (by rw [HLN.out]; exact HG4.out) (by rw [HLN.out]; exact HO4.out) (by rw [HLN.out]; exact HA4.out)
              rw [List.append_assoc, ← List.replicate_succ'] at h
              exact ⟨j + 1, A4, c4, by omega, by go_num, by rw [HM1.out]; rfl, h⟩
            case measure => simp [intOf]; omega
          · have dj : decide ((j : Int) < (11 + (y : Int))) = false := by simp; omega
            obtain rfl : j = (11 + y) := by omega
            go_wp2_with fail
            go_roundw
            case rel => exact ⟨k + 1, m1, (a1 + m + 7), _, A3, c3, by have := HM1.out; omega, by have := HM1.out; omega, by go_num, rfl, HLN.out.symm, HI.out, HRUN.out, keepf (by have := HAA.out; omega)⟩
            case measure => simp [intOf]; omega
    · have HE := keepf (show m0 = n by omega)
      clear hlt
      have hE := HE.out
      subst hE
      go_wp2_with fail
      all_goals
        go_ret
        exact ⟨L, a1, A2, c2, rfl, HST.out, HML.out.symm, HRN.out, HAA.out⟩
end Go.Proofs.YtmmilchmnimjoaaGreat
/- The document's own unpacking: a block of kind 2. -/
namespace Go.Proofs.YtmmilchmnimjoaaGreat
open Go.RowKit
set_option linter.unusedVariables false
set_option linter.unusedSimpArgs false
section
variable {bs : List Nat} {most a last b n ns : Nat} {out r todo : List Nat} {l : List Int}
theorem runs_key {s : St} (h : Runs bs most s (.ok r b)) {x : Nx} (hx : Step bs most s x) : x = .inr (.ok r b) ∨ ∃ t, x = .inl t ∧ Runs bs most t (.ok r b) := by
  cases h with
  | stop h => exact .inl (hx.one h)
  | go h k => exact .inr ⟨_, hx.one h, k⟩
theorem runs_own (h : Runs bs most ⟨a, out, .own last⟩ (.ok r b)) : a + 14 ≤ 8 * bs.length ∧ 257 + numAt false bs a 5 ≤ 286 ∧ 1 + numAt false bs (a + 5) 5 ≤ 30 ∧
    Runs bs most ⟨a + 14, out, .kinds (order.take (4 + numAt false bs (a + 10) 4)) (List.replicate 19 0) (257 + numAt false bs a 5 + (1 + numAt false bs (a + 5) 5)) (257 + numAt false bs a 5) last⟩ (.ok r b) := by
  have hk := runs_key h (Step.own rfl)
  unfold stOwn at hk
  repeat' split at hk
  · rcases hk with hk | ⟨t, hk, _⟩ <;> cases hk
  · rcases hk with hk | ⟨t, hk, _⟩ <;> cases hk
  · rcases hk with hk | ⟨t, hk, k⟩
    · cases hk
    · injection hk with hk
      subst hk
      exact ⟨by omega, by omega, by omega, k⟩
theorem runs_kind {s : Nat} (h : Runs bs most ⟨a, out, .kinds (s :: todo) l n ns last⟩ (.ok r b)) : a + 3 ≤ 8 * bs.length ∧ Runs bs most ⟨a + 3, out, .kinds todo (l.set s (numAt false bs a 3 : Nat)) n ns last⟩ (.ok r b) := by
  have hk := runs_key h (Step.kinds rfl)
  unfold stKinds at hk
  simp only at hk
  split at hk
  · rcases hk with hk | ⟨t, hk, _⟩ <;> cases hk
  · rcases hk with hk | ⟨t, hk, k⟩
    · cases hk
    · injection hk with hk
      subst hk
      exact ⟨by omega, k⟩
theorem runs_kinds0 (h : Runs bs most ⟨a, out, .kinds [] l n ns last⟩ (.ok r b)) : May l ∧ Runs bs most ⟨a, out, .lens l [] n ns last⟩ (.ok r b) := by
  have hk := runs_key h (Step.kinds rfl)
  unfold stKinds at hk
  simp only at hk
  split at hk
  · rcases hk with hk | ⟨t, hk, k⟩
    · cases hk
    · injection hk with hk
      subst hk
      exact ⟨by assumption, k⟩
  · rcases hk with hk | ⟨t, hk, _⟩ <;> cases hk
end
section
variable {w wr w' : World} {g a most : Nat} {bs out : List Nat} {V So : Value} {L : List Int} {A2 : Option Addr} {c2 : Nat}
theorem LSt.no (h : LSt w wr g bs V a out So most L A2 c2) (hc : Chg NoS wr w') : LSt w w' g bs V a out So most L A2 c2 :=
  ⟨h.rs.no hc, h.rm.news hc, own_chg (S := NoS) h.row hc (fun _ _ h => h), h.new⟩
theorem LSt.set_ {go : Nat} (h : LSt w wr g bs V a out So most L (some ⟨go, 0, none⟩) c2) (k : Nat) (v : Int) : LSt w (wr.setCell ⟨go, k, none⟩ (.int .i64 v)) g bs V a out So most (L.set k v) (some ⟨go, 0, none⟩) c2 := by
  have hgo := h.new _ rfl
  have hob : (Value.slice (some ⟨go, 0, none⟩) L.length c2).ownBlock = some go := rfl
  have hc : Chg (fun i => i = go) wr (wr.setCell ⟨go, k, none⟩ (.int .i64 v)) := (Chg.refl (fun i => i = go) wr).setCell (p := ⟨go, k, none⟩) (fun _ => rfl) _
  refine ⟨⟨h.rs.blk.chg hc (fun e => own_ne_blk h.row h.rs.blk (by decide) (by rw [hob, e])), own_chg h.rs.bits hc (fun i hi e => own_apart h.rs.bits h.row (by decide) hi (by rw [hob, e])), own_chg h.rs.own hc (fun i hi e => own_apart h.rs.own h.row (by decide) hi (by rw [hob, e])), h.rs.le, h.rs.len, h.rs.mst, h.rs.ole⟩,
    ⟨h.rm.1.trans hc (fun i hi e => by have : w.heap.size ≤ go := hgo; omega), fun i hi e => e⟩, ?_, h.new⟩
  have h1 := (h.row.stored k (.int .i64 v)).1
  rw [List.length_set]
  rw [show icells (L.set k v) = (icells L).set k (.int .i64 v) from by simp [icells, List.map_set]]
  exact h1
theorem RS.stay (h : RS w g bs V a out So most) (hc : Chg (fun i => i = g ∨ So.ownBlock = some i) w w') {base size n : Nat} {v : Value} {e : TypeId} {xs : List Value} (ho : w.ownsRow base e size v n xs) (h1 : e ≠ 61) (h2 : 5 ≠ e) : w'.ownsRow base e size v n xs := by
  refine own_chg ho hc (fun i hi => ?_)
  rintro (e1 | e1)
  · subst e1; exact own_ne_blk ho h.blk h1 hi
  · exact own_apart h.own ho h2 e1 hi
end
end Go.Proofs.YtmmilchmnimjoaaGreat
