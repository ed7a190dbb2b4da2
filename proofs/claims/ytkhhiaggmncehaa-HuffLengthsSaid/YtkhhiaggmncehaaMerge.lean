/- merge: both rows as one, lesser weights first. -/
import Derived.Test.YtkhhiaggmncehaaPairs
namespace Go.Proofs.Ytkhhiaggmncehaa
open Go.RowKit
set_option linter.unusedVariables false
set_option linter.unusedSimpArgs false

def mergeOf : List Nd → List Nd → List Nd
  | [], b => b
  | x :: a, [] => x :: a
  | x :: a, y :: b => if y.1 < x.1 then y :: mergeOf (x :: a) b else x :: mergeOf a (y :: b)
termination_by a b => a.length + b.length
theorem mergeOf_nil_left (b : List Nd) : mergeOf [] b = b := by rw [mergeOf]
theorem mergeOf_nil_right (a : List Nd) : mergeOf a [] = a := by cases a <;> rw [mergeOf]
theorem mergeOf_lt {x y : Nd} {a b : List Nd} (h : y.1 < x.1) : mergeOf (x :: a) (y :: b) = y :: mergeOf (x :: a) b := by rw [mergeOf, if_pos h]
theorem mergeOf_ge {x y : Nd} {a b : List Nd} (h : ¬ y.1 < x.1) : mergeOf (x :: a) (y :: b) = x :: mergeOf a (y :: b) := by rw [mergeOf, if_neg h]
theorem mergeOf_len : ∀ a b : List Nd, (mergeOf a b).length = a.length + b.length
  | [], b => by rw [mergeOf_nil_left]; simp
  | x :: a, [] => by rw [mergeOf_nil_right]; simp
  | x :: a, y :: b => by
    by_cases h : y.1 < x.1
    · rw [mergeOf_lt h, List.length_cons, mergeOf_len (x :: a) b]; simp; omega
    · rw [mergeOf_ge h, List.length_cons, mergeOf_len a (y :: b)]; simp; omega
termination_by a b => a.length + b.length

def slen : Value → Nat
  | .slice _ n _ => n
  | _ => 0

theorem size_node : (Try.prog.info? 95).map (·.size) = some 2 := by kernel_rfl
set_option maxRecDepth 100000 in
theorem slice_one (A : Option Addr) (len cap : Nat) (hm : 1 ≤ len) (w : World) : (Instr.sliceAt 93 (.slice A len cap) (some (.int .i64 1)) none none).run Try.prog w = .ok (.slice (if cap = 1 then A else A.map (·.add (1 * 2))) (len - 1) (cap - 1)) w := by
  have hz : (sizeOf 95).run Try.prog w = .ok 2 w := by
    cases hq : Try.prog.info? 95 with
    | none => have := size_node; simp [hq] at this
    | some i =>
      have hs : i.size = 2 := by have := size_node; simpa [hq] using this
      simp [sizeOf, typeInfo, hq, hs]
  rw [run_sliceAt_slice w _ _ _ _ _ Try.underlying93, run_slice_l w _ A len cap Try.underlying93 .i64 1 (by omega) (by omega)]
  rw [show Try.prog.elem 93 = 95 from rfl, hz]
  simp [Result.andThen, sliced]

/-- The slice without its first element. -/
def tailS (x : Sl) : Sl := (if x.2.1 = 1 then x.1 else x.1.map (·.add (1 * 2)), x.2.1 - 1, x.2.2.tail)
/-- A slice of nodes that lies in memory. -/
structure At2 (w : World) (x : Sl) : Prop where
  s : Src w 2 x.1 x.2.2.length x.2.1 (ncells x.2.2)
  c : x.2.2.length ≤ x.2.1
theorem At2.tail {w : World} {x : Sl} (h : At2 w x) : At2 w (tailS x) := by
  obtain ⟨A, c, L⟩ := x
  rcases L with _ | ⟨p, L⟩
  · refine ⟨⟨rfl, ?_, fun ad _ j u hu => ?_⟩, Nat.zero_le _⟩
    · intro hA
      refine ⟨rfl, ?_⟩
      show c - 1 = 0
      by_cases e : c = 1
      · omega
      · have hA' : A = none := by simpa [tailS, e] using hA
        have := (h.s.2.1 hA').2
        simp at this
        omega
    · simp [tailS, ncells] at hu
  · have hc : L.length + 1 ≤ c := h.c
    refine ⟨⟨ncells_len L, ?_, fun ad hA j u hu => ?_⟩, by show L.length ≤ c - 1; omega⟩
    · intro hA
      by_cases e : c = 1
      · exact ⟨by show L.length = 0; omega, by show c - 1 = 0; omega⟩
      · have hA' : A = none := by simpa [tailS, e] using hA
        have := (h.s.2.1 hA').1
        simp at this
    · have hu' : (ncells L)[j]? = some u := hu
      have hj : j < (ncells L).length := (List.getElem?_eq_some_iff.1 hu').1
      rw [ncells_len] at hj
      have hA2 : (if c = 1 then A else A.map (·.add (1 * 2))) = some ad := hA
      rw [if_neg (by omega)] at hA2
      cases hA0 : A with
      | none => rw [hA0] at hA2; cases hA2
      | some a0 =>
        rw [hA0] at hA2
        simp only [Option.map_some, Option.some.injEq] at hA2
        subst hA2
        rw [Go.Deep.add_add]
        refine h.s.2.2 a0 hA0 (1 * 2 + j) u ?_
        show (ncells (p :: L))[1 * 2 + j]? = some u
        have e : ncells (p :: L) = encN p ++ ncells L := rfl
        rw [e, List.getElem?_append_right (by simp [encN])]
        simpa [encN] using hu'
theorem At2.no {w w' : World} {x : Sl} (h : At2 w x) (hc : Chg NoS w w') : At2 w' x := ⟨h.s.below (w0 := w) hc, h.c⟩
theorem At2.head {w : World} {A : Option Addr} {c : Nat} {x : Nd} {L : List Nd} (h : At2 w (A, c, x :: L)) : ∃ b off, A = some ⟨b, off, none⟩ ∧ w.cell? ⟨b, off, none⟩ = some (.int .i64 x.1) ∧ w.cell? ⟨b, off + 1, none⟩ = some (.bool x.2) := by
  obtain ⟨b, off, rfl, hcell⟩ := h.s.plain (by simp [ncells, encN])
  exact ⟨b, off, rfl, hcell 0 _ rfl, hcell 1 _ rfl⟩

theorem srcTwoAt {w : World} {u v : Value} {t : TypeId} {n : Nat} (h : n = w.heap.size) : Src (w.alloc (.cells #[u, v] t)) 2 (some ⟨n, 0, none⟩) 1 1 [u, v] := by
  subst h
  refine ⟨rfl, fun h => (by cases h), fun ad e j x hx => ?_⟩
  injection e with e
  subst e
  have hb := Blk.new w t #[u, v]
  rcases j with _ | _ | j
  · simp at hx; subst hx; exact hb.cell 0
  · simp at hx; subst hx; exact hb.cell 1
  · simp at hx
theorem srcThree (w : World) (t : TypeId) (x y z : Sl) : Src (w.alloc (.cells #[slv x, slv y, slv z] t)) 1 (some ⟨w.heap.size, 0, none⟩) [x, y, z].length 3 ([x, y, z].map slv) := by
  refine ⟨rfl, fun h => (by cases h), fun ad e j u hu => ?_⟩
  injection e with e
  subst e
  have hb := Blk.new w t #[slv x, slv y, slv z]
  rcases j with _ | _ | _ | j
  · simp at hu; subst hu; exact hb.cell 0
  · simp at hu; subst hu; exact hb.cell 1
  · simp at hu; subst hu; exact hb.cell 2
  · simp at hu

/-- Within merge: what is out, and what is left of both. -/
structure MInv (w : World) (T : List Nd) (wr : World) (A2 : Option Addr) (c2 : Nat) (O : List Nd) (Xa Xb : Sl) : Prop where
  o : OwnN wr A2 c2 O
  a : Blk wr w.heap.size 93 #[slv Xa]
  b : Blk wr (w.heap.size + 1) 93 #[slv Xb]
  sa : At2 w Xa
  sb : At2 w Xb
  all : O ++ mergeOf Xa.2.2 Xb.2.2 = T
  c : Chg NoS w wr
  f : ∀ a, A2 = some a → w.heap.size ≤ a.block

theorem MInv.step_a {w wr w2 : World} {T : List Nd} {A2 A4 : Option Addr} {c2 c4 : Nat} {O : List Nd} {X Y : Sl} {o : Obj} {x : Nd} (h : MInv w T wr A2 c2 O X Y) (hm : mergeOf X.2.2 Y.2.2 = x :: mergeOf X.2.2.tail Y.2.2)
    (hgr : (wr.alloc o).grownBy w2 (Value.slice A2 O.length c2).ownBlock) (hown : w2.ownsRow 0 95 2 (.slice A4 (O.length + 1) c4) (O.length + 1) (ncells O ++ encN x))
    (hat : (Value.slice A4 (O.length + 1) c4).ownBlock = (Value.slice A2 O.length c2).ownBlock ∨ (Value.slice A4 (O.length + 1) c4).ownBlock = some (wr.alloc o).heap.size) :
    MInv w T (w2.setCell ⟨w.heap.size, 0, none⟩ (slv (tailS X))) A4 c4 (O ++ [x]) (tailS X) Y := by
  have hna := own_ne_blk h.o h.a (by decide)
  have hnb := own_ne_blk h.o h.b (by decide)
  have h2a := (h.a.alloc o).grown hgr (fun e => hna e.symm)
  have h2b := (h.b.alloc o).grown hgr (fun e => hnb e.symm)
  have hfr : ∀ i, (Value.slice A2 O.length c2).ownBlock = some i → w.heap.size ≤ i := by
    intro i hi
    rcases A2 with _ | a2
    · simp [Value.ownBlock] at hi
    · have := h.f a2 rfl
      simp [Value.ownBlock] at hi
      omega
  have hc2 : Chg NoS w w2 := (h.c.alloc o).grown hgr (fun i hi hlt => by have := hfr i hi; omega)
  have hs := h.c.size
  have ho : OwnN w2 A4 c4 (O ++ [x]) := by
    show w2.ownsRow _ _ _ (.slice A4 (O ++ [x]).length c4) _ (ncells (O ++ [x]))
    rw [ncells_app, List.length_append]
    exact hown
  refine ⟨own_chg (S := fun i => i = w.heap.size) ho ((Chg.refl (fun i => i = w.heap.size) w2).setCell (p := ⟨w.heap.size, 0, none⟩) (fun _ => rfl) _) (fun g hg e => ?_), by simpa using h2a.set_ 0 (slv (tailS X)), h2b.far (by simp) _, h.sa.tail, h.sb, ?_, hc2.setCell (fun hh => absurd hh (by simp)) _, ?_⟩
  · subst e
    exact own_ne_blk ho h2a (by decide) hg
  · have h1 := h.all
    rw [hm] at h1
    rw [← h1, List.append_assoc]
    rfl
  · rintro a rfl
    rcases hat with h3 | h3
    · exact hfr _ h3.symm
    · have h4 : a.block = wr.heap.size + 1 := by simpa [Value.ownBlock] using h3
      omega

theorem MInv.step_b {w wr w2 : World} {T : List Nd} {A2 A4 : Option Addr} {c2 c4 : Nat} {O : List Nd} {X Y : Sl} {o : Obj} {x : Nd} (h : MInv w T wr A2 c2 O Y X) (hm : mergeOf Y.2.2 X.2.2 = x :: mergeOf Y.2.2 X.2.2.tail)
    (hgr : (wr.alloc o).grownBy w2 (Value.slice A2 O.length c2).ownBlock) (hown : w2.ownsRow 0 95 2 (.slice A4 (O.length + 1) c4) (O.length + 1) (ncells O ++ encN x))
    (hat : (Value.slice A4 (O.length + 1) c4).ownBlock = (Value.slice A2 O.length c2).ownBlock ∨ (Value.slice A4 (O.length + 1) c4).ownBlock = some (wr.alloc o).heap.size) :
    MInv w T (w2.setCell ⟨(w.heap.size + 1), 0, none⟩ (slv (tailS X))) A4 c4 (O ++ [x]) Y (tailS X) := by
  have hna := own_ne_blk h.o h.a (by decide)
  have hnb := own_ne_blk h.o h.b (by decide)
  have h2a := (h.a.alloc o).grown hgr (fun e => hna e.symm)
  have h2b := (h.b.alloc o).grown hgr (fun e => hnb e.symm)
  have hfr : ∀ i, (Value.slice A2 O.length c2).ownBlock = some i → w.heap.size ≤ i := by
    intro i hi
    rcases A2 with _ | a2
    · simp [Value.ownBlock] at hi
    · have := h.f a2 rfl
      simp [Value.ownBlock] at hi
      omega
  have hc2 : Chg NoS w w2 := (h.c.alloc o).grown hgr (fun i hi hlt => by have := hfr i hi; omega)
  have hs := h.c.size
  have ho : OwnN w2 A4 c4 (O ++ [x]) := by
    show w2.ownsRow _ _ _ (.slice A4 (O ++ [x]).length c4) _ (ncells (O ++ [x]))
    rw [ncells_app, List.length_append]
    exact hown
  refine ⟨own_chg (S := fun i => i = (w.heap.size + 1)) ho ((Chg.refl (fun i => i = (w.heap.size + 1)) w2).setCell (p := ⟨(w.heap.size + 1), 0, none⟩) (fun _ => rfl) _) (fun g hg e => ?_), h2a.far (by simp) _, by simpa using h2b.set_ 0 (slv (tailS X)), h.sa, h.sb.tail, ?_, hc2.setCell (fun hh => absurd hh (by simp)) _, ?_⟩
  · subst e
    exact own_ne_blk ho h2b (by decide) hg
  · have h1 := h.all
    rw [hm] at h1
    rw [← h1, List.append_assoc]
    rfl
  · rintro a rfl
    rcases hat with h3 | h3
    · exact hfr _ h3.symm
    · have h4 : a.block = wr.heap.size + 1 := by simpa [Value.ownBlock] using h3
      omega

theorem MInv.drewN {w wr : World} {T : List Nd} {A2 : Option Addr} {c2 : Nat} {O : List Nd} {X Y : Sl} (h : MInv w T wr A2 c2 O X Y) (n : Nat) : MInv w T (wr.drewN n) A2 c2 O X Y := ⟨own_drewN h.o n, h.a.drewN n, h.b.drewN n, h.sa, h.sb, h.all, h.c.drewN n, h.f⟩

set_option maxHeartbeats 4000000 in
set_option maxRecDepth 100000 in
theorem merge_any (Xa Xb : Sl) (w : World) (ha : At2 w Xa) (hb : At2 w Xb) (hL : Xa.2.2.length + Xb.2.2.length ≤ 100000) :
    Calls Try.prog 50 #[slv Xa, slv Xb] w (NewN w (mergeOf Xa.2.2 Xb.2.2)) := by
  obtain ⟨i0, hi, hz0, hz1, hz2⟩ := info_parts info_node
  obtain ⟨Aa, ca, La⟩ := Xa
  obtain ⟨Ab, cb, Lb⟩ := Xb
  have HA := keepf ha
  have HB := keepf hb
  obtain ⟨T, hT⟩ : ∃ T, T = mergeOf La Lb := ⟨_, rfl⟩
  have HT := keepf hT
  have hTl : T.length = La.length + Lb.length := by rw [hT, mergeOf_len]
  show Calls _ _ #[.slice Aa La.length ca, .slice Ab Lb.length cb] w (NewN w (mergeOf La Lb))
  rw [← hT]
  obtain ⟨na, hna⟩ : ∃ na, na = La.length := ⟨_, rfl⟩
  obtain ⟨nb, hnb⟩ : ∃ nb, nb = Lb.length := ⟨_, rfl⟩
  have HNA := keepf hna
  have HNB := keepf hnb
  have hL' : na + nb ≤ 100000 := by rw [hna, hnb]; exact hL
  rw [← hna, ← hnb] at hTl
  rw [← hna, ← hnb]
  have HTL := keepf hTl
  clear hna hnb ha hb hT hL hTl
  go_enter Try.func50, Try.ntmps50
  go_wp2_with (first
    | (at_make; go_loud (refine wpList_make_own _ rfl (.const (.int .i64 0)) (.tmp 11) 93 rfl 0 95 i0 (.agg #[.int .i64 0, .bool false]) 2 Try.underlying93 hi hz0 hz1 .i64 .i64 _ (na + nb) rfl rfl (by simp) (by rw [hz2]; omega) (by unfold maxLen; omega) (Nat.zero_le _) ?_); intro w2 hown2 hgr; simp only [World.size_alloc] at hown2 ⊢; have HO2 := keepf hown2; have HG2 := keepf hgr; clear hown2 hgr))
  go_loopw [5] (fun v wr => ∃ A2 : Option Addr, ∃ c2 : Nat, ∃ O : List Nd, ∃ Xa Xb : Sl, v = .slice A2 O.length c2 ∧ Hid (MInv w T wr A2 c2 O Xa Xb)) (fun v _ => na + nb - slen v)
  case atStart =>
    refine ⟨_, _, [], (Aa, ca, La), (Ab, cb, Lb), rfl, ?_⟩
    have hc : Chg NoS w w2 := (((Chg.refl NoS w).alloc _).alloc _).grown HG2.out (fun _ e _ => by cases e)
    refine keepf ⟨HO2.out, ?_, ?_, HA.out, HB.out, HT.out.symm, hc, ?_⟩
    · have h1 := ((Blk.new w 93 #[.slice Aa na ca]).alloc (.cells #[.slice Ab nb cb] 93)).grown HG2.out (by simp)
      rw [HNA.out] at h1
      exact h1
    · have h1 := (Blk.new (w.alloc (.cells #[.slice Aa na ca] 93)) 93 #[.slice Ab nb cb]).grown HG2.out (by simp)
      rw [HNB.out] at h1
      simpa [slv] using h1
    · rintro a h; injection h with h; subst h; simp; omega
  case round =>
    obtain ⟨A2, c2, O, ⟨A3, c3, L3⟩, ⟨A4, c4, L4⟩, rfl, HI⟩ := hrel
    have p2 := HI.out.a.cell 0
    have p3 := HI.out.b.cell 0
    simp [slv] at p2 p3
    have hlen : O.length + (L3.length + L4.length) = na + nb := by
      have h1 := congrArg List.length HI.out.all
      rw [List.length_append, mergeOf_len, HTL.out] at h1
      exact h1
    by_cases h3 : 0 < L3.length
    · by_cases h4 : 0 < L4.length
      · obtain ⟨x, L3', hx⟩ : ∃ x L', L3 = x :: L' := List.exists_cons_of_length_pos h3
        obtain ⟨y, L4', hy⟩ : ∃ y L', L4 = y :: L' := List.exists_cons_of_length_pos h4
        have hsa := HI.out.sa.no HI.out.c
        have hsb := HI.out.sb.no HI.out.c
        rw [hx] at hsa
        rw [hy] at hsb
        obtain ⟨b3, o3, rfl, cx0, cx1⟩ := hsa.head
        obtain ⟨b4, o4, rfl, cy0, cy1⟩ := hsb.head
        have HX := keepf hx
        have HY := keepf hy
        clear hx hy hsa hsb
        have d1 : (0 : Int) < L3.length := by omega
        have d2 : (0 : Int) < L4.length := by omega
        by_cases hlt : y.1 < x.1
        · have HMG := keepf (show mergeOf (x :: L3') (y :: L4') = _ from (mergeOf_lt hlt))
          have d : decide (y.1 < x.1) = true := by simpa using hlt
          have hsl := fun W => slice_one (some ⟨b4, o4, none⟩) L4.length c4 (by omega) W
          obtain ⟨A9, hA9⟩ : ∃ A9, A9 = (if c4 = 1 then some ⟨b4, o4, none⟩ else (some (⟨b4, o4, none⟩ : Addr)).map (·.add (1 * 2))) := ⟨_, rfl⟩
          rw [← hA9] at hsl
          have HA9 := keepf hA9
          have hlt' := keepf hlt
          clear hA9 hlt
          go_upto_region 4 with fail
          go_quiet (fail)
          obtain ⟨wq, hwq⟩ : ∃ wq, wq = wr.drewN nq := ⟨_, rfl⟩
          rw [← hwq]
          have HIq : Hid (MInv w T wq A2 c2 O (some ⟨b3, o3, none⟩, c3, L3) (some ⟨b4, o4, none⟩, c4, L4)) := by rw [hwq]; exact HI.out.drewN nq
          have p2q : wq.cell? ⟨w.heap.size, 0, none⟩ = some (.slice (some ⟨b3, o3, none⟩) L3.length c3) := by rw [hwq]; exact p2
          have p3q : wq.cell? ⟨w.heap.size + 1, 0, none⟩ = some (.slice (some ⟨b4, o4, none⟩) L4.length c4) := by rw [hwq]; exact p3
          have cx0q : wq.cell? ⟨b3, o3, none⟩ = some (.int .i64 x.1) := by rw [hwq]; exact cx0
          have cx1q : wq.cell? ⟨b3, o3 + 1, none⟩ = some (.bool x.2) := by rw [hwq]; exact cx1
          have cy0q : wq.cell? ⟨b4, o4, none⟩ = some (.int .i64 y.1) := by rw [hwq]; exact cy0
          have cy1q : wq.cell? ⟨b4, o4 + 1, none⟩ = some (.bool y.2) := by rw [hwq]; exact cy1
          have hna := keepf (own_ne_blk HIq.out.o HIq.out.b (by decide))
          clear hwq p2 p3 cx0 cx1 cy0 cy1
          go_wp2_with (first
            | (at_builtin; go_loud (refine wpList_append_src rfl (.tmp 30) (.tmp 36) 93 rfl 95 i0 (.agg #[.int .i64 0, .bool false]) 2 16 Try.underlying93 hi hz0 hz1 hz2 rfl (by decide) (.slice A2 O.length c2) _ _ rfl (own_chg (S := NoS) HIq.out.o ((Chg.refl _ _).alloc _) (fun _ _ h => h)) _ _ _ (encN y) rfl (srcTwoAt (by simp)) (by intro u hu; simp [encN] at hu; rcases hu with rfl | rfl <;> rfl) (by unfold maxLen; omega) (by omega) ?_); go_loud (intro S2 w2 hown2 hgr hat; obtain ⟨A5, c5, rfl, hA5⟩ := own_slice hown2; have hbk : Blk w2 (w.heap.size + 1) 93 #[.slice (some ⟨b4, o4, none⟩) L4.length c4] := (HIq.out.b.alloc (.cells #[.int .i64 y.1, .bool y.2] 95)).grown hgr (fun e => hna.out e.symm); have q2 := hbk.cell 0; have f2 := hbk.frozen 0; simp at q2); have HG2 := keepf hgr; have HO2 := keepf hown2; have HAT2 := keepf hat; clear hgr hown2 hat hA5 hbk))
          go_roundw
          case rel =>
            have h9 : slv (tailS (some ⟨b4, o4, none⟩, c4, L4)) = .slice A9 (L4.length - 1) (c4 - 1) := by
              show Value.slice _ _ _ = _
              rw [HA9.out]
              simp [tailS]
            have h8 := HIq.out.step_b (by show mergeOf L3 L4 = y :: mergeOf L3 L4.tail; rw [HX.out, HY.out]; exact HMG.out) HG2.out HO2.out HAT2.out
            rw [h9] at h8
            exact ⟨A5, c5, O ++ [y], (some ⟨b3, o3, none⟩, c3, L3), tailS (some ⟨b4, o4, none⟩, c4, L4), by simp, keepf h8⟩
          case measure => simp [slen]; omega
        · have HMG := keepf (show mergeOf (x :: L3') (y :: L4') = _ from (mergeOf_ge hlt))
          have d : decide (y.1 < x.1) = false := by simpa using hlt
          have hsl := fun W => slice_one (some ⟨b3, o3, none⟩) L3.length c3 (by omega) W
          obtain ⟨A9, hA9⟩ : ∃ A9, A9 = (if c3 = 1 then some ⟨b3, o3, none⟩ else (some (⟨b3, o3, none⟩ : Addr)).map (·.add (1 * 2))) := ⟨_, rfl⟩
          rw [← hA9] at hsl
          have HA9 := keepf hA9
          have hlt' := keepf hlt
          clear hA9 hlt
          go_upto_region 4 with fail
          go_quiet (fail)
          obtain ⟨wq, hwq⟩ : ∃ wq, wq = wr.drewN nq := ⟨_, rfl⟩
          rw [← hwq]
          have HIq : Hid (MInv w T wq A2 c2 O (some ⟨b3, o3, none⟩, c3, L3) (some ⟨b4, o4, none⟩, c4, L4)) := by rw [hwq]; exact HI.out.drewN nq
          have p2q : wq.cell? ⟨w.heap.size, 0, none⟩ = some (.slice (some ⟨b3, o3, none⟩) L3.length c3) := by rw [hwq]; exact p2
          have p3q : wq.cell? ⟨w.heap.size + 1, 0, none⟩ = some (.slice (some ⟨b4, o4, none⟩) L4.length c4) := by rw [hwq]; exact p3
          have cx0q : wq.cell? ⟨b3, o3, none⟩ = some (.int .i64 x.1) := by rw [hwq]; exact cx0
          have cx1q : wq.cell? ⟨b3, o3 + 1, none⟩ = some (.bool x.2) := by rw [hwq]; exact cx1
          have cy0q : wq.cell? ⟨b4, o4, none⟩ = some (.int .i64 y.1) := by rw [hwq]; exact cy0
          have cy1q : wq.cell? ⟨b4, o4 + 1, none⟩ = some (.bool y.2) := by rw [hwq]; exact cy1
          have hna := keepf (own_ne_blk HIq.out.o HIq.out.a (by decide))
          clear hwq p2 p3 cx0 cx1 cy0 cy1
          go_wp2_with (first
            | (at_builtin; go_loud (refine wpList_append_src rfl (.tmp 30) (.tmp 36) 93 rfl 95 i0 (.agg #[.int .i64 0, .bool false]) 2 16 Try.underlying93 hi hz0 hz1 hz2 rfl (by decide) (.slice A2 O.length c2) _ _ rfl (own_chg (S := NoS) HIq.out.o ((Chg.refl _ _).alloc _) (fun _ _ h => h)) _ _ _ (encN x) rfl (srcTwoAt (by simp)) (by intro u hu; simp [encN] at hu; rcases hu with rfl | rfl <;> rfl) (by unfold maxLen; omega) (by omega) ?_); go_loud (intro S2 w2 hown2 hgr hat; obtain ⟨A5, c5, rfl, hA5⟩ := own_slice hown2; have hbk : Blk w2 (w.heap.size) 93 #[.slice (some ⟨b3, o3, none⟩) L3.length c3] := (HIq.out.a.alloc (.cells #[.int .i64 x.1, .bool x.2] 95)).grown hgr (fun e => hna.out e.symm); have q2 := hbk.cell 0; have f2 := hbk.frozen 0; simp at q2); have HG2 := keepf hgr; have HO2 := keepf hown2; have HAT2 := keepf hat; clear hgr hown2 hat hA5 hbk))
          go_roundw
          case rel =>
            have h9 : slv (tailS (some ⟨b3, o3, none⟩, c3, L3)) = .slice A9 (L3.length - 1) (c3 - 1) := by
              show Value.slice _ _ _ = _
              rw [HA9.out]
              simp [tailS]
            have h8 := HIq.out.step_a (by show mergeOf L3 L4 = x :: mergeOf L3.tail L4; rw [HX.out, HY.out]; exact HMG.out) HG2.out HO2.out HAT2.out
            rw [h9] at h8
            exact ⟨A5, c5, O ++ [x], tailS (some ⟨b3, o3, none⟩, c3, L3), (some ⟨b4, o4, none⟩, c4, L4), by simp, keepf h8⟩
          case measure => simp [slen]; omega
      · have d1 : (0 : Int) < L3.length := by omega
        have d2 : decide ((0 : Int) < L4.length) = false := decide_eq_false (by omega)
        have e4 : L4 = [] := List.eq_nil_of_length_eq_zero (by omega)
        subst e4
        have hall : allOf [(A2, c2, O), (A3, c3, L3), (A4, c4, [])] = T := by
          have h1 := HI.out.all
          simp only at h1
          rw [← h1]
          simp only [allOf, List.flatMap_cons, List.flatMap_nil, List.append_nil]
          rw [mergeOf_nil_right]
        have hcat : ∀ o, Calls Try.prog 56 #[.slice (some ⟨wr.heap.size, 0, none⟩) 3 3] (wr.alloc (.cells #[.slice A2 O.length c2, .slice A3 L3.length c3, .slice A4 0 c4] o)) (NewN (wr.alloc (.cells #[.slice A2 O.length c2, .slice A3 L3.length c3, .slice A4 0 c4] o)) T) := fun o => by
          have h9 := concat_any [(A2, c2, O), (A3, c3, L3), (A4, c4, [])] (some ⟨wr.heap.size, 0, none⟩) 3 (wr.alloc (.cells #[.slice A2 O.length c2, .slice A3 L3.length c3, .slice A4 0 c4] o)) (by simp) (by simp) (by rw [hall, HTL.out]; exact hL') (srcThree _ _ _ _ _) (by
            intro z hz
            simp only [List.mem_cons, List.not_mem_nil, or_false] at hz
            rcases hz with rfl | rfl | rfl
            · exact (src_own HI.out.o).below (w0 := wr) ((Chg.refl _ wr).alloc _)
            · exact HI.out.sa.s.below (w0 := w) (HI.out.c.alloc _)
            · exact HI.out.sb.s.below (w0 := w) (HI.out.c.alloc _))
          rw [hall] at h9
          exact h9
        have HCAT := keepf hcat
        have HHALL := keepf hall
        clear hcat hall
        go_wp2_with (go_at_call 56; go_loud (refine (HCAT.out _).mono ?_); rintro e w3 ⟨A7, c7, rfl, ho7, hc7, hf7⟩; have HO7 := keepf ho7; have HC7 := keepf hc7; have HF7 := keepf hf7; clear ho7 hc7 hf7)
        go_ret
        exact ⟨A7, c7, rfl, HO7.out, (HI.out.c.alloc _).trans HC7.out (fun _ _ h => h), fun a h => by have := HF7.out a h; have h2 := HI.out.c.size; simp at this; omega⟩
    · have d1 : decide ((0 : Int) < L3.length) = false := decide_eq_false (by omega)
      have e3 : L3 = [] := List.eq_nil_of_length_eq_zero (by omega)
      subst e3
      have hall : allOf [(A2, c2, O), (A3, c3, []), (A4, c4, L4)] = T := by
        have h1 := HI.out.all
        simp only at h1
        rw [← h1]
        simp only [allOf, List.flatMap_cons, List.flatMap_nil, List.append_nil]
        rw [mergeOf_nil_left]; simp
      have hcat : ∀ o, Calls Try.prog 56 #[.slice (some ⟨wr.heap.size, 0, none⟩) 3 3] (wr.alloc (.cells #[.slice A2 O.length c2, .slice A3 0 c3, .slice A4 L4.length c4] o)) (NewN (wr.alloc (.cells #[.slice A2 O.length c2, .slice A3 0 c3, .slice A4 L4.length c4] o)) T) := fun o => by
        have h9 := concat_any [(A2, c2, O), (A3, c3, []), (A4, c4, L4)] (some ⟨wr.heap.size, 0, none⟩) 3 (wr.alloc (.cells #[.slice A2 O.length c2, .slice A3 0 c3, .slice A4 L4.length c4] o)) (by simp) (by simp) (by rw [hall, HTL.out]; exact hL') (srcThree _ _ _ _ _) (by
          intro z hz
          simp only [List.mem_cons, List.not_mem_nil, or_false] at hz
          rcases hz with rfl | rfl | rfl
          · exact (src_own HI.out.o).below (w0 := wr) ((Chg.refl _ wr).alloc _)
          · exact HI.out.sa.s.below (w0 := w) (HI.out.c.alloc _)
          · exact HI.out.sb.s.below (w0 := w) (HI.out.c.alloc _))
        rw [hall] at h9
        exact h9
      have HCAT := keepf hcat
      have HHALL := keepf hall
      clear hcat hall
      go_wp2_with (go_at_call 56; go_loud (refine (HCAT.out _).mono ?_); rintro e w3 ⟨A7, c7, rfl, ho7, hc7, hf7⟩; have HO7 := keepf ho7; have HC7 := keepf hc7; have HF7 := keepf hf7; clear ho7 hc7 hf7)
      go_ret
      exact ⟨A7, c7, rfl, HO7.out, (HI.out.c.alloc _).trans HC7.out (fun _ _ h => h), fun a h => by have := HF7.out a h; have h2 := HI.out.c.size; simp at this; omega⟩
end Go.Proofs.Ytkhhiaggmncehaa
