/- Merged by program: Cnt Tabs Trim RunsQ. -/
import Derived.Test.YtmmilchmnimjoaaGreatN05
import Derived.Test.YtmmilchmnimjoaaGreatN08
import Derived.Test.YtmmilchmnimjoaaGreatN09
import Derived.Test.YtmmilchmnimjoaaGreatN10
import Derived.Test.YtmmilchmnimjoaaGreatN12
import Derived.Test.YtmmilchmnimjoaaGreatN13
import Derived.Test.YtmmilchmnimjoaaGreatN14
import Derived.BigRegion
import Derived.Deep.RegionHeld3
/- counts: how many times tokens have each symbol. -/
namespace Go.Proofs.YtmmilchmnimjoaaGreat
open Go.RowKit
set_option linter.unusedVariables false
set_option linter.unusedSimpArgs false
def cntOf (d : Bool) (s : Nat) (ys : List Ev) : Nat := (ys.filter (fun y => y.d == d && y.s == s)).length
def cntL (d : Bool) (n : Nat) (ys : List Ev) : List Int := (List.range n).map fun s => (cntOf d s ys : Int)
theorem cntL_len (d : Bool) (n : Nat) (ys : List Ev) : (cntL d n ys).length = n := by simp [cntL]
theorem cntL_get {d : Bool} {n s : Nat} (ys : List Ev) (h : s < n) : (cntL d n ys).getD s 0 = (cntOf d s ys : Int) := by simp [cntL, List.getD_eq_getElem?_getD, h]
theorem cntOf_snoc (d : Bool) (s : Nat) (ys : List Ev) (y : Ev) : cntOf d s (ys ++ [y]) = cntOf d s ys + if y.d == d && y.s == s then 1 else 0 := by
  unfold cntOf
  rw [List.filter_append, List.length_append]
  congr 1
  rw [List.filter_cons]
  split <;> rfl
theorem cntOf_le (d : Bool) (s : Nat) (ys : List Ev) : cntOf d s ys ≤ ys.length := List.length_filter_le _ _
theorem cntL_snoc (n : Nat) (ys : List Ev) (y : Ev) : cntL y.d n (ys ++ [y]) = (cntL y.d n ys).set y.s ((cntL y.d n ys).getD y.s 0 + 1) := by
  refine List.ext_getElem (by simp [cntL_len]) (fun i h1 h2 => ?_)
  rw [cntL_len] at h1
  rw [List.getElem_set]
  have e : (cntL y.d n (ys ++ [y]))[i]'(by rw [cntL_len]; exact h1) = (cntOf y.d i (ys ++ [y]) : Int) := by simp [cntL]
  have e2 : (cntL y.d n ys)[i]'(by rw [cntL_len]; exact h1) = (cntOf y.d i ys : Int) := by simp [cntL]
  rw [e, cntOf_snoc]
  by_cases hi : y.s = i
  · subst hi
    rw [if_pos rfl, cntL_get ys h1]
    simp
  · rw [if_neg hi, e2]
    simp [hi]
theorem cntL_other {d : Bool} (n : Nat) (ys : List Ev) (y : Ev) (h : y.d ≠ d) : cntL d n (ys ++ [y]) = cntL d n ys := by
  unfold cntL
  refine List.map_congr_left (fun s _ => ?_)
  rw [cntOf_snoc]
  have : (y.d == d) = false := by simpa using h
  simp [this]
theorem counter_any (A : Option Addr) (n c : Nat) (w : World) :
    Calls Tryz.prog 133 #[.slice A n c] w fun e w' =>
      e = .returned (.func (.func 146) #[] #[.pointer (some ⟨w.heap.size, 0, none⟩)]) ∧ w.alloc (.cells #[.slice A n c] 63) = w' := by
  go_enter Tryz.func133, Tryz.ntmps133
  go_wp2_with fail
  go_ret
  exact ⟨rfl, rfl⟩
theorem counter1_any (x b N s v n : Nat) (cs : List Int) (w : World) (hx : w.cell? ⟨x, 0, none⟩ = some (.slice (some ⟨b, 0, none⟩) N N)) (hr : Row w b N cs) (hN : cs.length = N) (hs : s < N) (hN2 : N ≤ 1000)
    (h0 : 0 ≤ cs.getD s 0) (h1 : cs.getD s 0 ≤ 1000000000) :
    Calls Tryz.prog 146 #[.int .i64 (s : Nat), .int .i64 (v : Nat), .int .i64 (n : Nat), .pointer (some ⟨x, 0, none⟩)] w fun e w' =>
      e = .returned (.tuple #[]) ∧ w.setCell ⟨b, s, none⟩ (.int .i64 (cs.getD s 0 + 1)) = w' := by
  have c1 := hr.cell s (by omega)
  have f1 := hr.frozen s
  generalize cs.getD s 0 = z at *
  clear hr
  go_enter Tryz.func146, Tryz.ntmps146
  go_wp2_with fail
  go_end0
  exact ⟨rfl, rfl⟩
structure CntJ (w : World) (xs xd bs bd : Nat) (T : List Tk) (V : Value) (ys : List Ev) (W : World) : Prop where
  s : Row W bs 286 (cntL false 286 ys)
  d : Row W bd 30 (cntL true 30 ys)
  x : Blk W xs 63 #[.slice (some ⟨bs, 0, none⟩) 286 286]
  y : Blk W xd 63 #[.slice (some ⟨bd, 0, none⟩) 30 30]
  o : W.ownsRow 0 180 3 V T.length (kcells T)
  c : Chg NoS w W
  n : bs ≠ bd
  ns : w.heap.size ≤ bs
  nd : w.heap.size ≤ bd
theorem CntJ.no {w : World} {xs xd bs bd : Nat} {T : List Tk} {V : Value} {ys : List Ev} {W W' : World} (h : CntJ w xs xd bs bd T V ys W) (hc : Chg NoS W W') : CntJ w xs xd bs bd T V ys W' :=
  ⟨h.s.chg hc (fun e => e), h.d.chg hc (fun e => e), h.x.chg hc (fun e => e), h.y.chg hc (fun e => e), own_chg h.o hc (fun _ _ e => e), h.c.trans hc (fun _ _ e => e), h.n, h.ns, h.nd⟩
def EvIn (y : Ev) : Prop := y.s < if y.d then 30 else 286
theorem Row.blk {w : World} {g cap : Nat} {d : List Int} (h : Row w g cap d) : ∃ cs, Blk w g 3 cs := by
  rcases h.2 with ⟨h', _⟩ | ⟨g', cap', cur, h', _, hh, _⟩
  · simp at h'
  · simp only [Value.slice.injEq, Option.some.injEq, Addr.mk.injEq, and_true] at h'
    obtain ⟨rfl, _, _⟩ := h'
    exact ⟨cur, hh⟩
theorem cnt_step (d : Bool) (w : World) (xs xd bs bd : Nat) (T : List Tk) (V : Value) (hev : ∀ y ∈ evs T, EvIn y) (hl : (evs T).length ≤ 900000000) :
    StepE 146 #[.pointer (some ⟨if d then xd else xs, 0, none⟩)] d (evs T) (CntJ w xs xd bs bd T V) := by
  rintro ys y zs W hall hyd h
  have hy := hev y (by rw [hall]; simp)
  unfold EvIn at hy
  have hal := congrArg List.length hall
  simp at hal
  have key : ∀ (b : Nat) (u : Value) (i : Nat), (∃ cs, Blk W b 3 cs) → w.heap.size ≤ b → Chg NoS w (W.setCell ⟨b, i, none⟩ u) ∧ Chg (fun k => k = b) W (W.setCell ⟨b, i, none⟩ u) ∧ KeepT W (W.setCell ⟨b, i, none⟩ u) ∧
      (W.setCell ⟨b, i, none⟩ u).ownsRow 0 180 3 V T.length (kcells T) ∧ (∀ k t cs, Blk W k t cs → t ≠ 3 → Blk (W.setCell ⟨b, i, none⟩ u) k t cs) := by
    rintro b u i ⟨cs, hb⟩ hw
    have hc : Chg (fun k => k = b) W (W.setCell ⟨b, i, none⟩ u) := (Chg.refl (fun k => k = b) W).setCell (p := ⟨b, i, none⟩) (fun _ => rfl) _
    have hk : ∀ k t cs, Blk W k t cs → t ≠ 3 → Blk (W.setCell ⟨b, i, none⟩ u) k t cs := fun k t cs2 hk ht => hk.chg hc (fun e => by subst e; exact Blk.ne_ hk hb ht rfl)
    refine ⟨h.c.trans hc (fun j hj e => by omega), hc, fun k cs2 hk2 => hk k _ cs2 hk2 (by decide), own_chg h.o hc (fun j hj e => ?_), hk⟩
    subst e
    exact own_ne_blk h.o hb (by decide) hj
  cases d with
  | true =>
    rw [hyd] at hy
    simp only [if_true] at hy
    have hz := cntL_get (d := true) (n := 30) ys hy
    have hle := cntOf_le true y.s ys
    refine (counter1_any xd bd 30 y.s y.v y.n (cntL true 30 ys) W (by have := h.y.cell 0; simpa using this) h.d (cntL_len _ _ _) hy (by omega) (by omega) (by omega)).mono ?_
    rintro e w' ⟨rfl, rfl⟩
    obtain ⟨k1, k2, k3, k4, k5⟩ := key bd (.int .i64 ((cntL true 30 ys).getD y.s 0 + 1)) y.s h.d.blk h.nd
    refine ⟨rfl, ⟨?_, ?_, k5 _ _ _ h.x (by decide), k5 _ _ _ h.y (by decide), k4, k1, h.n, h.ns, h.nd⟩, k3⟩
    · rw [cntL_other _ _ _ (by rw [hyd]; decide)]
      exact h.s.chg k2 (fun e => h.n e)
    · have := h.d.set y.s ((cntL true 30 ys).getD y.s 0 + 1)
      have e := cntL_snoc 30 ys y
      rw [hyd] at e
      rw [e]
      exact this
  | false =>
    rw [hyd] at hy
    have hy : y.s < 286 := by simpa using hy
    have hz := cntL_get (d := false) (n := 286) ys hy
    have hle := cntOf_le false y.s ys
    refine (counter1_any xs bs 286 y.s y.v y.n (cntL false 286 ys) W (by have := h.x.cell 0; simpa using this) h.s (cntL_len _ _ _) hy (by omega) (by omega) (by omega)).mono ?_
    rintro e w' ⟨rfl, rfl⟩
    obtain ⟨k1, k2, k3, k4, k5⟩ := key bs (.int .i64 ((cntL false 286 ys).getD y.s 0 + 1)) y.s h.s.blk h.ns
    refine ⟨rfl, ⟨?_, ?_, k5 _ _ _ h.x (by decide), k5 _ _ _ h.y (by decide), k4, k1, h.n, h.ns, h.nd⟩, k3⟩
    · have := h.s.set y.s ((cntL false 286 ys).getD y.s 0 + 1)
      have e := cntL_snoc 286 ys y
      rw [hyd] at e
      rw [e]
      exact this
    · rw [cntL_other _ _ _ (by rw [hyd]; decide)]
      exact h.d.chg k2 (fun e => h.n e.symm)
def CountsTo (w : World) (T : List Tk) (e : Ending) (w' : World) : Prop :=
  ∃ bs bd, e = .returned (.tuple #[.slice (some ⟨bs, 0, none⟩) 286 286, .slice (some ⟨bd, 0, none⟩) 30 30]) ∧ Row w' bs 286 (cntL false 286 (evs T)) ∧ Row w' bd 30 (cntL true 30 (evs T)) ∧ Chg NoS w w' ∧ bs ≠ bd ∧ w.heap.size ≤ bs ∧ w.heap.size ≤ bd
theorem cntL_zero (d : Bool) (n : Nat) : (madeCells (Value.int .i64 0).cells (n * 1)).toList = icells (cntL d n []) := by
  rw [Nat.mul_one]
  refine (toList_madeCells_one _ _).trans ?_
  simp only [icells, cntL, cntOf, List.map_map]
  refine List.ext_getElem (by simp) (fun i h1 h2 => by simp)
theorem row_made {w : World} {Z : Array Value} {d : List Int} {N : Nat} (hz : Z.toList = icells d) (hd : d.length = N) (hN : N ≤ 1000) : Row (w.alloc (.cells Z 3)) w.heap.size N d := by
  subst hd
  have e : Z = (icells d).toArray := by rw [← hz]
  subst e
  exact full_own (heap_alloc_new w _) (by simp [icells]) (by unfold maxLen; omega)
theorem counter_to (A : Option Addr) (n c : Nat) (w : World) :
    Calls Tryz.prog 133 #[.slice A n c] w fun e w' =>
      e = .returned (.func (.func 146) #[] #[.pointer (some ⟨w.heap.size, 0, none⟩)]) ∧ Chg NoS w w' ∧ Blk w' w.heap.size 63 #[.slice A n c] := by
  refine (counter_any A n c w).mono ?_
  rintro e w' ⟨rfl, rfl⟩
  exact ⟨rfl, (Chg.refl _ _).alloc _, Blk.new _ _ _⟩
set_option maxHeartbeats 1000000 in
set_option maxRecDepth 100000 in
theorem counts_ok (T : List Tk) (hT : WellT T) (hTl : T.length ≤ 100000000) (hev : ∀ y ∈ evs T, EvIn y) (hl : (evs T).length ≤ 900000000) (A : Option Addr) (c : Nat) (w : World) (ho : w.ownsRow 0 180 3 (.slice A T.length c) T.length (kcells T)) :
    Calls Tryz.prog 112 #[.slice A T.length c] w (CountsTo w T) := by
  have eg : ∀ args w, (callFunc 146 args).run Tryz.prog w = .ok (.enter 146 args) w := enters_of Tryz.func146 (by kernel_rfl) rfl
  have HTELL : Hid (∀ (xs xd bs bd : Nat) (W : World), CntJ w xs xd bs bd T (.slice A T.length c) [] W →
      Calls Tryz.prog 108 #[.slice A T.length c, .func (.func 146) #[] #[.pointer (some ⟨xs, 0, none⟩)], .func (.func 146) #[] #[.pointer (some ⟨xd, 0, none⟩)]] W
        fun e w' => e = .returned (.tuple #[]) ∧ CntJ w xs xd bs bd T (.slice A T.length c) (evs T) w') := by
    intro xs xd bs bd W hW
    exact tell_any _ _ _ _ eg eg T hT hTl (CntJ w xs xd bs bd T (.slice A T.length c)) (cnt_step false w xs xd bs bd T _ hev hl) (cnt_step true w xs xd bs bd T _ hev hl) A c (fun ys W2 h => src_own h.o) (fun ys W2 W3 h hc => h.no hc) W hW
  have HO := keepf ho
  obtain ⟨n, hn⟩ : ∃ n, n = T.length := ⟨_, rfl⟩
  have HN := keepf hn
  rw [← hn] at HTELL HO ⊢
  obtain ⟨i0, hi, hz0, hz1, hz2⟩ := info_parts info_int
  clear hT hTl hev hl ho eg hn
  have mk : ∀ k : Nat, k ≤ 1000 → ∃ Z : Array Value, Z.toList = icells (cntL false k []) ∧ ∀ W : World, (Instr.makeSlice 63 (.int .i64 (k : Nat)) (.int .i64 (k : Nat))).run Tryz.prog W = .ok (.slice (some ⟨W.heap.size, 0, none⟩) k k) (W.alloc (.cells Z 3)) := by
    intro k hk
    refine ⟨madeCells (Value.int .i64 0).cells (k * 1), cntL_zero _ _, fun W => ?_⟩
    have := run_makeSlice (P := Tryz.prog) (w := W) 63 3 i0 (.int .i64 0) Tryz.underlying63 hi hz0 .i64 .i64 (k : Nat) (k : Nat) (by omega) (by omega) (by rw [hz1]; omega) (by rw [hz2]; omega) (by omega)
    rw [hz1] at this
    exact this
  obtain ⟨Z1, hZ1, m1⟩ := mk 286 (by omega)
  obtain ⟨Z2, hZ2, m2⟩ := mk 30 (by omega)
  have m1 : ∀ W : World, (Instr.makeSlice 63 (.int .i64 286) (.int .i64 286)).run Tryz.prog W = .ok (.slice (some ⟨W.heap.size, 0, none⟩) 286 286) (W.alloc (.cells Z1 3)) := m1
  have m2 : ∀ W : World, (Instr.makeSlice 63 (.int .i64 30) (.int .i64 30)).run Tryz.prog W = .ok (.slice (some ⟨W.heap.size, 0, none⟩) 30 30) (W.alloc (.cells Z2 3)) := m2
  have HZ1 := keepf hZ1
  have HZ2 := keepf hZ2
  clear mk hZ1 hZ2
  go_enter Tryz.func112, Tryz.ntmps112
  go_upto_region 1 with fail
  go_cut [2, 3] from 4 to 13 (fun va vb wx => ∃ bs bd, va = .slice (some ⟨bs, 0, none⟩) 286 286 ∧ vb = .slice (some ⟨bd, 0, none⟩) 30 30 ∧ Hid (Row wx bs 286 (cntL false 286 [])) ∧ Hid (Row wx bd 30 (cntL true 30 [])) ∧ Hid (Chg NoS w wx) ∧ Hid (bs ≠ bd ∧ w.heap.size ≤ bs ∧ w.heap.size ≤ bd))
  case first =>
    go_region
    all_goals (go_wp2_with fail; go_meet)
    · refine ⟨w.heap.size, w.heap.size + 1, rfl, rfl, ((row_made HZ1.out (cntL_len _ _ _) (by omega)).chg ((Chg.refl NoS _).alloc _) (fun e => e)).drew, ?_, (((Chg.refl NoS w).alloc _).alloc _).drew, by omega, by omega, by omega⟩
      have h := (row_made (w := w.alloc (.cells Z1 3)) (N := 30) HZ2.out (cntL_len _ _ _) (by omega)).drew
      rw [show (w.alloc (.cells Z1 3)).heap.size = w.heap.size + 1 from by simp] at h
      exact h
    · refine ⟨w.heap.size + 1, w.heap.size, rfl, rfl, ?_, ((row_made HZ2.out (cntL_len _ _ _) (by omega)).chg ((Chg.refl NoS _).alloc _) (fun e => e)).drew, (((Chg.refl NoS w).alloc _).alloc _).drew, by omega, by omega, by omega⟩
      have h := (row_made (w := w.alloc (.cells Z2 3)) (N := 286) HZ1.out (cntL_len _ _ _) (by omega)).drew
      rw [show (w.alloc (.cells Z2 3)).heap.size = w.heap.size + 1 from by simp] at h
      exact h
  case rest =>
    obtain ⟨bs, bd, rfl, rfl, HR1, HR2, HC, HN3⟩ := hcut
    go_wp2_with (first
      | (go_at_call 133; refine (counter_to _ _ _ _).mono ?_; rintro e w2 ⟨rfl, hc2, hb2⟩; first | (have HC3 := keepf (HC2.out.trans hc2 (fun _ _ h => h)); have HA3 := keepf (HA2.out.chg hc2 (fun h => h)); have HB3 := keepf hb2; have HJ := keepf (CntJ.mk (w := w) (T := T) (V := .slice A n c) (ys := []) (HR1.out.chg HC3.out (fun e => e)) (HR2.out.chg HC3.out (fun e => e)) HA3.out HB3.out (by rw [← HN.out]; exact own_chg HO.out (HC.out.trans HC3.out (fun _ _ h => h)) (fun _ _ e => e)) (HC.out.trans HC3.out (fun _ _ h => h)) HN3.out.1 HN3.out.2.1 HN3.out.2.2)) | (have HC2 := keepf hc2; have HA2 := keepf hb2); clear hc2 hb2)
      | (go_at_call 108; go_loud (refine (HTELL.out _ _ _ _ _ HJ.out).mono ?_; rintro e w4 ⟨rfl, hj4⟩; have HJ4 := keepf hj4; clear hj4)))
    go_ret2
    exact ⟨bs, bd, rfl, HJ4.out.s, HJ4.out.d, HJ4.out.c, HJ4.out.n, HJ4.out.ns, HJ4.out.nd⟩
end Go.Proofs.YtmmilchmnimjoaaGreat
/- table, codes, fixedCodes and lengths: codes that are made. -/
namespace Go.Proofs.YtmmilchmnimjoaaGreat
open Go.RowKit
set_option linter.unusedVariables false
set_option linter.unusedSimpArgs false
theorem PdF.chgK {w w' : World} {B g gw : Nat} {L : List Bool} {S fs fd : Value} (h : PdF w B g gw L S fs fd) {k : Nat} {t : TypeId} {cs : Array Value} (hk : Blk w k t cs) (h1 : t ≠ 107) (h2 : t ≠ 131) (h3 : t ≠ 5) (h4 : t ≠ 158)
    (hc : Chg (fun i => i = k) w w') : PdF w' B g gw L S fs fd := by
  have hn := h.ne hk h1 h2 h3
  refine ⟨h.blk.chg hc (fun e => hn (.inl e.symm)), h.wr.chg hc (fun i hi e => hn (.inr (e ▸ hi))), h.fix.chg hc (fun j ls hj e => ?_), h.bg, h.bw, h.bs⟩
  subst e
  obtain ⟨T, Sy, hb, _⟩ := hj
  exact Blk.ne_ hk hb h4 rfl
theorem PMv.setNew {g gw : Nat} {w w1 : World} {S S1 : Value} (h : PMv g gw w S w1 S1) {k : Nat} (hk : w.heap.size ≤ k) (i : Nat) (u : Value) : PMv g gw w S (w1.setCell ⟨k, i, none⟩ u) S1 :=
  ⟨h.c.setCell (p := ⟨k, i, none⟩) (fun e => by simp only at e; omega) u, h.f⟩
theorem setK (w : World) (k i : Nat) (u : Value) : Chg (fun j => j = k) w (w.setCell ⟨k, i, none⟩ u) := (Chg.refl (fun j => j = k) w).setCell (p := ⟨k, i, none⟩) (fun _ => rfl) u
theorem Tb.chgK {w w' : World} {tb k : Nat} {ls : List Int} (h : Tb w tb ls) {t : TypeId} {cs : Array Value} (hk : Blk w k t cs) (h4 : t ≠ 158) (hc : Chg (fun i => i = k) w w') : Tb w' tb ls :=
  h.chg hc (fun e => by
    subst e
    obtain ⟨T, Sy, hb, _⟩ := h
    exact Blk.ne_ hk hb h4 rfl)
set_option maxRecDepth 100000 in
theorem table_ok (B g gw : Nat) (L : List Bool) (S fs fd : Value) (ls : List Int) (A : Option Addr) (c : Nat) (w : World) (hp : PdF w B g gw L S fs fd) (hM : May ls) (hb : in64 ls) (hS : Src w 1 A ls.length c (icells ls)) :
    Calls Tryz.prog 132 #[.pointer (some ⟨g, 0, none⟩), .slice A ls.length c] w fun e w' => ∃ tb, e = .returned (.pointer (some ⟨tb, 0, none⟩)) ∧ Tb w' tb ls ∧ PdF w' B g gw L S fs fd ∧ PMv g gw w S w' S := by
  have HN := keepf (new_ok ls A c w hM hb hS)
  have HP := keepf hp
  clear hp hS
  go_enter Tryz.func132, Tryz.ntmps132
  go_wp2_with (first
    | (go_at_call 99; refine HN.out.mono ?_; rintro e w2 ⟨tb, rfl, ht2, hc2, hn2⟩; have HT2 := keepf ht2; have hp2 := HP.out.no hc2; have HP2 := keepf hp2; have HC2 := keepf hc2; have HK := keepf (keep_ok B g gw L S fs fd w2 hp2); clear ht2 hp2 hc2 hn2)
    | (go_at_call 124; refine HK.out.mono ?_; rintro e w3 ⟨rfl, hp3, hm3⟩; have HT3 := keepf (hm3.tb HP2.out.pd HT2.out); have HP3 := keepf hp3; have HM3 := keepf ((PMv.news HC2.out).trans hm3); clear hp3 hm3))
  go_ret
  exact ⟨tb, rfl, HT3.out, HP3.out, HM3.out⟩
set_option maxHeartbeats 1000000 in
set_option maxRecDepth 100000 in
theorem pcodes_ok (B g gw : Nat) (L : List Bool) (S fs fd : Value) (ls ds : List Int) (A A2 : Option Addr) (c c2 : Nat) (w : World) (hp : PdF w B g gw L S fs fd) (hM : May ls) (hb : in64 ls) (hD : May ds) (hd : in64 ds)
    (hS : Src w 1 A ls.length c (icells ls)) (hS2 : ∀ w', PMv g gw w S w' S → Src w' 1 A2 ds.length c2 (icells ds)) :
    Calls Tryz.prog 111 #[.pointer (some ⟨g, 0, none⟩), .slice A ls.length c, .slice A2 ds.length c2] w fun e w' => ∃ ta tb, e = .returned (.agg #[.pointer (some ⟨ta, 0, none⟩), .pointer (some ⟨tb, 0, none⟩)]) ∧ Tb w' ta ls ∧ Tb w' tb ds ∧ PdF w' B g gw L S fs fd ∧ PMv g gw w S w' S := by
  have hw1 : Chg NoS w (w.alloc (.cells #[.pointer none, .pointer none] 105)) := (Chg.refl NoS w).alloc _
  have HT := keepf (table_ok B g gw L S fs fd ls A c _ (hp.no hw1) hM hb (hS.below (w0 := w) hw1))
  have HS2 := keepf hS2
  have HP := keepf hp
  have HC := keepf hw1
  have HB0 := keepf (Blk.new w 105 #[.pointer none, .pointer none])
  obtain ⟨n, hn⟩ : ∃ n, n = ls.length := ⟨_, rfl⟩
  obtain ⟨m, hm⟩ : ∃ m, m = ds.length := ⟨_, rfl⟩
  have HT2 := keepf (fun (W : World) h h2 => table_ok B g gw L S fs fd ds A2 c2 W h hD hd h2)
  rw [← hn] at HT ⊢
  rw [← hm] at HT2 HS2 ⊢
  clear hp hS hS2 hw1 hn hm
  go_enter Tryz.func111, Tryz.ntmps111
  go_wp2_with (go_at_call 132; first
    | (refine (HT2.out _ HP2.out (HS2.out _ ((PMv.news HC.out).trans HM2.out))).mono ?_; rintro e w3 ⟨tb, rfl, ht3, hp3, hm3⟩; have HTA3 := keepf (hm3.tb HP2.out.pd HTA2.out); have HTB3 := keepf ht3; have HP3 := keepf hp3; have HM3 := keepf ((PMv.news HC.out).trans (HM2.out.trans hm3)); have b3 := hm3.blk HP2.out.pd HB2.out (by decide) (by decide) (by decide); have q0 := b3.frozen 0; have q1 := b3.frozen 1; have r0 := b3.cell 0; have r1 := b3.cell 1; simp at r0 r1; have HB3 := keepf b3; clear ht3 hp3 hm3 b3)
    | (refine HT.out.mono ?_; rintro e w2 ⟨ta, rfl, ht2, hp2, hm2⟩; have HTA2 := keepf ht2; have HP2 := keepf hp2; have HM2 := keepf hm2; have HB2 := keepf (hm2.blk (HP.out.no HC.out).pd HB0.out (by decide) (by decide) (by decide)); clear ht2 hp2 hm2))
  have hb4 := HB3.out.set_ 0 (.pointer (some ⟨ta, 0, none⟩))
  have hb5 := hb4.set_ 1 (.pointer (some ⟨tb, 0, none⟩))
  have q2 := hb5.cell 0
  have q3 := hb5.cell 1
  simp at q2 q3
  have hk1 := setK w3 w.heap.size 0 (.pointer (some ⟨ta, 0, none⟩))
  have hk2 := setK (w3.setCell ⟨w.heap.size, 0, none⟩ (.pointer (some ⟨ta, 0, none⟩))) w.heap.size 1 (.pointer (some ⟨tb, 0, none⟩))
  refine bodyPost_ret (v := .agg #[.pointer (some ⟨ta, 0, none⟩), .pointer (some ⟨tb, 0, none⟩)]) (by simp [results, Tryz.results111, go_sem, q2, q3]) rfl
    ⟨ta, tb, rfl, (HTA3.out.chgK HB3.out (by decide) hk1).chgK hb4 (by decide) hk2, (HTB3.out.chgK HB3.out (by decide) hk1).chgK hb4 (by decide) hk2,
      (HP3.out.chgK HB3.out (by decide) (by decide) (by decide) (by decide) hk1).chgK hb4 (by decide) (by decide) (by decide) (by decide) hk2, (HM3.out.setNew (Nat.le_refl _) _ _).setNew (Nat.le_refl _) _ _⟩
theorem PdF.setFix {w : World} {B g gw ta tb : Nat} {L : List Bool} {S fs fd : Value} (h : PdF w B g gw L S fs fd) (h1 : Tb w ta fixS) (h2 : Tb w tb fixD) :
    PdF ((w.setCell ⟨g, 2, none⟩ (.pointer (some ⟨ta, 0, none⟩))).setCell ⟨g, 3, none⟩ (.pointer (some ⟨tb, 0, none⟩))) B g gw L S (.pointer (some ⟨ta, 0, none⟩)) (.pointer (some ⟨tb, 0, none⟩)) ∧
    PMv g gw w S ((w.setCell ⟨g, 2, none⟩ (.pointer (some ⟨ta, 0, none⟩))).setCell ⟨g, 3, none⟩ (.pointer (some ⟨tb, 0, none⟩))) S ∧
    Tb ((w.setCell ⟨g, 2, none⟩ (.pointer (some ⟨ta, 0, none⟩))).setCell ⟨g, 3, none⟩ (.pointer (some ⟨tb, 0, none⟩))) ta fixS ∧
    Tb ((w.setCell ⟨g, 2, none⟩ (.pointer (some ⟨ta, 0, none⟩))).setCell ⟨g, 3, none⟩ (.pointer (some ⟨tb, 0, none⟩))) tb fixD := by
  have hc := (setK w g 2 (.pointer (some ⟨ta, 0, none⟩))).trans (setK _ g 3 (.pointer (some ⟨tb, 0, none⟩))) (fun _ _ e => e)
  have hb := (h.blk.set_ 2 (.pointer (some ⟨ta, 0, none⟩))).set_ 3 (.pointer (some ⟨tb, 0, none⟩))
  have t1 := h1.chgK h.blk (by decide) hc
  have t2 := h2.chgK h.blk (by decide) hc
  have hg : ¬ WS gw S g := by
    rintro (e | e)
    · exact Blk.ne_ (by rw [← e]; exact h.blk) h.wr.1 (by decide) rfl
    · exact own_ne_blk h.wr.2 h.blk (by decide) e
  exact ⟨⟨by simpa using hb, h.wr.chg hc (fun i hi e => hg (e ▸ hi)), .inr ⟨ta, tb, rfl, rfl, t1, t2⟩, h.bg, h.bw, h.bs⟩, ⟨hc.mono (fun i _ e => .inl e), fun i hi => .inl hi⟩, t1, t2⟩
def FixTo (w : World) (B g gw : Nat) (L : List Bool) (S : Value) (e : Ending) (w' : World) : Prop :=
  ∃ ta tb, e = .returned (.agg #[.pointer (some ⟨ta, 0, none⟩), .pointer (some ⟨tb, 0, none⟩)]) ∧ Tb w' ta fixS ∧ Tb w' tb fixD ∧ Pd w' B g gw L S ∧ PMv g gw w S w' S
set_option maxHeartbeats 1000000 in
set_option maxRecDepth 100000 in
theorem fixedCodes_ok (B g gw : Nat) (L : List Bool) (S : Value) (w : World) (hp : Pd w B g gw L S) :
    Calls Tryz.prog 94 #[.pointer (some ⟨g, 0, none⟩)] w (FixTo w B g gw L S) := by
  obtain ⟨fs, fd, hp⟩ := hp
  have hw1 : Chg NoS w (w.alloc (.cells #[.pointer none, .pointer none] 105)) := (Chg.refl NoS w).alloc _
  have hp1 := hp.no hw1
  have hb0 := Blk.new w 105 #[.pointer none, .pointer none]
  rcases hp.fix with ⟨rfl, rfl⟩ | ⟨ta, tb, rfl, rfl, hta, htb⟩
  · have c2 := hp1.blk.cell 2
    simp at c2
    have HP1 := keepf hp1
    have HB0 := keepf hb0
    have HC1 := keepf hw1
    clear hp hp1 hb0 hw1
    go_enter Tryz.func94, Tryz.ntmps94
    go_upto_region 3 with (first
      | (go_at_call 74; refine (fixed_any _).mono ?_; rintro e w2 ⟨A, A2, c, d, rfl, hoA, hoB, hc2⟩; have HC2 := keepf (hc2); have HB2 := keepf (HB0.out.chg hc2 (fun h => h)); have hp2 := HP1.out.no hc2
         have HCO := pcodes_ok B g gw L S _ _ fixS fixD A A2 c d w2 hp2 fixS_may (fun z hz => by have := fixS_may.2.2.1 z hz; omega) fixD_may (fun z hz => by have := fixD_may.2.2.1 z hz; omega) (src_own hoA) (fun w' hm => src_own (hm.own hp2.pd hoB (by decide) (by decide) (by decide)))
         rw [show fixS.length = 288 from by simp [fixS], show fixD.length = 30 from by simp [fixD]] at HCO
         have HCO := keepf HCO
         have HP2 := keepf hp2
         clear hoA hoB hc2 hp2)
      | (go_at_call 111; refine HCO.out.mono ?_; rintro e w3 ⟨ta, tb, rfl, hta, htb, hp3, hm3⟩; have hs3 := hp3.setFix hta htb; have HS3 := keepf hs3; have b4 := (hm3.blk HP2.out.pd HB2.out (by decide) (by decide) (by decide)).chg ((setK w3 g 2 (.pointer (some ⟨ta, 0, none⟩))).trans (setK _ g 3 (.pointer (some ⟨tb, 0, none⟩))) (fun _ _ e => e)) (fun e => Blk.ne_ (hm3.blk HP2.out.pd HB2.out (by decide) (by decide) (by decide)) hp3.blk (by decide) e); have HB4 := keepf b4; have s2 := hs3.1.blk.cell 2; have s3 := hs3.1.blk.cell 3; have u0 := b4.frozen 0; have u1 := b4.frozen 1; simp at s2 s3; have d2 := hp3.blk.cell 2; have d3 := hp3.blk.cell 3; have e2 := hp3.blk.frozen 2; have e3 := hp3.blk.frozen 3; simp at d2 d3; have HM3 := keepf ((PMv.news (HC1.out.trans HC2.out (fun _ _ h => h))).trans hm3); clear hta htb hp3 hm3 hs3 b4))
    obtain ⟨w4, hw4⟩ : ∃ w4, w4 = (w3.setCell ⟨g, 2, none⟩ (.pointer (some ⟨ta, 0, none⟩))).setCell ⟨g, 3, none⟩ (.pointer (some ⟨tb, 0, none⟩)) := ⟨_, rfl⟩
    rw [← hw4] at HS3 HB4 s2 s3 u0 u1 ⊢
    clear hw4 d2 d3 e2 e3 c2
    have v0 := HB4.out.cell 0
    have v1 := HB4.out.cell 1
    simp at v0 v1
    go_wp2_with fail
    have hb4 := HB4.out.set_ 0 (.pointer (some ⟨ta, 0, none⟩))
    have hb5 := hb4.set_ 1 (.pointer (some ⟨tb, 0, none⟩))
    have q2 := hb5.cell 0
    have q3 := hb5.cell 1
    simp at q2 q3
    have hk1 := setK w4 w.heap.size 0 (.pointer (some ⟨ta, 0, none⟩))
    have hk2 := setK (w4.setCell ⟨w.heap.size, 0, none⟩ (.pointer (some ⟨ta, 0, none⟩))) w.heap.size 1 (.pointer (some ⟨tb, 0, none⟩))
    obtain ⟨p4, m4, t4, t5⟩ := HS3.out
    refine bodyPost_ret (v := .agg #[.pointer (some ⟨ta, 0, none⟩), .pointer (some ⟨tb, 0, none⟩)]) (by simp [results, Tryz.results94, go_sem, q2, q3]) rfl
      ⟨ta, tb, rfl, (t4.chgK HB4.out (by decide) hk1).chgK hb4 (by decide) hk2, (t5.chgK HB4.out (by decide) hk1).chgK hb4 (by decide) hk2,
        ((p4.chgK HB4.out (by decide) (by decide) (by decide) (by decide) hk1).chgK hb4 (by decide) (by decide) (by decide) (by decide) hk2).pd, ((HM3.out.trans m4).setNew (Nat.le_refl _) _ _).setNew (Nat.le_refl _) _ _⟩
  · have c2 := hp1.blk.cell 2
    have c3 := hp1.blk.cell 3
    simp at c2 c3
    go_enter Tryz.func94, Tryz.ntmps94
    go_wp2_with fail
    have hw2 : Chg NoS w (w.alloc (.cells #[.pointer (some ⟨ta, 0, none⟩), .pointer (some ⟨tb, 0, none⟩)] 105)) := (Chg.refl NoS w).alloc _
    have hb2 := Blk.new w 105 #[.pointer (some ⟨ta, 0, none⟩), .pointer (some ⟨tb, 0, none⟩)]
    have q0 := hb2.cell 0
    have q1 := hb2.cell 1
    simp at q0 q1
    refine bodyPost_ret (v := .agg #[.pointer (some ⟨ta, 0, none⟩), .pointer (some ⟨tb, 0, none⟩)]) (by simp [results, Tryz.results94, go_sem, q0, q1]) rfl
      ⟨ta, tb, rfl, hta.chg hw2 (fun e => e), htb.chg hw2 (fun e => e), (hp.no hw2).pd, PMv.news hw2⟩
end Go.Proofs.YtmmilchmnimjoaaGreat
/- trim, inOrder, and the lengths that suit counts. -/
namespace Go.Proofs.YtmmilchmnimjoaaGreat
open Go.RowKit
set_option linter.unusedVariables false
set_option linter.unusedSimpArgs false
def trimN (l : List Int) (least : Nat) : Nat → Nat
  | 0 => 0
  | n + 1 => if least < n + 1 ∧ l.getD n 0 = 0 then trimN l least n else n + 1
theorem trimN_le (l : List Int) (least : Nat) : ∀ n, trimN l least n ≤ n
  | 0 => Nat.le_refl _
  | n + 1 => by
    unfold trimN
    split
    · exact Nat.le_succ_of_le (trimN_le l least n)
    · exact Nat.le_refl _
theorem trimN_ge (l : List Int) (least : Nat) : ∀ n, least ≤ n → least ≤ trimN l least n
  | 0, h => by unfold trimN; exact h
  | n + 1, h => by
    unfold trimN
    split
    · exact trimN_ge l least n (by omega)
    · exact h
theorem trimN_zero (l : List Int) (least : Nat) : ∀ n i, trimN l least n ≤ i → i < n → l.getD i 0 = 0
  | 0, i, _, h => by omega
  | n + 1, i, h, h2 => by
    unfold trimN at h
    split at h
    · rename_i h3
      rcases Nat.lt_or_ge i n with h4 | h4
      · exact trimN_zero l least n i h h4
      · have : i = n := by omega
        subst this
        exact h3.2
    · omega
def trimL (l : List Int) (least : Nat) : List Int := l.take (trimN l least l.length)
theorem trimL_len (l : List Int) (least : Nat) : (trimL l least).length = trimN l least l.length := by
  have := trimN_le l least l.length
  rw [trimL, List.length_take]
  omega
theorem trimL_get {l : List Int} {least i : Nat} : (trimL l least).getD i 0 = l.getD i 0 := by
  rcases Nat.lt_or_ge i (trimN l least l.length) with h | h
  · simp [trimL, List.getD_eq_getElem?_getD, List.getElem?_take, h]
  · rcases Nat.lt_or_ge i l.length with h2 | h2
    · rw [trimN_zero l least l.length i h h2]
      simp [trimL, List.getD_eq_getElem?_getD, List.getElem?_take, Nat.not_lt.2 h]
    · simp [trimL, List.getD_eq_getElem?_getD, List.getElem?_take, Nat.not_lt.2 h, List.getElem?_eq_none h2]
theorem rmOf_take : ∀ (l : List Int) (n : Nat), rmOf (l.take n) ≤ rmOf l
  | [], n => by simp
  | x :: l, 0 => by simp [rmOf]
  | x :: l, n + 1 => by
    have := rmOf_take l n
    rw [List.take_succ_cons]
    simp only [rmOf]
    omega
theorem trimL_may {l : List Int} {least : Nat} (h0 : ∀ z ∈ l, 0 ≤ z ∧ z ≤ 15) (hr : rmOf l ≤ 32768) (h1 : 1 ≤ least) (h2 : least ≤ l.length) (h3 : l.length ≤ 320) : May (trimL l least) := by
  have hl := trimL_len l least
  have hg := trimN_ge l least l.length h2
  have he := trimN_le l least l.length
  exact ⟨by omega, by omega, fun z hz => h0 z (List.mem_of_mem_take hz), Nat.le_trans (rmOf_take _ _) hr⟩
set_option maxRecDepth 100000 in
theorem trim_ok (l : List Int) (least : Nat) (A : Option Addr) (c : Nat) (w : World) (hS : Src w 1 A l.length c (icells l)) (hc : l.length ≤ c) (hL : l.length ≤ 1000) (h1 : least ≤ l.length) :
    Calls Tryz.prog 113 #[.slice A l.length c, .int .i64 (least : Nat)] w fun e w' => e = .returned (.slice A (trimN l least l.length) c) ∧ w = w' := by
  obtain ⟨t, ht⟩ : ∃ t, t = trimN l least l.length := ⟨_, rfl⟩
  have htl := trimN_le l least l.length
  rw [← ht] at htl ⊢
  have HT := keepf ht.symm
  have HS := keepf hS
  obtain ⟨n, hn⟩ : ∃ n, n = l.length := ⟨_, rfl⟩
  rw [← hn] at hc hL h1 htl HS HT ⊢
  have HN := keepf hn
  have hs := fun W => toI A n c t (by omega) W
  clear ht hS hn
  go_enter Tryz.func113, Tryz.ntmps113
  go_wp2_with fail
  go_loop [5] (fun v => ∃ k : Nat, k ≤ n ∧ least ≤ k ∧ v = .int .i64 (k : Nat) ∧ Hid (trimN l least k = t)) (fun v => (intOf v).toNat)
  case atStart => exact ⟨n, Nat.le_refl _, h1, rfl, HT.out⟩
  case round =>
    obtain ⟨k, hk, hlk, rfl, HK⟩ := hrel
    by_cases hlt : least < k
    · obtain ⟨j, rfl⟩ : ∃ j, k = j + 1 := ⟨k - 1, by omega⟩
      obtain ⟨z, hz⟩ : ∃ z, l[j]? = some z := ⟨_, List.getElem?_eq_getElem (by have := HN.out; omega)⟩
      obtain ⟨b, off, rfl, hcell⟩ := HS.out.plain (by rw [icells_len, ← HN.out]; omega)
      have cx := hcell j _ (icells_get hz)
      have e1 : l.getD j 0 = z := by simp [List.getD_eq_getElem?_getD, hz]
      have HE := keepf e1
      have d1 : decide ((least : Int) < ((j + 1 : Nat) : Int)) = true := by simp; omega
      have d2 : decide ((least : Int) < (j : Int) + 1) = true := by simp; omega
      have hj : ((j : Int) + 1) - 1 = j := by omega
      have hj2 : (((j + 1 : Nat) : Int)) - 1 = j := by omega
      have hjn : (j : Int) < n := by omega
      clear hcell hz e1
      by_cases hz0 : z = 0
      · have u0 : (z == 0) = true := by simpa using hz0
        have HZ := keepf hz0
        clear hz0
        go_wp2_with fail
        go_round
        case rel =>
          refine ⟨j, by omega, by omega, rfl, ?_⟩
          have := HK.out
          rw [trimN, if_pos ⟨hlt, by rw [HE.out, HZ.out]⟩] at this
          exact this
        case measure => simp [intOf]
      · have u0 : (z == 0) = false := by simpa using hz0
        have e2 : t = j + 1 := by
          have := HK.out
          rw [trimN, if_neg (fun h => hz0 (by rw [← HE.out]; exact h.2))] at this
          exact this.symm
        clear hz0
        subst e2
        go_wp2_with fail
        go_ret
        exact ⟨rfl, rfl⟩
    · have e1 : k = least := by omega
      subst e1
      have e2 : t = k := by
        have := HK.out
        have h1 := trimN_le l k k
        have h2 := trimN_ge l k k (Nat.le_refl _)
        omega
      subst e2
      go_wp2_with fail
      go_ret
      exact ⟨rfl, rfl⟩
structure SuitL (cs : List Int) (most : Nat) (D : List Int) : Prop where
  len : D.length = cs.length
  ok : ∀ z ∈ D, 0 ≤ z ∧ z ≤ most
  pos : ∀ y, y < cs.length → (0 < D.getD y 0 ↔ 0 < cs.getD y 0)
  room : rmOf D ≤ 32768
  det : ∃ d, UsedIs cs d ∧ LensOk cs most d D
theorem SuitL.one {cs D D' : List Int} {most : Nat} (h : SuitL cs most D) (h' : SuitL cs most D') : D = D' := by
  obtain ⟨d, h1, h2⟩ := h.det
  obtain ⟨d', h3, h4⟩ := h'.det
  obtain rfl := h1.one h3
  exact h2.one_ h4
theorem suitL_of {cs d D : List Int} {most : Nat} (h : LensOk cs most d D) (hu : UsedIs cs d) : SuitL cs most D := by
  have hm : ∀ y : Nat, y < cs.length → ((y : Int) ∈ d ↔ 0 < cs.getD y 0) := fun y hy => by
    rw [hu.perm.mem_iff, usedTo_mem]
    unfold keyOf
    rw [Int.toNat_natCast]
    exact ⟨fun h => h.2.2, fun h => ⟨by omega, by omega, h⟩⟩
  refine ⟨h.len, fun z hz => ?_, fun y hy => ?_, h.room, ⟨d, hu, h⟩⟩
  · obtain ⟨i, hi, rfl⟩ := List.getElem_of_mem hz
    have e : D[i] = D.getD i 0 := by simp [List.getD_eq_getElem?_getD, hi]
    rw [e]
    by_cases hy : (i : Int) ∈ d
    · have h1 := h.yes _ hy
      rw [Int.toNat_natCast] at h1
      omega
    · rw [h.no i hy]
      omega
  · rw [← hm y hy]
    by_cases h2 : (y : Int) ∈ d
    · have h1 := h.yes _ h2
      rw [Int.toNat_natCast] at h1
      exact ⟨fun _ => h2, fun _ => by omega⟩
    · rw [h.no y h2]
      exact ⟨fun h => by omega, fun h => absurd h h2⟩
def RowIn (w : World) (B g gw : Nat) (L : List Bool) (S : Value) (P : List Int → Prop) (e : Ending) (w' : World) : Prop :=
  ∃ (A : Option Addr) (c : Nat) (D : List Int), e = .returned (.slice A D.length c) ∧ w'.ownsRow 0 3 1 (.slice A D.length c) D.length (icells D) ∧ P D ∧ Pd w' B g gw L S ∧ PMv g gw w S w' S
theorem plengths_ok (B g gw : Nat) (L : List Bool) (S : Value) (cs : List Int) (most : Nat) (A : Option Addr) (c : Nat) (w : World) (hp : Pd w B g gw L S) (hL : cs.length ≤ 1000) (hS : Src w 1 A cs.length c (icells cs)) (hF : Fine cs most) :
    Calls Tryz.prog 114 #[.pointer (some ⟨g, 0, none⟩), .slice A cs.length c, .int .i64 (most : Nat)] w (RowIn w B g gw L S (SuitL cs most)) := by
  have HLE := keepf (lengths_ok cs A c most w hL hS hF)
  obtain ⟨fs, fd, hp⟩ := hp
  have HP := keepf hp
  clear hp hS hF
  go_enter Tryz.func114, Tryz.ntmps114
  go_wp2_with (first
    | (go_at_call 134; refine HLE.out.mono ?_; rintro e w2 ⟨A2, c2, d, D, rfl, ho2, hu2, hl2, hc2⟩; have HO2 := keepf ho2; have HI2 := keepf (suitL_of hl2 hu2); have hp2 := HP.out.no hc2; have HP2 := keepf hp2; have HC2 := keepf hc2; have HK := keepf (keep_ok B g gw L S fs fd w2 hp2); clear ho2 hu2 hl2 hp2 hc2)
    | (go_at_call 124; refine HK.out.mono ?_; rintro e w3 ⟨rfl, hp3, hm3⟩; have HO3 := keepf (hm3.own HP2.out.pd HO2.out (by decide) (by decide) (by decide)); have HP3 := keepf hp3; have HM3 := keepf ((PMv.news HC2.out).trans hm3); clear hp3 hm3))
  go_ret
  exact ⟨A2, c2, D, rfl, HO3.out, HI2.out, HP3.out.pd, HM3.out⟩
def ordL (l : List Int) : List Int := order.map fun s => l.getD s 0
theorem ordL_len (l : List Int) : (ordL l).length = 19 := by simp [ordL, order]
set_option maxHeartbeats 1000000 in
set_option maxRecDepth 100000 in
theorem inOrder_ok (l : List Int) (A : Option Addr) (c : Nat) (w : World) (hS : Src w 1 A l.length c (icells l)) (hl : l.length = 19) :
    Calls Tryz.prog 135 #[.slice A 19 c] w fun e w' => ∃ A2 c2, e = .returned (.slice A2 19 c2) ∧ w'.ownsRow 0 3 1 (.slice A2 19 c2) 19 (icells (ordL l)) ∧ Chg NoS w w' := by
  have HS := keepf hS
  have HL := keepf hl
  have HB := keepf (Blk.new w 3 orderCells)
  have HC := keepf ((Chg.refl NoS w).alloc (.cells orderCells 3))
  obtain ⟨i0, hi, hz0, hz1, hz2⟩ := info_parts info_int
  clear hS hl
  go_enter Tryz.func135, Tryz.ntmps135
  go_wp2_with (go_at_call 102; refine (order_any _).mono ?_; rintro e w2 ⟨rfl, hw2⟩; rw [← hw2] at HB HC; clear hw2)
  go_loopw [3, 8] (fun vo i wr => ∃ (k : Nat) (A2 : Option Addr) (c2 : Nat), k ≤ 19 ∧ i = .int .i64 (k : Nat) ∧ vo = .slice A2 k c2 ∧ Hid (wr.ownsRow 0 3 1 (.slice A2 k c2) k (icells ((ordL l).take k))) ∧ Hid (Chg NoS w2 wr) ∧ Hid (∀ a, A2 = some a → w2.heap.size ≤ a.block)) (fun _ i _ => 19 - (intOf i).toNat)
  case atStart => exact ⟨0, none, 0, by omega, rfl, rfl, own_nil _ _ _ _, Chg.refl _ _, fun a h => by cases h⟩
  case round =>
    obtain ⟨k, A2, c2, hk, rfl, rfl, HO, HCH, HNEW⟩ := hrel
    by_cases hlt : k < 19
    · obtain ⟨s, hs⟩ : ∃ s, order[k]? = some s := ⟨_, List.getElem?_eq_getElem (by simpa [order] using hlt)⟩
      have hs19 : s < 19 := by
        have : ∀ i : Nat, i < 19 → ∀ s, order[i]? = some s → s < 19 := by decide
        exact this k hlt s hs
      have co : wr.cell? ⟨w.heap.size, k, none⟩ = some (.int .i64 (s : Nat)) := by
        have := (HB.out.chg HCH.out (fun e => e)).cell k
        rw [this]
        simp [orderCells, hs]
      obtain ⟨z, hz⟩ : ∃ z, l[s]? = some z := ⟨_, List.getElem?_eq_getElem (by have := HL.out; omega)⟩
      have hSr := HS.out.below (w0 := w) (HC.out.trans HCH.out (fun _ _ h => h))
      obtain ⟨b, off, rfl, hcell⟩ := hSr.plain (by rw [icells_len, HL.out]; omega)
      have cz := hcell s _ (icells_get hz)
      have htk : (ordL l).take (k + 1) = (ordL l).take k ++ [z] := by
        rw [List.take_add_one]
        congr 1
        simp [ordL, hs, List.getD_eq_getElem?_getD, hz]
      have HTK := keepf htk
      have hs1 : (s : Int) < 19 := by omega
      clear hs hz hSr hcell htk
      go_wp2_with (at_builtin; refine wpList_append_src rfl (.tmp 12) (.tmp 17) 63 rfl 3 i0 (.int .i64 0) 1 8 Tryz.underlying63 hi hz0 hz1 hz2 rfl (by decide) (.slice A2 k c2) k _ rfl (own_chg (S := NoS) HO.out ((Chg.refl _ _).alloc _) (fun _ _ h => h)) _ _ _ [.int .i64 z] rfl (srcOneAt (by simp)) (by simp [Value.oneCell']) (by unfold maxLen; omega) (by omega) ?_; intro S4 w4 hown4 hgr4 hat4; obtain ⟨A4, c4, rfl, hA4⟩ := own_slice hown4; have HO4 := keepf hown4; have HG4 := keepf hgr4; have HA4 := keepf hat4; clear hown4 hgr4 hat4 hA4)
      go_roundw
      case rel =>
        have hch4 : Chg NoS w2 w4 := grow_chg HCH.out HNEW.out ((Chg.refl NoS _).alloc _) HG4.out
        refine ⟨k + 1, A4, c4, by omega, by go_num, rfl, ?_, hch4, grow_new HNEW.out (by have := HCH.out.size; simp; omega) HA4.out⟩
        rw [HTK.out, show icells ((ordL l).take k ++ [z]) = icells ((ordL l).take k) ++ [.int .i64 z] from by simp [icells]]
        exact HO4.out
      case measure => simp [intOf]; omega
    · obtain rfl : k = 19 := by omega
      go_wp2_with fail
      go_ret
      refine ⟨A2, c2, rfl, ?_, HC.out.trans HCH.out (fun _ _ h => h)⟩
      have := HO.out
      rw [List.take_of_length_le (by rw [ordL_len]; omega)] at this
      exact this
end Go.Proofs.YtmmilchmnimjoaaGreat
/- runs: the lengths of codes that suit runs, and the runs by these codes. -/
namespace Go.Proofs.YtmmilchmnimjoaaGreat
open Go.RowKit
set_option linter.unusedVariables false
set_option linter.unusedSimpArgs false
def cntR (s : Nat) (R : List Rn) : Nat := (R.filter (fun r => r.1 == s)).length
def cntRL (R : List Rn) : List Int := (List.range 19).map fun s => (cntR s R : Int)
theorem cntRL_len (R : List Rn) : (cntRL R).length = 19 := by simp [cntRL]
theorem cntRL_get {s : Nat} (R : List Rn) (h : s < 19) : (cntRL R).getD s 0 = (cntR s R : Int) := by simp [cntRL, List.getD_eq_getElem?_getD, h]
theorem cntR_snoc (s : Nat) (R : List Rn) (r : Rn) : cntR s (R ++ [r]) = cntR s R + if r.1 == s then 1 else 0 := by
  unfold cntR
  rw [List.filter_append, List.length_append]
  congr 1
  rw [List.filter_cons]
  split <;> rfl
theorem cntR_le (s : Nat) (R : List Rn) : cntR s R ≤ R.length := List.length_filter_le _ _
theorem cntRL_snoc (R : List Rn) (r : Rn) : cntRL (R ++ [r]) = (cntRL R).set r.1 ((cntRL R).getD r.1 0 + 1) := by
  refine List.ext_getElem (by simp [cntRL_len]) (fun i h1 h2 => ?_)
  rw [cntRL_len] at h1
  rw [List.getElem_set]
  have e : (cntRL (R ++ [r]))[i]'(by rw [cntRL_len]; exact h1) = (cntR i (R ++ [r]) : Int) := by simp [cntRL]
  have e2 : (cntRL R)[i]'(by rw [cntRL_len]; exact h1) = (cntR i R : Int) := by simp [cntRL]
  rw [e, cntR_snoc]
  by_cases hi : r.1 = i
  · subst hi
    rw [if_pos rfl, cntRL_get R h1]
    simp
  · rw [if_neg hi, e2]
    simp [hi]
theorem cntRL_zero : (madeCells (Value.int .i64 0).cells (19 * 1)).toList = icells (cntRL []) := by
  rw [Nat.mul_one]
  exact (toList_madeCells_one _ _).trans rfl
theorem cntRL_fine {R : List Rn} (h : R.length ≤ 400) : Fine (cntRL R) (7 : Nat) := by
  refine ⟨?_, by omega, by omega, ?_⟩
  · unfold cntOk
    rw [decide_eq_true_eq]
    refine ⟨by rw [cntRL_len]; omega, by rw [cntRL_len]; omega, fun z hz => ?_⟩
    obtain ⟨s, hs, rfl⟩ := List.mem_map.1 hz
    have := cntR_le s R
    omega
  · have := usedTo_len (cntRL R) (cntRL R).length
    rw [cntRL_len] at this ⊢
    exact Nat.le_trans this (by decide)
theorem bits_any (s v : Nat) (hs : s ≤ 100) (w : World) :
    Calls Tryz.prog 136 #[.agg #[.int .i64 (s : Nat), .int .i64 (v : Nat)]] w fun e w' => e = .returned (.int .i64 (runBits s : Nat)) ∧ Chg NoS w w' := by
  have h1 : runBits s = if s = 16 then 2 else if s = 17 then 3 else if s = 18 then 7 else 0 := rfl
  by_cases e16 : s = 16
  · subst e16
    go_enter Tryz.func136, Tryz.ntmps136
    go_wp2_with fail
    go_ret
    exact ⟨rfl, (Chg.refl _ _).alloc _⟩
  · by_cases e17 : s = 17
    · subst e17
      go_enter Tryz.func136, Tryz.ntmps136
      go_wp2_with fail
      go_ret
      exact ⟨rfl, (Chg.refl _ _).alloc _⟩
    · by_cases e18 : s = 18
      · subst e18
        go_enter Tryz.func136, Tryz.ntmps136
        go_wp2_with fail
        go_ret
        exact ⟨rfl, (Chg.refl _ _).alloc _⟩
      · have u1 : ((s : Int) == 16) = false := by simp; omega
        have u2 : ((s : Int) == 17) = false := by simp; omega
        have u3 : ((s : Int) == 18) = false := by simp; omega
        rw [if_neg e16, if_neg e17, if_neg e18] at h1
        have H1 := keepf h1
        clear h1 e16 e17 e18
        go_enter Tryz.func136, Tryz.ntmps136
        go_wp2_with fail
        go_ret
        exact ⟨by rw [H1.out]; rfl, (Chg.refl _ _).alloc _⟩
def headQ (cl : List Int) : List Bool := numBits false (trimN (ordL cl) 4 19 - 4) 4 ++ (trimL (ordL cl) 4).flatMap (fun z => numBits false z.toNat 3)
def bodyQ (cl : List Int) (R : List Rn) : List Bool := R.flatMap fun r => codeBits cl r.1 ++ numBits false r.2 (runBits r.1)
def runsQ (cl : List Int) (R : List Rn) : List Bool := headQ cl ++ bodyQ cl R
theorem runBits_le (s : Nat) : runBits s ≤ 7 := by
  unfold runBits
  repeat' split
  all_goals omega
theorem bodyQ_len {cl : List Int} (hM : May cl) : ∀ R : List Rn, (bodyQ cl R).length ≤ 22 * R.length
  | [] => Nat.zero_le _
  | r :: R => by
    have h1 := bodyQ_len hM R
    have h2 := lenAt_le hM.2.2.1 r.1
    have h3 := runBits_le r.1
    have e : bodyQ cl (r :: R) = (codeBits cl r.1 ++ numBits false r.2 (runBits r.1)) ++ bodyQ cl R := by simp [bodyQ]
    rw [e, List.length_append, List.length_append, codeBits_len, numBits_length, List.length_cons]
    omega
theorem suit_has {cs D : List Int} {most y : Nat} (h : SuitL cs most D) (hy : y < cs.length) (hc : 0 < cs.getD y 0) : lenAt D y ≠ 0 := by
  have := (h.pos y hy).2 hc
  unfold lenAt
  omega
theorem cntR_pos {R : List Rn} {r : Rn} (h : r ∈ R) : 0 < cntR r.1 R := by
  unfold cntR
  exact List.length_pos_iff.2 (List.ne_nil_of_mem (List.mem_filter.2 ⟨h, by simp⟩))
theorem ordL_small {cl : List Int} {most : Nat} (h : ∀ z ∈ cl, 0 ≤ z ∧ z ≤ most) (h19 : cl.length = 19) : ∀ z ∈ ordL cl, 0 ≤ z ∧ z ≤ most := by
  intro z hz
  obtain ⟨s, hs, rfl⟩ := List.mem_map.1 hz
  have hs19 : s < 19 := by
    have : ∀ s ∈ order, s < 19 := by decide
    exact this s hs
  have e : cl.getD s 0 = cl[s]'(by omega) := by simp [List.getD_eq_getElem?_getD, show s < cl.length from by omega]
  rw [e]
  exact h _ (List.getElem_mem _)
def QTo (w : World) (B g gw : Nat) (L : List Bool) (S : Value) (R : List Rn) (e : Ending) (w' : World) : Prop :=
  e = .returned (.tuple #[]) ∧ ∃ (cl : List Int) (S' : Value), SuitL (cntRL R) 7 cl ∧ Pd w' B g gw (L ++ runsQ cl R) S' ∧ PMv g gw w S w' S'
set_option maxHeartbeats 2000000 in
set_option maxRecDepth 100000 in
theorem pruns_ok (B g gw : Nat) (L : List Bool) (S : Value) (R : List Rn) (A : Option Addr) (c : Nat) (w : World) (hp : Pd w B g gw L S) (ho : w.ownsRow 0 191 2 (.slice A R.length c) R.length (xcells R))
    (hR : ∀ r ∈ R, r.1 ≤ 18 ∧ r.2 < 2 ^ runBits r.1) (hl : R.length ≤ 400) (hL : L.length ≤ 800000000) :
    Calls Tryz.prog 115 #[.pointer (some ⟨g, 0, none⟩), .slice A R.length c] w (QTo w B g gw L S R) := by
  have HP := keepf hp
  have HO := keepf ho
  have HR := keepf hR
  have HFI := keepf (cntRL_fine hl)
  obtain ⟨n, hn⟩ : ∃ n, n = R.length := ⟨_, rfl⟩
  rw [← hn] at hl HO ⊢
  have HN := keepf hn
  have eg : ∀ args w, (callFunc 128 args).run Tryz.prog w = .ok (.enter 128 args) w := enters_of Tryz.func128 (by kernel_rfl) rfl
  obtain ⟨i0, hi, hz0, hz1, hz2⟩ := info_parts info_int
  clear hp ho hR hn
  go_enter Tryz.func115, Tryz.ntmps115
  go_wp2_with (at_make; go_loud (refine wpList_make_full _ rfl (.const (.int .i64 19)) (.const (.int .i64 19)) 63 rfl 0 3 i0 (.int .i64 0) 1 Tryz.underlying63 hi hz0 hz1 .i64 .i64 19 19 19 rfl rfl rfl rfl (by rw [hz2]; decide) (by unfold maxLen; decide) (Nat.zero_le _) ?_); intro w2 hown2 hgr2; rw [cntRL_zero] at hown2; have HR2 := keepf (show Row w2 w.heap.size 19 (cntRL []) from hown2); have HC2 := keepf (show Chg NoS w w2 from (Chg.refl NoS w).grown hgr2 (fun _ e _ => by cases e)); clear hown2 hgr2)
  go_loopw [17] (fun i wr => ∃ k : Nat, k ≤ n ∧ i = .int .i64 (k : Nat) ∧ Hid (Row wr w.heap.size 19 (cntRL (R.take k))) ∧ Hid (Chg NoS w wr)) (fun i _ => n - (intOf i).toNat)
  case atStart => exact ⟨0, Nat.zero_le _, rfl, HR2.out, HC2.out⟩
  case round =>
    obtain ⟨k, hk, rfl, HRk, HCk⟩ := hrel
    by_cases hlt : k < n
    · obtain ⟨r, hr⟩ : ∃ r, R[k]? = some r := ⟨_, List.getElem?_eq_getElem (by have := HN.out; omega)⟩
      obtain ⟨hr1, hr2⟩ := HR.out r (List.mem_of_getElem? hr)
      obtain ⟨b, off, rfl, hcell⟩ := (src_own (own_chg HO.out HCk.out (fun _ _ e => e))).plain (by rw [xcells_len, ← HN.out]; omega)
      have c0 := hcell _ _ (xcells_0 hr)
      have c1 := hcell _ _ (xcells_1 hr)
      rw [← Nat.add_assoc] at c1
      have htk : R.take (k + 1) = R.take k ++ [r] := take_succ_at hr
      have HTK := keepf htk
      obtain ⟨s, v⟩ := r
      simp only at hr1 hr2 c0 c1
      have hal := (HRk.out).chg ((Chg.refl NoS wr).alloc (.cells #[.int .i64 (s : Nat), .int .i64 (v : Nat)] 191)) (fun e => e)
      have d1 := hal.cell s (by rw [cntRL_len]; omega)
      have f1 := hal.frozen s
      have hz := cntRL_get (R.take k) (s := s) (by omega)
      have hle := cntR_le s (R.take k)
      rw [List.length_take] at hle
      have hset := hal.set s ((cntRL (R.take k)).getD s 0 + 1)
      have e := cntRL_snoc (R.take k) (s, v)
      simp only at e
      rw [← e, ← htk] at hset
      have HSET := keepf hset
      have hzb : 0 ≤ (cntRL (R.take k)).getD s 0 ∧ (cntRL (R.take k)).getD s 0 ≤ 1000 := by omega
      have hs19 : (s : Int) < 19 := by omega
      generalize (cntRL (R.take k)).getD s 0 = z at *
      clear hcell hr htk hal hz hle hset e hr2
      go_wp2_with fail
      go_roundw
      case rel => exact ⟨k + 1, by omega, by go_num, HSET.out, (HCk.out.alloc _).setCell (p := ⟨w.heap.size, s, none⟩) (fun e => by simp only at e; omega) _⟩
      case measure => simp [intOf]; omega
    · obtain rfl : k = n := by omega
      have hrow := HRk.out
      rw [List.take_of_length_le (by have := HN.out; omega)] at hrow
      have HLN : Calls Tryz.prog 114 #[.pointer (some ⟨g, 0, none⟩), .slice (some ⟨w.heap.size, 0, none⟩) 19 19, .int .i64 7] wr fun e w' => ∃ (A3 : Option Addr) (c3 : Nat) (cl : List Int), e = .returned (.slice A3 19 c3) ∧
          w'.ownsRow 0 3 1 (.slice A3 19 c3) 19 (icells cl) ∧ SuitL (cntRL R) 7 cl ∧ cl.length = 19 ∧ Pd w' B g gw L S ∧ PMv g gw wr S w' S := by
        have h := plengths_ok B g gw L S (cntRL R) 7 (some ⟨w.heap.size, 0, none⟩) 19 wr (HP.out.no HCk.out) (by rw [cntRL_len]; omega) (src_own hrow) HFI.out
        rw [cntRL_len] at h
        refine h.mono ?_
        rintro e w' ⟨A3, c3, D, rfl, h1, h2, h3, h4⟩
        have hD := h2.len
        rw [cntRL_len] at hD
        rw [hD] at h1 ⊢
        exact ⟨A3, c3, D, rfl, h1, h2, hD, h3, h4⟩
      have HLN := keepf HLN
      clear hrow
      go_upto_region 7 with (go_at_call 114; refine HLN.out.mono ?_; rintro e w3 ⟨A3, c3, cl, rfl, ho3, hs3, hl3, hp3, hm3⟩; have HO3 := keepf ho3; have HS3 := keepf hs3; have HL3 := keepf hl3; have HP3 := keepf hp3; have HM3 := keepf ((PMv.news HCk.out).trans hm3); have HIN := keepf (inOrder_ok cl A3 c3 w3 (by rw [hl3]; exact src_own ho3) hl3); clear ho3 hs3 hl3 hp3 hm3)
      obtain ⟨q, hq⟩ : ∃ q, q = trimN (ordL cl) 4 19 := ⟨_, rfl⟩
      have hq1 : 4 ≤ q ∧ q ≤ 19 := by
        rw [hq]
        exact ⟨trimN_ge _ _ _ (by omega), trimN_le _ _ _⟩
      have HTR : Hid (∀ (A4 : Option Addr) (c4 : Nat) (W : World), W.ownsRow 0 3 1 (.slice A4 19 c4) 19 (icells (ordL cl)) → Calls Tryz.prog 113 #[.slice A4 19 c4, .int .i64 4] W fun e w' => e = .returned (.slice A4 q c4) ∧ W = w') := by
        intro A4 c4 W h
        have hol := ordL_len cl
        have hcap : 19 ≤ c4 := by
          rcases h.2 with ⟨h', h0⟩ | ⟨g', cap, cur, h', _, _, h1, _⟩
          · omega
          · simp only [Value.slice.injEq] at h'
            omega
        have h2 := trim_ok (ordL cl) 4 A4 c4 W (by rw [hol]; exact src_own h) (by omega) (by omega) (by omega)
        rw [hol, ← hq] at h2
        exact h2
      have HQ := keepf hq
      clear hq HLN
      go_upto_region 8 with (first
        | (go_at_call 135; refine HIN.out.mono ?_; rintro e w4 ⟨A4, c4, rfl, ho4, hc4⟩; have HO4 := keepf ho4; have HC4 := keepf hc4; clear ho4 hc4)
        | (go_at_call 113; refine (HTR.out _ _ _ HO4.out).mono ?_; rintro e w5 ⟨rfl, rfl⟩))
      obtain ⟨q4, hq4⟩ : ∃ q4, q4 = q - 4 := ⟨_, rfl⟩
      have hq5 : (q : Int) - 4 = (q4 : Int) := by omega
      have HQ4 := keepf hq4
      have HN4 := keepf (pnum_ok B g gw L S q4 4 w4 (HP3.out.no HC4.out) (by omega) (by omega) (by omega))
      clear hq4
      go_upto_region 9 with (go_at_call 107; refine HN4.out.mono ?_; rintro e w5 ⟨rfl, S5, hp5, hm5⟩; have HP5 := keepf hp5; have HO5 := keepf (hm5.own (HP3.out.no HC4.out) HO4.out (by decide) (by decide) (by decide)); have HOC5 := keepf (hm5.own (HP3.out.no HC4.out) (own_chg HO3.out HC4.out (fun _ _ e => e)) (by decide) (by decide) (by decide)); have HM5 := keepf (HM3.out.trans ((PMv.news HC4.out).trans hm5)); clear hp5 hm5)
      have hol := ordL_small HS3.out.ok HL3.out
      have htl : (trimL (ordL cl) 4).length = q := by rw [trimL_len, ordL_len, ← HQ.out]
      obtain ⟨L5, hL5⟩ : ∃ L5, L5 = L ++ numBits false q4 4 := ⟨_, rfl⟩
      rw [← hL5] at HP5
      have hl5 : L5.length = L.length + 4 := by rw [hL5, List.length_append, numBits_length]
      have HL5 := keepf hL5
      have HOL := keepf hol
      have HTL := keepf htl
      clear hL5 hol htl HRk HCk HR2 HC2
      go_wp2_with fail
      go_loopw [42] (fun i wr2 => ∃ (j : Nat) (S6 : Value), j ≤ q ∧ i = .int .i64 (j : Nat) ∧ Hid (Pd wr2 B g gw (L5 ++ ((trimL (ordL cl) 4).take j).flatMap (fun z => numBits false z.toNat 3)) S6) ∧ Hid (PMv g gw w5 S5 wr2 S6)) (fun i _ => q - (intOf i).toNat)
      case atStart => exact ⟨0, S5, Nat.zero_le _, rfl, by have h := HP5.out; rw [← List.append_nil L5] at h; exact h, PMv.refl _ _ _ _⟩
      case round =>
        obtain ⟨j, S6, hj, rfl, HP6, HM6⟩ := hrel
        by_cases hlt2 : j < q
        · obtain ⟨z, hz⟩ : ∃ z, (trimL (ordL cl) 4)[j]? = some z := ⟨_, List.getElem?_eq_getElem (by have := HTL.out; omega)⟩
          have hz2 : (ordL cl)[j]? = some z := by
            unfold trimL at hz
            rw [List.getElem?_take] at hz
            split at hz
            · exact hz
            · cases hz
          have hzb := HOL.out z (List.mem_of_getElem? hz2)
          obtain ⟨x, rfl⟩ := Int.eq_ofNat_of_zero_le hzb.1
          obtain ⟨b, off, rfl, hcell⟩ := (src_own (HM6.out.own HP5.out HO5.out (by decide) (by decide) (by decide))).plain (by rw [icells_len, ordL_len]; omega)
          have cx := hcell j _ (icells_get hz2)
          have hlen : ∀ l : List Int, (l.flatMap (fun z => numBits false z.toNat 3)).length = 3 * l.length := by
            intro l
            induction l with
            | nil => rfl
            | cons y l ih => rw [List.flatMap_cons, List.length_append, ih, numBits_length, List.length_cons]; omega
          have hl6 := hlen ((trimL (ordL cl) 4).take j)
          rw [List.length_take] at hl6
          have HN6 := keepf (pnum_ok B g gw _ S6 x 3 wr HP6.out (by omega) (by omega) (by rw [List.length_append]; omega))
          have HZ := keepf hz
          clear hcell hz hz2 hlen hl6 hzb
          go_wp2_with (go_at_call 107; refine HN6.out.mono ?_; rintro e w7 ⟨rfl, S7, hp7, hm7⟩; have HP7 := keepf hp7; have HM7 := keepf (HM6.out.trans hm7); clear hp7 hm7)
          go_roundw
          case rel =>
            refine ⟨j + 1, S7, by omega, by go_num, ?_, HM7.out⟩
            have h := HP7.out
            rw [List.append_assoc] at h
            rw [take_succ_at HZ.out, List.flatMap_append, List.flatMap_singleton, Int.toNat_natCast]
            exact h
          case measure => simp [intOf]; omega
        · obtain rfl : j = q := by omega
          have hP6 := HP6.out
          rw [List.take_of_length_le (by rw [HTL.out]; omega)] at hP6
          have hq7 : L5 ++ (trimL (ordL cl) 4).flatMap (fun z => numBits false z.toNat 3) = L ++ headQ cl := by rw [HL5.out, headQ, ← HQ.out, ← HQ4.out, List.append_assoc]
          rw [hq7] at hP6
          obtain ⟨fs, fd, hpf⟩ := hP6
          have hMay : May cl := ⟨by have := HL3.out; omega, by have := HL3.out; omega, fun z hz => by have := HS3.out.ok z hz; omega, HS3.out.room⟩
          have HTB := table_ok B g gw _ S6 fs fd cl A3 c3 wr hpf hMay (fun z hz => by have := HS3.out.ok z hz; omega) (by rw [HL3.out]; exact src_own (HM6.out.own HP5.out HOC5.out (by decide) (by decide) (by decide)))
          rw [HL3.out] at HTB
          have HTB := keepf HTB
          have HPF := keepf hpf.pd
          have HMAY := keepf hMay
          clear hpf hMay hq7
          go_upto_region 15 with (first
            | (go_at_call 132; refine HTB.out.mono ?_; rintro e w8 ⟨tb, rfl, ht8, hp8, hm8⟩; have HT8 := keepf ht8; have HP8 := keepf hp8.pd; have HM8 := keepf (HM5.out.trans (HM6.out.trans hm8)); clear ht8 hp8 hm8)
            | (go_at_call 109; refine (putter_to _ _ _).mono ?_; rintro e w9 ⟨rfl, hc9, hq9⟩; have HQ9 := keepf (hq9 cl HT8.out); have HP9 := keepf (HP8.out.no hc9); have HM9 := keepf (HM8.out.trans (PMv.news hc9)); clear hc9 hq9))
          obtain ⟨b1, hb1⟩ : ∃ b1, b1 = w8.heap.size := ⟨_, rfl⟩
          rw [← hb1] at HQ9 ⊢
          obtain ⟨L9, hL9⟩ : ∃ L9, L9 = L ++ headQ cl := ⟨_, rfl⟩
          rw [← hL9] at HP9
          have HL9 := keepf hL9
          have hl9 : L9.length ≤ 800000100 := by
            have e := headQ cl
            have h2 : ∀ l : List Int, (l.flatMap (fun z => numBits false z.toNat 3)).length = 3 * l.length := by
              intro l
              induction l with
              | nil => rfl
              | cons y l ih => rw [List.flatMap_cons, List.length_append, ih, numBits_length, List.length_cons]; omega
            rw [hL9, headQ, List.length_append, List.length_append, numBits_length, h2, HTL.out]
            omega
          have HO9 := keepf (HM9.out.own HP.out HO.out (by decide) (by decide) (by decide))
          clear hb1 hL9 HTB HP5 HO5 HOC5 HM5 HO3 HP3 HM3 HO4 HC4 HTR HIN HT8 HP8 HM8 HPF HM6 HP6
          go_wp2_with fail
          go_loopw [57] (fun i wr3 => ∃ (m : Nat) (S6X : Value), m ≤ k ∧ i = .int .i64 (m : Nat) ∧ Hid (Pd wr3 B g gw (L9 ++ bodyQ cl (R.take m)) S6X) ∧ Hid (PMv g gw w9 S6 wr3 S6X)) (fun i _ => k - (intOf i).toNat)
          case atStart => exact ⟨0, _, Nat.zero_le _, rfl, by have h := HP9.out; rw [← List.append_nil L9] at h; exact h, PMv.refl _ _ _ _⟩
          case round =>
            obtain ⟨m, S7, hm, rfl, HP7, HM7⟩ := hrel
            by_cases hlt3 : m < k
            · obtain ⟨r, hr⟩ : ∃ r, R[m]? = some r := ⟨_, List.getElem?_eq_getElem (by have := HN.out; omega)⟩
              obtain ⟨hr1, hr2⟩ := HR.out r (List.mem_of_getElem? hr)
              obtain ⟨b, off, rfl, hcell⟩ := (src_own (HM7.out.own HP9.out HO9.out (by decide) (by decide) (by decide))).plain (by rw [xcells_len, ← HN.out]; omega)
              have c0 := hcell _ _ (xcells_0 hr)
              have c1 := hcell _ _ (xcells_1 hr)
              rw [← Nat.add_assoc] at c1
              have htk : R.take (m + 1) = R.take m ++ [r] := take_succ_at hr
              have hcp := cntR_pos (List.mem_of_getElem? hr)
              have HTK := keepf htk
              obtain ⟨s, v⟩ := r
              simp only at hr1 hr2 c0 c1 hcp
              have hhas : lenAt cl s ≠ 0 := suit_has HS3.out (by rw [cntRL_len]; omega) (by rw [cntRL_get R (by omega)]; omega)
              have hbl := bodyQ_len HMAY.out (R.take m)
              rw [List.length_take] at hbl
              have hll : (L9 ++ bodyQ cl (R.take m)).length ≤ 900000000 := by rw [List.length_append]; omega
              have HHAS := keepf hhas
              have HR2 := keepf hr2
              have HBI := keepf (fun W => bits_any s v (by omega) W)
              have hn7 := runBits_le s
              obtain ⟨nb, hnb⟩ : ∃ nb, nb = runBits s := ⟨_, rfl⟩
              rw [← hnb] at HBI hn7 HR2
              have HNB := keepf hnb
              have hcA : Chg NoS wr (wr.alloc (.cells #[.int .i64 (s : Nat), .int .i64 (v : Nat)] 191)) := (Chg.refl _ _).alloc _
              have hbA := Blk.new wr 191 #[.int .i64 (s : Nat), .int .i64 (v : Nat)]
              have HCA := keepf hcA
              have HBA := keepf hbA
              clear hcell hr htk hcp hhas hbl hr2 hnb hcA hbA
              go_upto_region 18 with fail
              obtain ⟨bx, hbx⟩ : ∃ bx, bx = wr.heap.size := ⟨_, rfl⟩
              obtain ⟨W1, hW1⟩ : ∃ W1, W1 = wr.alloc (.cells #[.int .i64 (s : Nat), .int .i64 (v : Nat)] 191) := ⟨_, rfl⟩
              rw [← hW1, ← hbx] at HBA
              rw [← hW1] at HCA ⊢
              rw [← hbx]
              have x0 := HBA.out.cell 0
              have x1 := HBA.out.cell 1
              simp at x0 x1
              clear hW1 hbx c0 c1
              first
                | (go_loud (go_region_held3 (fun w' => w'.cell? ⟨bx, 0, none⟩ = some (.int .i64 (s : Nat)) ∧ w'.cell? ⟨bx, 1, none⟩ = some (.int .i64 (v : Nat)))
                    (first | (go_keep; done) | (go_split_ands; exact ⟨by assumption, by assumption⟩))
                    (first
                      | (go_at_call 136; refine (HBI.out _).mono ?_; rintro e w2 ⟨rfl, hc2⟩; have hc3 : Chg NoS W1 w2 := (Chg.refl NoS W1).drew.trans hc2 (fun _ _ h => h); have hb3 := HBA.out.chg hc3 (fun h => h); have y0 := hb3.cell 0; have y1 := hb3.cell 1; simp at y0 y1; have HB3 := keepf hb3; have hc4 : Chg NoS wr w2 := HCA.out.trans hc3 (fun _ _ h => h); have HC4 := keepf hc4; have hp4 := HP7.out.no hc4; have HP4 := keepf hp4; have HPU := keepf (putter1_ok B g gw b1 (b1 + 1) tb _ S7 cl s v nb w2 hp4 ((HQ9.out.mv HP9.out HM7.out).no hc4) HMAY.out (by rw [HL3.out]; omega) HHAS.out HR2.out (by omega) hll); clear hc2 hc3 hb3 hc4 hp4)
                      | (go_at_fn 128; refine HPU.out.mono ?_; rintro e w5 ⟨rfl, S8, hp5, hm5⟩; have hb5 := hm5.blk HP4.out HB3.out (by decide) (by decide) (by decide); have z0 := hb5.cell 0; have z1 := hb5.cell 1; simp at z0 z1; have HP5 := keepf hp5; have HM5 := keepf (HM7.out.trans ((PMv.news HC4.out).trans hm5)); clear hb5 hp5 hm5))))
                | fail "region"
              go_wp2_with fail
              go_roundw
              case rel =>
                refine ⟨m + 1, S8, by omega, by go_num, ?_, HM5.out⟩
                have h := HP5.out
                rw [List.append_assoc] at h
                have e : bodyQ cl (R.take (m + 1)) = bodyQ cl (R.take m) ++ (codeBits cl s ++ numBits false v nb) := by rw [HTK.out, HNB.out]; simp [bodyQ]
                rw [e]
                exact h
              case measure => simp [intOf]; omega
            · obtain rfl : m = k := by omega
              go_wp2_with fail
              go_end0
              refine ⟨rfl, cl, S7, HS3.out, ?_, HM9.out.trans HM7.out⟩
              have h := HP7.out
              rw [List.take_of_length_le (by have := HN.out; omega), HL9.out, List.append_assoc] at h
              exact h
end Go.Proofs.YtmmilchmnimjoaaGreat
