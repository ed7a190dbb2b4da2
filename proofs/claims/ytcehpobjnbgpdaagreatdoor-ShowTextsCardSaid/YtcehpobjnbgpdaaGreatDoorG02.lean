/- Merged by program: Bldr FBld LexS LexT Tree ValM. -/
import Derived.Test.YtcehpobjnbgpdaaGreatDoorG00
import Derived.Test.YtcehpobjnbgpdaaGreatDoorG01
import Derived.Shelf.RegionOpenPlain
import Derived.Lib.AppendStr
import Derived.Lib.Walk
import Derived.WalkMore
import Derived.Laws.Externs
import Derived.Laws.BytesArg
import Derived.Test.YtcehpobjnbgpdaaGreatDoorProg
import Derived.OpenShut
import Derived.Deep.Slices
import Derived.Deep.Fields
import Derived.Lib.SmallJoins
/- The builder of bytes that is embedded in the reader: copyCheck, WriteByte, WriteString, Len, String, at the address of the reader's own block. -/
namespace Go.Proofs.YtcehpobjnbgpdaaGreatDoor
open Go.RowKit
set_option linter.unusedVariables false
set_option linter.unusedSimpArgs false

theorem bld_size : (Tryz.prog.info? 50).map (·.size) = some 2 := by kernel_rfl

theorem bld_lies : liesAt Tryz.prog Tryz.prog.depth 99 (5 / Tryz.prog.cellsOf 99) 0 50 1 = true := by kernel_rfl

theorem byte_cells : Tryz.prog.cellsOf 5 = 1 := by kernel_rfl

theorem func_noEscape : Tryz.prog.funcs[(118 : Nat)]? = some Tryz.f118 := by kernel_rfl

set_option maxHeartbeats 1000000 in
set_option maxRecDepth 100000 in
theorem copyC_any {V w W : World} {A A2 : Option Addr} {n c R p c2 : Nat} {last : Bool} {out : List Nat} {q : Value} (h : RDx V w W A n c last R p out q A2 c2) :
    Calls Tryz.prog 83 #[.pointer (some ⟨R, 0, none⟩)] W fun e W' => e = .returned (.tuple #[]) ∧ RDx V w W' A n c last R p out (.pointer (some ⟨R, 0, none⟩)) A2 c2 := by
  obtain ⟨j, hj, hjs⟩ := Option.map_eq_some_iff.1 bld_size
  rcases h.used with rfl | rfl
  · have h0 := h.cells.1
    have hf := h.frozen 0
    have hsh := h.shape
    have HU := keepf h.use
    have g1 : (convert 48 133 (.pointer (some ⟨R, 0, none⟩))).run Tryz.prog W = .ok (.pointer (some ⟨R, 0, none⟩)) W :=
      Lib.run_to_unsafe W ⟨R, 0, none⟩ Tryz.underlying48 Tryz.underlying133 hj (by rw [hjs]; decide) hsh (Nat.zero_lt_succ 4)
    have g2 : (convert 133 48 (.pointer (some ⟨R, 0, none⟩))).run Tryz.prog W = .ok (.pointer (some ⟨R, 0, none⟩)) W :=
      Lib.run_from_unsafe W ⟨R, 0, none⟩ Tryz.underlying133 Tryz.underlying48 hj hsh bld_lies
    clear h
    go_enter Tryz.func83, Tryz.ntmps83
    go_wp2
    rw [run_callFunc_extern func_noEscape (by kernel_rfl) (by kernel_rfl) (by kernel_rfl) (e := Extern.AbiNoEscape.same) (by kernel_rfl)]
    rw [Lib.run_noEscape]
    simp only [Result.andThen]
    rw [Oper.upon_value]
    go_wp2
    go_end0
    exact ⟨rfl, HU.out⟩
  · have h0 := h.cells.1
    have HU := keepf h
    clear h
    go_enter Tryz.func83, Tryz.ntmps83
    go_wp2
    rw [Lib.run_neq_ptr_same W _ Tryz.underlying48 hj]
    go_wp2
    go_end0
    exact ⟨rfl, HU.out⟩

set_option maxHeartbeats 2000000 in
set_option maxRecDepth 100000 in
/-- A byte is put to it. -/
theorem pwbyte_any {V w W : World} {A : Option Addr} {n c R p : Nat} {last : Bool} {out : List Nat} (h : RD V w W A n c last R p out) (x : Nat) (hl : out.length ≤ 1000000) :
    Calls Tryz.prog 86 #[.pointer (some ⟨R, 0, none⟩), .int .u8 (x : Nat)] W fun e W' => e = .returned .nilIface ∧ RD V w W' A n c last R p (out ++ [x]) := by
  obtain ⟨q, A2, c2, h⟩ := h
  obtain ⟨i0, hi, hz0, hz1, hz2⟩ := info_partsL info_byL
  have HC := keepf (copyC_any h)
  clear h
  go_enter Tryz.func86, Tryz.ntmps86
  go_wp2_with (go_at_call 83; refine HC.out.mono ?_)
  rintro e w1 ⟨rfl, h1⟩
  have c0 := h1.cells.1
  have c1 := h1.cells.2.1
  have hs := h1.chg.size
  have hown := h1.own
  have HR := keepf h1
  clear h1
  go_wp2_with (at_builtin; refine wpList_append_own _ rfl _ _ 39 rfl w.heap.size 5 i0 (.int .u8 0) 1 1 Tryz.underlying39 hi hz0 hz1 hz2 rfl (by decide) _ _ _ rfl (hown.alloc _) ⟨w1.heap.size, 0, none⟩ 1 1 [.int .u8 (x : Nat)] rfl rfl ?c1 ?c2 ?c3 ?c4 ?c5 ?_)
  case c1 =>
    intro j u hj
    match j, hj with
    | 0, hj => simp at hj; subst hj; simp [Addr.add]
  case c2 => intro u hu; simp at hu; subst hu; rfl
  case c3 => unfold maxLen; omega
  case c4 => omega
  case c5 => simp; omega
  intro v' w2 hown' hgrow _
  have h2 := (HR.out.alloc (.cells #[.int .u8 (x : Nat)] 5)).at_cells hgrow
  obtain ⟨d0, d1, f1⟩ := h2
  obtain ⟨A3, c3, rfl, _⟩ := own_slice hown'
  have hl1 : (out ++ [x]).length = out.length + 1 := by simp
  have HF := keepf ((HR.out.alloc (.cells #[.int .u8 (x : Nat)] 5)).grow (out' := out ++ [x]) (A3 := A3) (c3 := c3) hgrow (by rw [hl1, lcells_app]; exact hown'))
  rw [hl1] at HF
  clear hown hown' hgrow hl1
  go_wp2
  go_ret
  exact ⟨rfl, HF.out.rd⟩

theorem strCells_sb (l : List Nat) (h : ∀ d ∈ l, d < 256) : Lib.strCells (sb l) = lcells l := by
  unfold Lib.strCells sb lcells
  rw [List.map_map]
  refine List.map_congr_left fun d hd => ?_
  have := h d hd
  simp
  omega

set_option maxHeartbeats 2000000 in
set_option maxRecDepth 100000 in
/-- A string is put to it. -/
theorem pwstr_any {V w W : World} {A : Option Addr} {n c R p : Nat} {last : Bool} {out : List Nat} (h : RD V w W A n c last R p out) (l : List Nat) (hb : ∀ d ∈ l, d < 256) (hl : out.length ≤ 1000000) (hl2 : l.length ≤ 1000000) :
    Calls Tryz.prog 48 #[.pointer (some ⟨R, 0, none⟩), .string (sb l)] W fun e W' => e = .returned (.tuple #[.int .i64 (l.length : Nat), .nilIface]) ∧ RD V w W' A n c last R p (out ++ l) := by
  obtain ⟨q, A2, c2, h⟩ := h
  obtain ⟨i0, hi, hz0, hz1, hz2⟩ := info_partsL info_byL
  have HC := keepf (copyC_any h)
  have hsz := sb_size l
  have HS := keepf (strCells_sb l hb)
  obtain ⟨s, hs⟩ : ∃ s, sb l = s := ⟨_, rfl⟩
  rw [hs] at hsz HS ⊢
  obtain ⟨m, hm⟩ : ∃ m, l.length = m := ⟨_, rfl⟩
  have hm2 : (out ++ l).length = out.length + m := by rw [List.length_append, hm]
  rw [hm] at hsz hl2 ⊢
  clear h hs hb
  go_enter Tryz.func48, Tryz.ntmps48
  go_wp2_with (go_at_call 83; refine HC.out.mono ?_)
  rintro e w1 ⟨rfl, h1⟩
  have c0 := h1.cells.1
  have c1 := h1.cells.2.1
  have hs := h1.chg.size
  have hown := h1.own
  have HR := keepf h1
  clear h1
  go_wp2_with (at_builtin; refine Lib.wpList_append_own_string _ rfl _ _ 39 9 rfl w.heap.size 5 i0 Tryz.underlying39 Tryz.underlying9 hi hz0 hz1 hz2 _ _ _ rfl hown s rfl ?c3 ?c4 ?c5 ?_)
  case c3 => unfold maxLen; omega
  case c4 => omega
  case c5 => omega
  intro v' w2 hown' hgrow _
  have h2 := HR.out.at_cells hgrow
  obtain ⟨d0, d1, f1⟩ := h2
  (try rw [hsz] at hown')
  rw [HS.out, ← lcells_app] at hown'
  obtain ⟨A3, c3, rfl, _⟩ := own_slice hown'
  have HF := keepf (HR.out.grow (out' := out ++ l) (A3 := A3) (c3 := c3) hgrow (by rw [hm2]; exact hown'))
  rw [hm2] at HF
  clear hown hown' hgrow hm2 hm HS
  go_wp2
  go_ret2
  exact ⟨rfl, HF.out.rd⟩

set_option maxHeartbeats 1000000 in
set_option maxRecDepth 100000 in
/-- How many bytes it has put together. -/
theorem plen_any {V w W : World} {A : Option Addr} {n c R p : Nat} {last : Bool} {out : List Nat} (h : RD V w W A n c last R p out) :
    Calls Tryz.prog 131 #[.pointer (some ⟨R, 0, none⟩)] W fun e W' => e = .returned (.int .i64 (out.length : Nat)) ∧ W = W' := by
  obtain ⟨q, A2, c2, h⟩ := h
  have c1 := h.cells.2.1
  clear h
  go_enter Tryz.func131, Tryz.ntmps131
  go_wp2
  go_ret
  exact ⟨rfl, rfl⟩

set_option maxHeartbeats 2000000 in
set_option maxRecDepth 100000 in
/-- What it has put together. -/
theorem pstring_any {V w W : World} {A : Option Addr} {n c R p : Nat} {last : Bool} {out : List Nat} (h : RD V w W A n c last R p out) (hb : ∀ d ∈ out, d < 256) (hl : out.length ≤ 1000000) :
    Calls Tryz.prog 27 #[.pointer (some ⟨R, 0, none⟩)] W fun e W' => e = .returned (.string (sb out)) ∧ RE V w W' R p := by
  obtain ⟨q, A2, c2, h⟩ := h
  have mixed : Tryz.prog.follows Departure.mixedOrders = true := by kernel_rfl
  have hre := h.rd.re.call ((Chg.refl NoS W).drew)
  have c1 := h.drew.cells.2.1
  have hown := h.own
  have hne := h.neq
  have hnew := h.new
  obtain ⟨m, hm⟩ : ∃ m, out.length = m := ⟨_, rfl⟩
  rw [hm] at c1 hown hne hl
  rcases hown.2 with ⟨hv, h0⟩ | ⟨g, cap, cur, hv, hbg, hg, hnc, hcm, hcs, htake⟩
  · simp only [Value.slice.injEq] at hv
    obtain ⟨rfl, h0', rfl⟩ := hv
    subst h0'
    obtain rfl : out = [] := List.eq_nil_of_length_eq_zero hm
    have hUS : ∀ W2, (Builtin.unsafeString_ #[88, 3] 9 #[.pointer none, .int .i64 0]).run Tryz.prog W2 = .ok (.string .empty) W2 := fun W2 => Lib.run_unsafeString_none W2 _ _ _ none
    have hSD : (Builtin.unsafeSliceData_ #[39] 88 #[.slice none 0 0]).run Tryz.prog W.drew = .ok (.pointer none) W.drew := rfl
    have HRE := keepf hre
    clear hre hne hown h hm
    go_enter Tryz.func27, Tryz.ntmps27
    go_wp2
    go_region_o
    all_goals (go_wp2; go_ret; exact ⟨rfl, HRE.out⟩)
  · simp only [Value.slice.injEq] at hv
    obtain ⟨rfl, _, rfl⟩ := hv
    have hgR : R ≠ g := fun e => hne (by rw [e]; rfl)
    have hgd : W.drew.heap[g]? = some (.cells cur 5 (0, 0)) := hg
    have hsh : W.drew.shape? g = some (5, cur.size) := by simp [World.shape?, hgd]
    by_cases h0 : m = 0
    · subst h0
      obtain rfl : out = [] := List.eq_nil_of_length_eq_zero hm
      have hUS : ∀ W2 q, (Builtin.unsafeString_ #[88, 3] 9 #[.pointer q, .int .i64 0]).run Tryz.prog W2 = .ok (.string .empty) W2 := fun W2 q => Lib.run_unsafeString_none W2 _ _ _ q
      by_cases hc0 : c2 = 0
      · subst hc0
        have hSD : (Builtin.unsafeSliceData_ #[39] 88 #[.slice (some ⟨g, 0, none⟩) 0 0]).run Tryz.prog W.drew = .ok (.pointer (some ⟨W.drew.heap.size, 0, none⟩)) (W.drew.alloc (.view ⟨g, 0, none⟩ 5)) :=
          Lib.run_unsafeSliceData_zero W.drew _ _ 5 Tryz.underlying88 ⟨g, 0, none⟩ 0 (5, cur.size) hsh
        have k2 : (W.drew.alloc (.view ⟨g, 0, none⟩ 5)).cell? ⟨R, 1, none⟩ = some (.slice (some ⟨g, 0, none⟩) 0 0) :=
          (((Chg.refl NoS W.drew).alloc _).cell (p := ⟨R, 1, none⟩) (cell_lt c1) (fun h => h)).trans c1
        have c3 : (W.alloc (.view ⟨g, 0, none⟩ 5)).drew.cell? ⟨R, 1, none⟩ = some (.slice (some ⟨g, 0, none⟩) 0 0) := k2
        have c0 : W.cell? ⟨R, 1, none⟩ = some (.slice (some ⟨g, 0, none⟩) 0 0) := c1
        have HRE := keepf (hre.call ((Chg.refl NoS W.drew).alloc (.view ⟨g, 0, none⟩ 5)))
        clear hre hne hown h hm hsh hgd hg hgR htake hcs hcm hnc
        go_enter Tryz.func27, Tryz.ntmps27
        go_wp2
        go_region_o
        all_goals (go_wp2; go_ret; exact ⟨rfl, HRE.out⟩)
      · have hSD : (Builtin.unsafeSliceData_ #[39] 88 #[.slice (some ⟨g, 0, none⟩) 0 c2]).run Tryz.prog W.drew = .ok (.pointer (some ⟨g, 0, none⟩)) W.drew :=
          Lib.run_unsafeSliceData_row _ _ _ _ _ _ hc0
        have HRE := keepf hre
        clear hre hne hown h hm hsh hgd hg hgR htake hcs hcm hnc hc0
        go_enter Tryz.func27, Tryz.ntmps27
        go_wp2
        go_region_o
        all_goals (go_wp2; go_ret; exact ⟨rfl, HRE.out⟩)
    · have hSD : (Builtin.unsafeSliceData_ #[39] 88 #[.slice (some ⟨g, 0, none⟩) m c2]).run Tryz.prog W.drew = .ok (.pointer (some ⟨g, 0, none⟩)) W.drew :=
        Lib.run_unsafeSliceData_row _ _ _ _ _ _ (by omega)
      have hml : (out.map UInt8.ofNat).length = m := by rw [List.length_map, hm]
      have hUS : (Builtin.unsafeString_ #[88, 3] 9 #[.pointer (some ⟨g, 0, none⟩), .int .i64 (m : Nat)]).run Tryz.prog W.drew = .ok (.string (sb out)) (W.drew.freeze ⟨g, 0, none⟩ m) := by
        have hu := Lib.run_unsafeString_row (P := Tryz.prog) W.drew 88 3 9 5 Tryz.underlying88 byte_cells g cur.size hsh (out.map UInt8.ofNat) (fun e => h0 (by rw [← hml, e]; rfl)) (by rw [hml]; omega) (by rw [hml]; unfold maxLen at hcm; omega) (fun j x hx => by
          rw [List.getElem?_map] at hx
          cases hj : out[j]? with
          | none => rw [hj] at hx; cases hx
          | some y =>
            rw [hj] at hx
            simp only [Option.map_some, Option.some.injEq] at hx
            subst hx
            have hy := hb y (List.mem_of_getElem? hj)
            have := hown.cells (g := g) rfl j _ (lcells_at hj)
            have e : ((UInt8.ofNat y).toNat : Nat) = y := by simp; omega
            rw [e]
            exact this)
        rw [hml] at hu
        exact hu
      have HRE := keepf (show RE V w (W.drew.freeze ⟨g, 0, none⟩ m) R p from ⟨(freeze_cell hgR m).trans hre.cell, hre.chg.freeze hbg m, hre.kb.freeze hgd m⟩)
      obtain ⟨s, hs⟩ : ∃ s, sb out = s := ⟨_, rfl⟩
      rw [hs] at hUS ⊢
      clear hre hne hown h hm hsh hgd hg hgR htake hcs hcm hnc hml hs
      go_enter Tryz.func27, Tryz.ntmps27
      go_wp2
      go_region_o
      all_goals (go_wp2; go_ret; exact ⟨rfl, HRE.out⟩)

end Go.Proofs.YtcehpobjnbgpdaaGreatDoor

/- A form's builder of bytes, embedded in a block of its own: what it holds, and its methods copyCheck, WriteByte, WriteString, String at the address of that block. -/
namespace Go.Proofs.YtcehpobjnbgpdaaGreatDoor
open Go.RowKit
set_option linter.unusedVariables false
set_option linter.unusedSimpArgs false

def fcl (q : Value) (A2 : Option Addr) (n2 c2 : Nat) : Array Value := #[q, .slice A2 n2 c2]

/-- But R, and rows of bytes that bear no mark, no block has changed. -/
def KF (R : Nat) (V W : World) : Prop := ∀ g o, g ≠ R → (∀ cs, o ≠ .cells cs 5 (0, 0)) → V.heap[g]? = some o → W.heap[g]? = some o

theorem KF.refl (R : Nat) (V : World) : KF R V V := fun _ _ _ _ h => h

theorem KF.trans {R : Nat} {V W X : World} (h : KF R V W) (k : KF R W X) : KF R V X := fun g o a b c => k g o a b (h g o a b c)

theorem KF.chg {R : Nat} {V W : World} (h : Chg NoS V W) : KF R V W := fun g o _ _ c => (h.block g (Array.getElem?_eq_some_iff.1 c).1 (fun h => h)).trans c

theorem KF.set {R : Nat} {V W : World} (h : KF R V W) (i : Nat) (u : Value) : KF R V (W.setCell ⟨R, i, none⟩ u) := fun g o a b c => (Below.heap_setCell W ⟨R, i, none⟩ u g a).trans (h g o a b c)

theorem KF.grown {R : Nat} {V W W' : World} {base : Nat} {v : Value} {m : Nat} {xs : List Value} (h : KF R V W) (ho : W.ownsRow base 5 1 v m xs) (hg : W.grownBy W' v.ownBlock) : KF R V W' := fun g o a b c => by
  have h1 := h g o a b c
  refine (hg.block g (Array.getElem?_eq_some_iff.1 h1).1 fun e => ?_).trans h1
  rcases ho.2 with ⟨rfl, _⟩ | ⟨k, cap, cur, rfl, _, hk, _⟩
  · cases e
  · have e2 : g = k := Option.some.inj e
    subst e2
    rw [hk] at h1
    exact b cur (Option.some.inj h1).symm

/-- The builder in the block R has put together the bytes out; nothing that was there in w has changed. -/
structure FBx (V w W : World) (R : Nat) (out : List Nat) (q : Value) (A2 : Option Addr) (c2 : Nat) : Prop where
  blk : Blk W R 52 (fcl q A2 out.length c2)
  used : q = .pointer none ∨ q = .pointer (some ⟨R, 0, none⟩)
  own : W.ownsRow w.heap.size 5 1 (.slice A2 out.length c2) out.length (lcells out)
  chg : Chg NoS w W
  new : w.heap.size ≤ R
  kf : KF R V W

def FB (V w W : World) (R : Nat) (out : List Nat) : Prop := ∃ q A2 c2, FBx V w W R out q A2 c2

section
variable {V w W W' : World} {A2 : Option Addr} {R c2 : Nat} {out : List Nat} {q : Value}
theorem FBx.cells (h : FBx V w W R out q A2 c2) : W.cell? ⟨R, 0, none⟩ = some q ∧ W.cell? ⟨R, 1, none⟩ = some (.slice A2 out.length c2) := by
  refine ⟨?_, ?_⟩ <;> (rw [h.blk.cell]; rfl)
theorem FBx.frozen (h : FBx V w W R out q A2 c2) (i : Nat) : W.frozen? ⟨R, i, none⟩ = false := h.blk.frozen i
theorem FBx.shape (h : FBx V w W R out q A2 c2) : W.shape? R = some (52, 2) := by
  have h' : W.heap[R]? = some (.cells (fcl q A2 out.length c2) 52 (0, 0)) := h.blk
  simp [World.shape?, h', fcl]
theorem FBx.neq (h : FBx V w W R out q A2 c2) : (Value.slice A2 out.length c2).ownBlock ≠ some R := own_ne_blk h.own h.blk (by decide)
theorem FBx.use (h : FBx V w W R out q A2 c2) : FBx V w (W.setCell ⟨R, 0, none⟩ (.pointer (some ⟨R, 0, none⟩))) R out (.pointer (some ⟨R, 0, none⟩)) A2 c2 :=
  ⟨h.blk.set_ 0 _, .inr rfl, own_kept h.own h.neq, h.chg.setCell (p := ⟨R, 0, none⟩) (fun e => absurd e (Nat.not_lt.2 h.new)) _, h.new, h.kf.set _ _⟩
theorem FBx.call (h : FBx V w W R out q A2 c2) (hc : Chg NoS W W') : FBx V w W' R out q A2 c2 :=
  ⟨h.blk.chg hc (fun h => h), h.used, own_chg (S := NoS) h.own hc (fun _ _ e => e), h.chg.trans hc (fun _ _ e => e), h.new, h.kf.trans (KF.chg hc)⟩
theorem FBx.drew (h : FBx V w W R out q A2 c2) : FBx V w W.drew R out q A2 c2 := h.call ((Chg.refl _ _).drew)
theorem FBx.alloc (h : FBx V w W R out q A2 c2) (o : Obj) : FBx V w (W.alloc o) R out q A2 c2 := h.call ((Chg.refl _ _).alloc o)
theorem FBx.grow {A3 : Option Addr} {c3 : Nat} {out' : List Nat} (h : FBx V w W R out q A2 c2) (hg : W.grownBy W' (Value.slice A2 out.length c2).ownBlock)
    (ho : W'.ownsRow w.heap.size 5 1 (.slice A3 out'.length c3) out'.length (lcells out')) : FBx V w (W'.setCell ⟨R, 1, none⟩ (.slice A3 out'.length c3)) R out' q A3 c3 := by
  have hb : Blk W' R 52 (fcl q A2 out.length c2) := h.blk.grown hg h.neq.symm
  have hne : (Value.slice A3 out'.length c3).ownBlock ≠ some R := own_ne_blk ho hb (by decide)
  refine ⟨hb.set_ 1 _, h.used, own_kept ho hne, ?_, h.new, (h.kf.grown h.own hg).set _ _⟩
  exact (h.chg.grown hg (fun k hk e => absurd e (Nat.not_lt.2 (h.own.lt k hk).1))).setCell (p := ⟨R, 1, none⟩) (fun e => absurd e (Nat.not_lt.2 h.new)) _
theorem FBx.at_cells (h : FBx V w W R out q A2 c2) (hg : W.grownBy W' (Value.slice A2 out.length c2).ownBlock) : W'.cell? ⟨R, 0, none⟩ = some q ∧ W'.cell? ⟨R, 1, none⟩ = some (.slice A2 out.length c2) ∧ W'.frozen? ⟨R, 1, none⟩ = false := by
  have hb : Blk W' R 52 (fcl q A2 out.length c2) := h.blk.grown hg h.neq.symm
  exact ⟨by rw [hb.cell]; rfl, by rw [hb.cell]; rfl, hb.frozen 1⟩
theorem FBx.fb (h : FBx V w W R out q A2 c2) : FB V w W R out := ⟨_, _, _, h⟩
theorem FB.chg (h : FB V w W R out) : Chg NoS w W := by
  obtain ⟨_, _, _, h⟩ := h
  exact h.chg
theorem FB.new (h : FB V w W R out) : w.heap.size ≤ R := by
  obtain ⟨_, _, _, h⟩ := h
  exact h.new
theorem FB.call (h : FB V w W R out) (hc : Chg NoS W W') : FB V w W' R out := by
  obtain ⟨_, _, _, h⟩ := h
  exact ⟨_, _, _, h.call hc⟩
theorem FB.drew (h : FB V w W R out) : FB V w W.drew R out := h.call ((Chg.refl _ _).drew)
theorem FB.drewN (h : FB V w W R out) (k : Nat) : FB V w (W.drewN k) R out := h.call ((Chg.refl _ _).drewN k)
theorem FB.alloc (h : FB V w W R out) (o : Obj) : FB V w (W.alloc o) R out := h.call ((Chg.refl _ _).alloc o)
theorem FB.lt (h : FB V w W R out) : R < W.heap.size := by
  obtain ⟨_, _, _, h⟩ := h
  exact h.blk.lt
theorem FB.kf (h : FB V w W R out) : KF R V W := by
  obtain ⟨_, _, _, h⟩ := h
  exact h.kf
theorem FB.base {V' : World} (h : FB V w W R out) (k : KF R V' W) : FB V' w W R out := by
  obtain ⟨_, _, _, h⟩ := h
  exact ⟨_, _, _, h.blk, h.used, h.own, h.chg, h.new, k⟩
/-- From the world as it is on. -/
theorem FB.here (h : FB V w W R out) : FB W w W R out := h.base (KF.refl _ _)
/-- A builder that has just been made. -/
theorem FB.start (w W : World) (hc : Chg NoS w W) : FB w w (W.alloc (.cells #[.pointer none, .slice none 0 0] 52)) W.heap.size [] :=
  ⟨.pointer none, none, 0, Blk.new W _ _, .inl rfl, own_nil _ _ _ _, hc.alloc _, hc.size, KF.chg (hc.alloc _)⟩
end

theorem fbd_lies : liesAt Tryz.prog Tryz.prog.depth 52 (2 / Tryz.prog.cellsOf 52) 0 50 1 = true := by kernel_rfl

set_option maxHeartbeats 1000000 in
set_option maxRecDepth 100000 in
theorem fcopyC_any {V w W : World} {A2 : Option Addr} {R c2 : Nat} {out : List Nat} {q : Value} (h : FBx V w W R out q A2 c2) :
    Calls Tryz.prog 83 #[.pointer (some ⟨R, 0, none⟩)] W fun e W' => e = .returned (.tuple #[]) ∧ FBx V w W' R out (.pointer (some ⟨R, 0, none⟩)) A2 c2 := by
  obtain ⟨j, hj, hjs⟩ := Option.map_eq_some_iff.1 bld_size
  rcases h.used with rfl | rfl
  · have h0 := h.cells.1
    have hf := h.frozen 0
    have hsh := h.shape
    have HU := keepf h.use
    have g1 : (convert 48 133 (.pointer (some ⟨R, 0, none⟩))).run Tryz.prog W = .ok (.pointer (some ⟨R, 0, none⟩)) W :=
      Lib.run_to_unsafe W ⟨R, 0, none⟩ Tryz.underlying48 Tryz.underlying133 hj (by rw [hjs]; decide) hsh (Nat.zero_lt_succ 1)
    have g2 : (convert 133 48 (.pointer (some ⟨R, 0, none⟩))).run Tryz.prog W = .ok (.pointer (some ⟨R, 0, none⟩)) W :=
      Lib.run_from_unsafe W ⟨R, 0, none⟩ Tryz.underlying133 Tryz.underlying48 hj hsh fbd_lies
    clear h
    go_enter Tryz.func83, Tryz.ntmps83
    go_wp2
    rw [run_callFunc_extern func_noEscape (by kernel_rfl) (by kernel_rfl) (by kernel_rfl) (e := Extern.AbiNoEscape.same) (by kernel_rfl)]
    rw [Lib.run_noEscape]
    simp only [Result.andThen]
    rw [Oper.upon_value]
    go_wp2
    go_end0
    exact ⟨rfl, HU.out⟩
  · have h0 := h.cells.1
    have HU := keepf h
    clear h
    go_enter Tryz.func83, Tryz.ntmps83
    go_wp2
    rw [Lib.run_neq_ptr_same W _ Tryz.underlying48 hj]
    go_wp2
    go_end0
    exact ⟨rfl, HU.out⟩

set_option maxHeartbeats 2000000 in
set_option maxRecDepth 100000 in
/-- A byte is put to it. -/
theorem fpwbyte_any {V w W : World} {R : Nat} {out : List Nat} (h : FB V w W R out) (x : Nat) (hl : out.length ≤ 1000000) :
    Calls Tryz.prog 86 #[.pointer (some ⟨R, 0, none⟩), .int .u8 (x : Nat)] W fun e W' => e = .returned .nilIface ∧ FB V w W' R (out ++ [x]) := by
  obtain ⟨q, A2, c2, h⟩ := h
  obtain ⟨i0, hi, hz0, hz1, hz2⟩ := info_partsL info_byL
  have HC := keepf (fcopyC_any h)
  clear h
  go_enter Tryz.func86, Tryz.ntmps86
  go_wp2_with (go_at_call 83; refine HC.out.mono ?_)
  rintro e w1 ⟨rfl, h1⟩
  have c0 := h1.cells.1
  have c1 := h1.cells.2
  have hs := h1.chg.size
  have hown := h1.own
  have HR := keepf h1
  clear h1
  go_wp2_with (at_builtin; refine wpList_append_own _ rfl _ _ 39 rfl w.heap.size 5 i0 (.int .u8 0) 1 1 Tryz.underlying39 hi hz0 hz1 hz2 rfl (by decide) _ _ _ rfl (hown.alloc _) ⟨w1.heap.size, 0, none⟩ 1 1 [.int .u8 (x : Nat)] rfl rfl ?c1 ?c2 ?c3 ?c4 ?c5 ?_)
  case c1 =>
    intro j u hj
    match j, hj with
    | 0, hj => simp at hj; subst hj; simp [Addr.add]
  case c2 => intro u hu; simp at hu; subst hu; rfl
  case c3 => unfold maxLen; omega
  case c4 => omega
  case c5 => simp; omega
  intro v' w2 hown' hgrow _
  have h2 := (HR.out.alloc (.cells #[.int .u8 (x : Nat)] 5)).at_cells hgrow
  obtain ⟨d0, d1, f1⟩ := h2
  obtain ⟨A3, c3, rfl, _⟩ := own_slice hown'
  have hl1 : (out ++ [x]).length = out.length + 1 := by simp
  have HF := keepf ((HR.out.alloc (.cells #[.int .u8 (x : Nat)] 5)).grow (out' := out ++ [x]) (A3 := A3) (c3 := c3) hgrow (by rw [hl1, lcells_app]; exact hown'))
  rw [hl1] at HF
  clear hown hown' hgrow hl1
  go_wp2
  go_ret
  exact ⟨rfl, HF.out.fb⟩

set_option maxHeartbeats 2000000 in
set_option maxRecDepth 100000 in
/-- A string is put to it. -/
theorem fpwstr_any {V w W : World} {R : Nat} {out : List Nat} (h : FB V w W R out) (l : List Nat) (hb : ∀ d ∈ l, d < 256) (hl : out.length ≤ 1000000) (hl2 : l.length ≤ 1000000) :
    Calls Tryz.prog 48 #[.pointer (some ⟨R, 0, none⟩), .string (sb l)] W fun e W' => e = .returned (.tuple #[.int .i64 (l.length : Nat), .nilIface]) ∧ FB V w W' R (out ++ l) := by
  obtain ⟨q, A2, c2, h⟩ := h
  obtain ⟨i0, hi, hz0, hz1, hz2⟩ := info_partsL info_byL
  have HC := keepf (fcopyC_any h)
  have hsz := sb_size l
  have HS := keepf (strCells_sb l hb)
  obtain ⟨s, hs⟩ : ∃ s, sb l = s := ⟨_, rfl⟩
  rw [hs] at hsz HS ⊢
  obtain ⟨m, hm⟩ : ∃ m, l.length = m := ⟨_, rfl⟩
  have hm2 : (out ++ l).length = out.length + m := by rw [List.length_append, hm]
  rw [hm] at hsz hl2 ⊢
  clear h hs hb
  go_enter Tryz.func48, Tryz.ntmps48
  go_wp2_with (go_at_call 83; refine HC.out.mono ?_)
  rintro e w1 ⟨rfl, h1⟩
  have c0 := h1.cells.1
  have c1 := h1.cells.2
  have hs := h1.chg.size
  have hown := h1.own
  have HR := keepf h1
  clear h1
  go_wp2_with (at_builtin; refine Lib.wpList_append_own_string _ rfl _ _ 39 9 rfl w.heap.size 5 i0 Tryz.underlying39 Tryz.underlying9 hi hz0 hz1 hz2 _ _ _ rfl hown s rfl ?c3 ?c4 ?c5 ?_)
  case c3 => unfold maxLen; omega
  case c4 => omega
  case c5 => omega
  intro v' w2 hown' hgrow _
  have h2 := HR.out.at_cells hgrow
  obtain ⟨d0, d1, f1⟩ := h2
  (try rw [hsz] at hown')
  rw [HS.out, ← lcells_app] at hown'
  obtain ⟨A3, c3, rfl, _⟩ := own_slice hown'
  have HF := keepf (HR.out.grow (out' := out ++ l) (A3 := A3) (c3 := c3) hgrow (by rw [hm2]; exact hown'))
  rw [hm2] at HF
  clear hown hown' hgrow hm2 hm HS
  go_wp2
  go_ret2
  exact ⟨rfl, HF.out.fb⟩

set_option maxHeartbeats 2000000 in
set_option maxRecDepth 100000 in
/-- What it has put together. -/
theorem fpstring_any {V w W : World} {R : Nat} {out : List Nat} (h : FB V w W R out) (hb : ∀ d ∈ out, d < 256) (hl : out.length ≤ 1000000) :
    Calls Tryz.prog 27 #[.pointer (some ⟨R, 0, none⟩)] W fun e W' => e = .returned (.string (sb out)) ∧ Chg NoS w W' := by
  obtain ⟨q, A2, c2, h⟩ := h
  have mixed : Tryz.prog.follows Departure.mixedOrders = true := by kernel_rfl
  have hre := h.chg.drew
  have c1 := h.drew.cells.2
  have hown := h.own
  have hne := h.neq
  have hnew := h.new
  obtain ⟨m, hm⟩ : ∃ m, out.length = m := ⟨_, rfl⟩
  rw [hm] at c1 hown hne hl
  rcases hown.2 with ⟨hv, h0⟩ | ⟨g, cap, cur, hv, hbg, hg, hnc, hcm, hcs, htake⟩
  · simp only [Value.slice.injEq] at hv
    obtain ⟨rfl, h0', rfl⟩ := hv
    subst h0'
    obtain rfl : out = [] := List.eq_nil_of_length_eq_zero hm
    have hUS : ∀ W2, (Builtin.unsafeString_ #[88, 3] 9 #[.pointer none, .int .i64 0]).run Tryz.prog W2 = .ok (.string .empty) W2 := fun W2 => Lib.run_unsafeString_none W2 _ _ _ none
    have hSD : (Builtin.unsafeSliceData_ #[39] 88 #[.slice none 0 0]).run Tryz.prog W.drew = .ok (.pointer none) W.drew := rfl
    have HRE := keepf hre
    clear hre hne hown h hm
    go_enter Tryz.func27, Tryz.ntmps27
    go_wp2
    go_region_o
    all_goals (go_wp2; go_ret; exact ⟨rfl, HRE.out⟩)
  · simp only [Value.slice.injEq] at hv
    obtain ⟨rfl, _, rfl⟩ := hv
    have hgR : R ≠ g := fun e => hne (by rw [e]; rfl)
    have hgd : W.drew.heap[g]? = some (.cells cur 5 (0, 0)) := hg
    have hsh : W.drew.shape? g = some (5, cur.size) := by simp [World.shape?, hgd]
    by_cases h0 : m = 0
    · subst h0
      obtain rfl : out = [] := List.eq_nil_of_length_eq_zero hm
      have hUS : ∀ W2 q, (Builtin.unsafeString_ #[88, 3] 9 #[.pointer q, .int .i64 0]).run Tryz.prog W2 = .ok (.string .empty) W2 := fun W2 q => Lib.run_unsafeString_none W2 _ _ _ q
      by_cases hc0 : c2 = 0
      · subst hc0
        have hSD : (Builtin.unsafeSliceData_ #[39] 88 #[.slice (some ⟨g, 0, none⟩) 0 0]).run Tryz.prog W.drew = .ok (.pointer (some ⟨W.drew.heap.size, 0, none⟩)) (W.drew.alloc (.view ⟨g, 0, none⟩ 5)) :=
          Lib.run_unsafeSliceData_zero W.drew _ _ 5 Tryz.underlying88 ⟨g, 0, none⟩ 0 (5, cur.size) hsh
        have k2 : (W.drew.alloc (.view ⟨g, 0, none⟩ 5)).cell? ⟨R, 1, none⟩ = some (.slice (some ⟨g, 0, none⟩) 0 0) :=
          (((Chg.refl NoS W.drew).alloc _).cell (p := ⟨R, 1, none⟩) (cell_lt c1) (fun h => h)).trans c1
        have c3 : (W.alloc (.view ⟨g, 0, none⟩ 5)).drew.cell? ⟨R, 1, none⟩ = some (.slice (some ⟨g, 0, none⟩) 0 0) := k2
        have c0 : W.cell? ⟨R, 1, none⟩ = some (.slice (some ⟨g, 0, none⟩) 0 0) := c1
        have HRE := keepf (hre.alloc (.view ⟨g, 0, none⟩ 5))
        clear hre hne hown h hm hsh hgd hg hgR htake hcs hcm hnc
        go_enter Tryz.func27, Tryz.ntmps27
        go_wp2
        go_region_o
        all_goals (go_wp2; go_ret; exact ⟨rfl, HRE.out⟩)
      · have hSD : (Builtin.unsafeSliceData_ #[39] 88 #[.slice (some ⟨g, 0, none⟩) 0 c2]).run Tryz.prog W.drew = .ok (.pointer (some ⟨g, 0, none⟩)) W.drew :=
          Lib.run_unsafeSliceData_row _ _ _ _ _ _ hc0
        have HRE := keepf hre
        clear hre hne hown h hm hsh hgd hg hgR htake hcs hcm hnc hc0
        go_enter Tryz.func27, Tryz.ntmps27
        go_wp2
        go_region_o
        all_goals (go_wp2; go_ret; exact ⟨rfl, HRE.out⟩)
    · have hSD : (Builtin.unsafeSliceData_ #[39] 88 #[.slice (some ⟨g, 0, none⟩) m c2]).run Tryz.prog W.drew = .ok (.pointer (some ⟨g, 0, none⟩)) W.drew :=
        Lib.run_unsafeSliceData_row _ _ _ _ _ _ (by omega)
      have hml : (out.map UInt8.ofNat).length = m := by rw [List.length_map, hm]
      have hUS : (Builtin.unsafeString_ #[88, 3] 9 #[.pointer (some ⟨g, 0, none⟩), .int .i64 (m : Nat)]).run Tryz.prog W.drew = .ok (.string (sb out)) (W.drew.freeze ⟨g, 0, none⟩ m) := by
        have hu := Lib.run_unsafeString_row (P := Tryz.prog) W.drew 88 3 9 5 Tryz.underlying88 byte_cells g cur.size hsh (out.map UInt8.ofNat) (fun e => h0 (by rw [← hml, e]; rfl)) (by rw [hml]; omega) (by rw [hml]; unfold maxLen at hcm; omega) (fun j x hx => by
          rw [List.getElem?_map] at hx
          cases hj : out[j]? with
          | none => rw [hj] at hx; cases hx
          | some y =>
            rw [hj] at hx
            simp only [Option.map_some, Option.some.injEq] at hx
            subst hx
            have hy := hb y (List.mem_of_getElem? hj)
            have := hown.cells (g := g) rfl j _ (lcells_at hj)
            have e : ((UInt8.ofNat y).toNat : Nat) = y := by simp; omega
            rw [e]
            exact this)
        rw [hml] at hu
        exact hu
      have HRE := keepf (hre.freeze hbg m)
      obtain ⟨s, hs⟩ : ∃ s, sb out = s := ⟨_, rfl⟩
      rw [hs] at hUS ⊢
      clear hre hne hown h hm hsh hgd hg hgR htake hcs hcm hnc hml hs
      go_enter Tryz.func27, Tryz.ntmps27
      go_wp2
      go_region_o
      all_goals (go_wp2; go_ret; exact ⟨rfl, HRE.out⟩)

end Go.Proofs.YtcehpobjnbgpdaaGreatDoor

/- Bytes read as a string; a value's four cells. -/
namespace Go.Proofs.YtcehpobjnbgpdaaGreatDoor
open Go.RowKit
set_option linter.unusedVariables false
set_option linter.unusedSimpArgs false

theorem strOfNums_sb (bs : List Nat) : strOfNums (bs.map fun b : Nat => (b : Int)) = sb bs := by
  unfold strOfNums sb
  rw [List.map_map]
  congr 2

theorem conv_l {w : World} {A : Option Addr} {n c : Nat} {bs : List Nat} (h : Src w 1 A n c (lcells bs)) :
    (convert 39 9 (.slice A n c)).run Tryz.prog w = .ok (.string (sb bs)) w := by
  have hlen : bs.length = n := by
    have := h.1
    simpa [lcells] using this
  rw [← strOfNums_sb]
  rcases Nat.eq_zero_or_pos n with h0 | h0
  · subst h0
    have hb : bs = [] := List.eq_nil_of_length_eq_zero hlen
    subst hb
    rcases A with _ | a
    · have := (h.2.1 rfl).2
      subst this
      exact run_convert_bytes_nil w 39 5 Tryz.underlying39 Tryz.underlying5 _ _ 9 Tryz.underlying9
    · have hl : (loadCells a 0).run Tryz.prog w = .ok #[] w := by simpa using run_loadCells_list (P := Tryz.prog) w a [] (fun j v hj => by simp at hj)
      rw [run_convert_bytes_string w 39 9 5 _ 0 c Tryz.underlying39 Tryz.underlying5 Tryz.underlying9]
      simp [Conv.bytesToString, hl, Result.andThen]
      rfl
  · obtain ⟨b, off, rfl, hcell⟩ := h.plain (by rw [lcells_len]; omega)
    refine run_convert_bytes_arg w 39 5 Tryz.underlying39 Tryz.underlying5 b off n c (bs.map fun b : Nat => (b : Int)) (by simpa using hlen) (fun i hi => ?_) 9 Tryz.underlying9
    have hc := hcell i (.int .u8 (bs.getD i 0 : Nat)) (lcells_at (by rw [List.getD_eq_getElem?_getD, List.getElem?_eq_getElem (by omega)]; rfl))
    rw [hc]
    simp [hlen, hi]

/-- A block of four cells that is stored over whole. -/
theorem Blk.four {w : World} {g : Nat} {t : TypeId} {x0 x1 x2 x3 : Value} (h : Blk w g t #[x0, x1, x2, x3]) (a b c d : Value) : Blk ((((w.setCell ⟨g, 0, none⟩ a).setCell ⟨g, 1, none⟩ b).setCell ⟨g, 2, none⟩ c).setCell ⟨g, 3, none⟩ d) g t #[a, b, c, d] := by
  have h1 : Blk (w.setCell ⟨g, 0, none⟩ a) g t #[a, x1, x2, x3] := by simpa using h.set_ 0 a
  have h2 : Blk ((w.setCell ⟨g, 0, none⟩ a).setCell ⟨g, 1, none⟩ b) g t #[a, b, x2, x3] := by simpa using h1.set_ 1 b
  have h3 : Blk (((w.setCell ⟨g, 0, none⟩ a).setCell ⟨g, 1, none⟩ b).setCell ⟨g, 2, none⟩ c) g t #[a, b, c, x3] := by simpa using h2.set_ 2 c
  simpa using h3.set_ 3 d

theorem Chg.four {w W : World} {g : Nat} (h : Chg NoS w W) (hg : w.heap.size ≤ g) (a b c d : Value) : Chg NoS w ((((W.setCell ⟨g, 0, none⟩ a).setCell ⟨g, 1, none⟩ b).setCell ⟨g, 2, none⟩ c).setCell ⟨g, 3, none⟩ d) :=
  (((h.setCell (p := ⟨g, 0, none⟩) (fun e => absurd e (Nat.not_lt.2 hg)) a).setCell (p := ⟨g, 1, none⟩) (fun e => absurd e (Nat.not_lt.2 hg)) b).setCell (p := ⟨g, 2, none⟩) (fun e => absurd e (Nat.not_lt.2 hg)) c).setCell (p := ⟨g, 3, none⟩) (fun e => absurd e (Nat.not_lt.2 hg)) d

end Go.Proofs.YtcehpobjnbgpdaaGreatDoor

/- Tokens: what each first byte leads to; a token's eight cells. -/
namespace Go.Proofs.YtcehpobjnbgpdaaGreatDoor
open Go.RowKit
set_option linter.unusedVariables false
set_option linter.unusedSimpArgs false

/-- A token as a value, of whatever package. -/
def tknV (t : Tkn) : Value := .agg #[.int .i64 (t.kind : Nat), .int .i64 (t.from_ : Nat), .int .i64 (t.to : Nat), .int .i64 (t.vk : Nat), .int .i64 t.vn, .string (sb t.vs), .slice none 0 0, .string (sb t.s)]

/-- Behind Next: the error, and the token. -/
def NxTo (w : World) (r : Int × Tkn) (e : Ending) (w' : World) : Prop := e = .returned (.tuple #[tknV r.2, .int .i64 r.1]) ∧ Chg NoS w w'

def nextA (bs : List Nat) (p : Int) (last : Bool) : Int × Tkn := if p < 0 ∨ (bs.length : Int) < p then (2, noT 0) else nextO bs p.toNat last

section
variable {last : Bool} {p x : Nat} {l : List Nat}
theorem tok_91 : tokO last p 91 l = (0, ⟨2, p, p + 1, 0, 0, [], []⟩) := rfl
theorem tok_93 : tokO last p 93 l = (0, ⟨3, p, p + 1, 0, 0, [], []⟩) := rfl
theorem tok_6060 (h : l.head? = some 60) : tokO last p 60 l = (0, ⟨4, p, p + 2, 0, 0, [], []⟩) := by
  unfold tokO
  rw [if_neg (show ¬ 60 = 91 by decide), if_neg (show ¬ 60 = 93 by decide), if_pos (show 60 = 60 ∧ l.head? = some 60 from ⟨rfl, h⟩)]
theorem tok_6262 (h : l.head? = some 62) : tokO last p 62 l = (0, ⟨5, p, p + 2, 0, 0, [], []⟩) := by
  unfold tokO
  rw [if_neg (show ¬ 62 = 91 by decide), if_neg (show ¬ 62 = 93 by decide), if_neg (show ¬ (62 = 60 ∧ l.head? = some 60) from fun e => absurd e.1 (by decide)), if_pos (show 62 = 62 ∧ l.head? = some 62 from ⟨rfl, h⟩)]
theorem tok_62m (h : l = []) (h2 : last = false) : tokO last p 62 l = (6, noT p) := by
  subst h h2
  rfl
theorem tok_62f (h : ¬ l.head? = some 62) (h2 : ¬ (l = [] ∧ last = false)) : tokO last p 62 l = (11, noT p) := by
  unfold tokO
  rw [if_neg (show ¬ 62 = 91 by decide), if_neg (show ¬ 62 = 93 by decide), if_neg (show ¬ (62 = 60 ∧ l.head? = some 60) from fun e => absurd e.1 (by decide)), if_neg (show ¬ (62 = 62 ∧ l.head? = some 62) from fun e => h e.2), if_neg (show ¬ (62 = 62 ∧ l = [] ∧ last = false) from fun e => h2 e.2), if_neg (show ¬ 62 = 60 by decide), if_neg (show ¬ 62 = 40 by decide), if_neg (show ¬ 62 = 47 by decide), if_pos (show isDl 62 = true from rfl)]
theorem tok_40 : tokO last p 40 l = if (txtO last 1 [] (p + 1) l).1 ≠ 0 then ((txtO last 1 [] (p + 1) l).1, noT p) else (0, ⟨1, p, (txtO last 1 [] (p + 1) l).2.2, 4, 0, (txtO last 1 [] (p + 1) l).2.1, []⟩) := by
  unfold tokO
  rw [if_neg (show ¬ 40 = 91 by decide), if_neg (show ¬ 40 = 93 by decide), if_neg (show ¬ (40 = 60 ∧ l.head? = some 60) from fun e => absurd e.1 (by decide)), if_neg (show ¬ (40 = 62 ∧ l.head? = some 62) from fun e => absurd e.1 (by decide)), if_neg (show ¬ (40 = 62 ∧ l = [] ∧ last = false) from fun e => absurd e.1 (by decide)), if_neg (show ¬ 40 = 60 by decide), if_pos (show 40 = 40 from rfl)]
theorem tok_47 : tokO last p 47 l = if rgs l = l.length ∧ last = false then (6, noT p) else if (nameO (l.take (rgs l))).1 ≠ 0 then ((nameO (l.take (rgs l))).1, noT p) else (0, ⟨1, p, p + 1 + rgs l, 5, 0, (nameO (l.take (rgs l))).2, []⟩) := by
  unfold tokO
  rw [if_neg (show ¬ 47 = 91 by decide), if_neg (show ¬ 47 = 93 by decide), if_neg (show ¬ (47 = 60 ∧ l.head? = some 60) from fun e => absurd e.1 (by decide)), if_neg (show ¬ (47 = 62 ∧ l.head? = some 62) from fun e => absurd e.1 (by decide)), if_neg (show ¬ (47 = 62 ∧ l = [] ∧ last = false) from fun e => absurd e.1 (by decide)), if_neg (show ¬ 47 = 60 by decide), if_neg (show ¬ 47 = 40 by decide), if_pos (show 47 = 47 from rfl)]
theorem tok_rest (h1 : x ≠ 91) (h2 : x ≠ 93) (h3 : x ≠ 60) (h4 : x ≠ 62) (h5 : x ≠ 40) (h6 : x ≠ 47) : tokO last p x l =
    if isDl x then (11, noT p)
    else if rgs l = l.length ∧ last = false then (6, noT p)
    else if isNm x then
      if (numOf ((x :: l).take (rgs l + 1))).1 ≠ 0 then ((numOf ((x :: l).take (rgs l + 1))).1, noT p) else (0, ⟨1, p, p + 1 + rgs l, (numOf ((x :: l).take (rgs l + 1))).2.1, (numOf ((x :: l).take (rgs l + 1))).2.2, [], []⟩)
    else (0, ⟨6, p, p + 1 + rgs l, 0, 0, [], (x :: l).take (rgs l + 1)⟩) := by
  unfold tokO
  rw [if_neg h1, if_neg h2, if_neg (fun e => h3 e.1), if_neg (fun e => h4 e.1), if_neg (fun e => h4 e.1), if_neg h3, if_neg h5, if_neg h6]
end

/-- A block of eight cells that is stored over whole. -/
def set8 (w : World) (g : Nat) (a0 a1 a2 a3 a4 a5 a6 a7 : Value) : World :=
  (((((((w.setCell ⟨g, 0, none⟩ a0).setCell ⟨g, 1, none⟩ a1).setCell ⟨g, 2, none⟩ a2).setCell ⟨g, 3, none⟩ a3).setCell ⟨g, 4, none⟩ a4).setCell ⟨g, 5, none⟩ a5).setCell ⟨g, 6, none⟩ a6).setCell ⟨g, 7, none⟩ a7

theorem Blk.eight {w : World} {g : Nat} {t : TypeId} {x0 x1 x2 x3 x4 x5 x6 x7 : Value} (h : Blk w g t #[x0, x1, x2, x3, x4, x5, x6, x7]) (a0 a1 a2 a3 a4 a5 a6 a7 : Value) : Blk (set8 w g a0 a1 a2 a3 a4 a5 a6 a7) g t #[a0, a1, a2, a3, a4, a5, a6, a7] := by
  have h1 := h.set_ 0 a0
  have h2 := h1.set_ 1 a1
  have h3 := h2.set_ 2 a2
  have h4 := h3.set_ 3 a3
  have h5 := h4.set_ 4 a4
  have h6 := h5.set_ 5 a5
  have h7 := h6.set_ 6 a6
  have h8 := h7.set_ 7 a7
  unfold set8
  simpa using h8

theorem Blk.eight_far {w : World} {g g2 : Nat} {t : TypeId} {cs : Array Value} (h : Blk w g t cs) (hne : g ≠ g2) (a0 a1 a2 a3 a4 a5 a6 a7 : Value) : Blk (set8 w g2 a0 a1 a2 a3 a4 a5 a6 a7) g t cs := by
  unfold set8
  exact (((((((h.far (p := ⟨g2, 0, none⟩) hne a0).far (p := ⟨g2, 1, none⟩) hne a1).far (p := ⟨g2, 2, none⟩) hne a2).far (p := ⟨g2, 3, none⟩) hne a3).far (p := ⟨g2, 4, none⟩) hne a4).far (p := ⟨g2, 5, none⟩) hne a5).far (p := ⟨g2, 6, none⟩) hne a6).far (p := ⟨g2, 7, none⟩) hne a7

theorem Chg.eight {w W : World} {g : Nat} (h : Chg NoS w W) (hg : w.heap.size ≤ g) (a0 a1 a2 a3 a4 a5 a6 a7 : Value) : Chg NoS w (set8 W g a0 a1 a2 a3 a4 a5 a6 a7) := by
  have hn : ∀ i, (⟨g, i, none⟩ : Addr).block < w.heap.size → NoS (⟨g, i, none⟩ : Addr).block := fun i e => absurd e (Nat.not_lt.2 hg)
  unfold set8
  exact (((((((h.setCell (hn 0) a0).setCell (hn 1) a1).setCell (hn 2) a2).setCell (hn 3) a3).setCell (hn 4) a4).setCell (hn 5) a5).setCell (hn 6) a6).setCell (hn 7) a7

end Go.Proofs.YtcehpobjnbgpdaaGreatDoor

/- Values (api.Value) as trees: how they lie in memory, and that what comes in is one. -/
namespace Go.Proofs.YtcehpobjnbgpdaaGreatDoor
open Go.RowKit Go.Deep Go.ChangeShapes Go.WideShapes
set_option linter.unusedVariables false

/-- A value: its kind, its number, its text, and those in it. -/
inductive VT
  | mk (k n : Int) (s : ByteArray) (l : List VT)

/-- A value's four cells. -/
structure VC where
  k : Int
  n : Int
  s : ByteArray
  A : Option Addr
  len : Nat
  cap : Nat
deriving Inhabited

def VC.cells (c : VC) : List Value := [.int .i64 c.k, .int .i64 c.n, .string c.s, .slice c.A c.len c.cap]

def VC.val (c : VC) : Value := .agg #[.int .i64 c.k, .int .i64 c.n, .string c.s, .slice c.A c.len c.cap]

/-- What a value's own numbers and lengths may be. -/
structure VC.Good (c : VC) : Prop where
  k : -9223372036854775808 ≤ c.k ∧ c.k ≤ 9223372036854775807
  n : -9223372036854775808 ≤ c.n ∧ c.n ≤ 9223372036854775807
  s : c.s.size ≤ maxLen
  nil : c.A = none → c.len = 0 ∧ c.cap = 0
  cap : c.len ≤ c.cap
  len : c.len ≤ maxLen

mutual
/-- The tree t lies at the cells c. -/
inductive ValIs (w : World) : VT → VC → Prop
  | mk (c : VC) (l : List VT) (hg : c.Good) (hl : l.length = c.len) (hr : RowIs w c.A 0 l) : ValIs w (.mk c.k c.n c.s l) c
/-- The trees l lie behind one another from the place j of a row on. -/
inductive RowIs (w : World) : Option Addr → Nat → List VT → Prop
  | nil (A : Option Addr) (j : Nat) : RowIs w A j []
  | cons (ad : Addr) (j : Nat) (t : VT) (l : List VT) (e : VC) (hcell : ∀ i, i < 4 → w.cell? (ad.add (j * 4 + i)) = e.cells[i]?) (h : ValIs w t e) (hr : RowIs w (some ad) (j + 1) l) : RowIs w (some ad) j (t :: l)
end

theorem ValIs.good {w : World} {t : VT} {c : VC} (h : ValIs w t c) : c.Good := by cases h with | mk c l hg hl hr => exact hg

theorem ValIs.inv {w : World} {k n : Int} {s : ByteArray} {l : List VT} {c : VC} (h : ValIs w (.mk k n s l) c) : c.k = k ∧ c.n = n ∧ c.s = s ∧ c.Good ∧ l.length = c.len ∧ RowIs w c.A 0 l := by
  cases h with | mk c l hg hl hr => exact ⟨rfl, rfl, rfl, hg, hl, hr⟩

theorem RowIs.inv {w : World} {A : Option Addr} {j : Nat} {t : VT} {l : List VT} (h : RowIs w A j (t :: l)) : ∃ ad e, A = some ad ∧ (∀ i, i < 4 → w.cell? (ad.add (j * 4 + i)) = e.cells[i]?) ∧ ValIs w t e ∧ RowIs w A (j + 1) l := by
  cases h with | cons ad j t l e hcell h hr => exact ⟨ad, e, rfl, hcell, h, hr⟩

mutual
theorem ValIs.chg {w w' : World} (hc : Chg NoS w w') : ∀ {t : VT} {c : VC}, ValIs w t c → ValIs w' t c
  | _, _, .mk c l hg hl hr => .mk c l hg hl (RowIs.chg hc hr)
theorem RowIs.chg {w w' : World} (hc : Chg NoS w w') : ∀ {A : Option Addr} {j : Nat} {l : List VT}, RowIs w A j l → RowIs w' A j l
  | _, _, _, .nil A j => .nil A j
  | _, _, _, .cons ad j t l e hcell h hr => .cons ad j t l e (fun i hi => by
      have h0 := hcell i hi
      have hlt : ∃ u, e.cells[i]? = some u := ⟨_, List.getElem?_eq_getElem (show i < e.cells.length from hi)⟩
      obtain ⟨u, hu⟩ := hlt
      rw [hu] at h0 ⊢
      exact (hc.cell (by exact cell_lt h0) (fun e => e)).trans h0) (ValIs.chg hc h) (RowIs.chg hc hr)
end

/-- Where a row begins that has something. -/
theorem RowIs.start {w : World} {A : Option Addr} {t : VT} {l : List VT} (h : RowIs w A 0 (t :: l)) : ∃ b off, A = some ⟨b, off, none⟩ := by
  obtain ⟨⟨b, off, sp⟩, e, rfl, hc, hv, hr⟩ := h.inv
  have h0 := hc 0 (by decide)
  have hs : sp = none := by simpa [Addr.add] using World.cell?_spot (h0.trans (show e.cells[0]? = some _ from rfl))
  exact ⟨b, off, by rw [hs]⟩

/-- An element's four cells, plain. -/
theorem RowIs.plain {w : World} {b off j : Nat} {t : VT} {l : List VT} (h : RowIs w (some ⟨b, off, none⟩) j (t :: l)) : ∃ e : VC,
    w.cell? ⟨b, off + j * 4, none⟩ = some (.int .i64 e.k) ∧ w.cell? ⟨b, off + j * 4 + 1, none⟩ = some (.int .i64 e.n) ∧ w.cell? ⟨b, off + j * 4 + 2, none⟩ = some (.string e.s) ∧ w.cell? ⟨b, off + j * 4 + 3, none⟩ = some (.slice e.A e.len e.cap) ∧ ValIs w t e ∧ RowIs w (some ⟨b, off, none⟩) (j + 1) l := by
  obtain ⟨ad, e, hA, hc, hv, hr⟩ := h.inv
  cases hA
  have hadd : ∀ i, (⟨b, off, none⟩ : Addr).add i = ⟨b, off + i, none⟩ := fun i => by unfold Addr.add; split <;> simp_all
  have h0 := hc 0 (by decide)
  have h1 := hc 1 (by decide)
  have h2 := hc 2 (by decide)
  have h3 := hc 3 (by decide)
  rw [hadd] at h0 h1 h2 h3
  exact ⟨e, h0, h1, h2, h3, hv, hr⟩

/-- A row of trees out of its elements. -/
theorem row_of {w : World} {ad : Addr} {len : Nat} (f : Nat → VC × VT) (hf : ∀ j, j < len → (∀ i, i < 4 → w.cell? (ad.add (j * 4 + i)) = (f j).1.cells[i]?) ∧ ValIs w (f j).2 (f j).1) : ∀ (m j : Nat), j + m = len → ∃ l : List VT, l.length = m ∧ RowIs w (some ad) j l := by
  intro m
  induction m with
  | zero => intro j _; exact ⟨[], rfl, .nil _ _⟩
  | succ m ih =>
    intro j hj
    obtain ⟨l, hl, hr⟩ := ih (j + 1) (by omega)
    obtain ⟨h1, h2⟩ := hf j (by omega)
    exact ⟨(f j).2 :: l, by rw [List.length_cons, hl], .cons ad j _ l _ h1 h2 hr⟩

theorem el_four {H : Type} {en : TypeId × Value → H} {P : Program} {w : World} {base fuel : Nat} {spare : Nat → Bool} {held : Bool} {e : TypeId} {cs : List Value} {y : DataW H × List MemPlace} {f0 f1 f2 f3 : Field}
    (he : P.underlying e = some (.struct #[f0, f1, f2, f3])) (hone : oneCellFields P #[f0, f1, f2, f3] = true) (hC : P.cellsOf e = 4) (h : DataW.trod en P w base spare held fuel e cs = some y) :
    ∃ u v x z m y0 y1 y2 y3, fuel = m + 1 ∧ cs = [u, v, x, z] ∧ DataW.trod en P w base spare held m f0.type [u] = some y0 ∧ DataW.trod en P w base spare held m f1.type [v] = some y1 ∧ DataW.trod en P w base spare held m f2.type [x] = some y2 ∧ DataW.trod en P w base spare held m f3.type [z] = some y3 := by
  obtain ⟨xs, m, rfl, _, hl, hx, hf⟩ := DataW.trod_struct he h
  rw [hC] at hl
  obtain ⟨o0, c0⟩ := hone_of hone 0 f0 rfl
  obtain ⟨o1, c1⟩ := hone_of hone 1 f1 rfl
  obtain ⟨o2, c2⟩ := hone_of hone 2 f2 rfl
  obtain ⟨o3, c3⟩ := hone_of hone 3 f3 rfl
  have h0 := hf 0 f0 rfl
  have h1 := hf 1 f1 rfl
  have h2 := hf 2 f2 rfl
  have h3 := hf 3 f3 rfl
  rw [o0, c0] at h0
  rw [o1, c1] at h1
  rw [o2, c2] at h2
  rw [o3, c3] at h3
  match cs, hl with
  | [u, v, x, z], _ =>
    simp at hx
    rw [List.getElem?_eq_getElem (by omega)] at h0 h1 h2 h3
    exact ⟨u, v, x, z, m, _, _, _, _, rfl, rfl, by simpa using h0, by simpa using h1, by simpa using h2, by simpa using h3⟩

set_option maxHeartbeats 1000000 in
/-- What comes in as a value is a tree. -/
theorem vt_el {H : Type} {en : TypeId × Value → H} {w : World} {base : Nat} {spare : Nat → Bool} {held : Bool} : ∀ (fuel : Nat) (cs : List Value) (y : DataW H × List MemPlace), DataW.trod en Tryz.prog w base spare held fuel 24 cs = some y → ∃ (c : VC) (t : VT), cs = c.cells ∧ ValIs w t c := by
  intro fuel
  induction fuel using Nat.strongRecOn with
  | _ fuel ih =>
    intro cs y h
    obtain ⟨u, v, x, z, m, y0, y1, y2, y3, rfl, rfl, h0, h1, h2, h3⟩ := el_four Tryz.underlying24 (by kernel_rfl) (by kernel_rfl) h
    obtain ⟨z0, e0, g0⟩ := el_int Tryz.underlying3 h0
    obtain ⟨z1, e1, g1⟩ := el_int Tryz.underlying3 h1
    obtain ⟨s, e2, _, g2⟩ := DataW.trod_string Tryz.underlying9 h2
    simp only [List.cons.injEq, and_true] at e0 e1 e2
    subst e0 e1 e2
    rcases DataW.trod_slice Tryz.underlying22 h3 with ⟨e3, _⟩ | ⟨a, len, cap, elems, rest, n, rfl, e3, _, hb, hl, hm, hlen, hel, _, _⟩
    · simp only [List.cons.injEq, and_true] at e3
      subst e3
      exact ⟨⟨z0, z1, s, none, 0, 0⟩, _, rfl, .mk ⟨z0, z1, s, none, 0, 0⟩ [] ⟨bounds_i64 g0, bounds_i64 g1, g2, fun _ => ⟨rfl, rfl⟩, Nat.le_refl _, Nat.zero_le _⟩ rfl (.nil _ _)⟩
    · simp only [List.cons.injEq, and_true] at e3
      subst e3
      have hex : ∀ j, j < len → ∃ p : VC × VT, (∀ i, i < 4 → w.cell? (a.add (j * 4 + i)) = p.1.cells[i]?) ∧ ValIs w p.2 p.1 := by
        intro j hj
        have h4 := hel j hj
        rw [List.getElem?_eq_getElem (by omega)] at h4
        obtain ⟨cs', hcs', ht'⟩ := Option.bind_eq_some_iff.1 h4
        rw [show Tryz.prog.cellsOf 24 = 4 from by kernel_rfl] at hcs'
        obtain ⟨_, hcl, hat⟩ := World.cells?_some hcs'
        obtain ⟨c, t, rfl, hv⟩ := ih n (by omega) cs' _ ht'
        exact ⟨(c, t), fun i hi => by rw [← Go.Deep.add_add]; exact hat i hi, hv⟩
      haveI : Inhabited VT := ⟨.mk 0 0 ⟨#[]⟩ []⟩
      obtain ⟨f, hf⟩ := choose_lt hex
      obtain ⟨l, hll, hr⟩ := row_of f hf len 0 (by omega)
      exact ⟨⟨z0, z1, s, some a, len, cap⟩, _, rfl, .mk ⟨z0, z1, s, some a, len, cap⟩ l ⟨bounds_i64 g0, bounds_i64 g1, g2, fun e => (by cases e), hl, Nat.le_trans hl hm⟩ hll hr⟩

set_option maxRecDepth 100000 in
/-- A value that comes in as an argument. -/
theorem open_vt {H : Type} {enc : TypeId × Value → H} {w : World} {base b0 : Nat} {spare : Nat → Bool} {held : Bool} {r : Reach} {v : Value} {d : DataW H} {p : List MemPlace} (hv : Value.okWide Tryz.prog w r b0 24 v)
    (h : DataW.Trod enc Tryz.prog w base spare held 24 v d p) : ∃ (c : VC) (t : VT), v = c.val ∧ ValIs w t c := by
  obtain ⟨cs, rfl, hsz⟩ := okWide_struct Tryz.underlying24 hv
  obtain ⟨fuel, hf⟩ := h
  obtain ⟨c, t, hc, hv⟩ := vt_el fuel _ _ hf
  refine ⟨c, t, ?_, hv⟩
  unfold VC.val
  unfold VC.cells at hc
  simp only [Value.cells] at hc
  congr 1
  exact Array.ext' hc

end Go.Proofs.YtcehpobjnbgpdaaGreatDoor

/- Values as trees: plain mathematics (depth, how many there are, order). -/
namespace Go.Proofs.YtcehpobjnbgpdaaGreatDoor
set_option linter.unusedVariables false

mutual
/-- How many values there are, in one another. -/
def sizT : VT → Nat
  | .mk _ _ _ l => sizL l + 1
def sizL : List VT → Nat
  | [] => 0
  | t :: l => sizT t + sizL l
end

mutual
def depthT : VT → Nat
  | .mk k _ _ l => if k = 6 ∨ k = 7 then depthL 1 l else 1
def depthL : Nat → List VT → Nat
  | a, [] => a
  | a, t :: l => depthL (if a < depthT t + 1 then depthT t + 1 else a) l
end

mutual
/-- How many are left of so many; below 0: there are more. -/
def fewT : VT → Int → Int
  | .mk _ _ _ l, left => fewL l (left - 1)
def fewL : List VT → Int → Int
  | [], left => left
  | t :: l, left => if 0 ≤ left then fewL l (fewT t left) else left
end

theorem sizT_mk (k n : Int) (s : ByteArray) (l : List VT) : sizT (.mk k n s l) = sizL l + 1 := by rw [sizT]

theorem sizL_cons (t : VT) (l : List VT) : sizL (t :: l) = sizT t + sizL l := by rw [sizL]

theorem sizL_drop : ∀ (l : List VT) (j : Nat), sizL (l.drop j) ≤ sizL l := by
  intro l
  induction l with
  | nil => intro j; simp
  | cons t l ih =>
    intro j
    cases j with
    | zero => exact Nat.le_refl _
    | succ j => rw [List.drop_succ_cons, sizL_cons]; have := ih j; omega

theorem sizL_at {l : List VT} {j : Nat} {t : VT} (h : l[j]? = some t) : sizT t ≤ sizL l := by
  induction l generalizing j with
  | nil => simp at h
  | cons x l ih =>
    rw [sizL_cons]
    cases j with
    | zero => simp at h; subst h; omega
    | succ j => have := ih (by simpa using h); omega

theorem fewL_cons (t : VT) (l : List VT) (left : Int) : fewL (t :: l) left = if 0 ≤ left then fewL l (fewT t left) else left := by rw [fewL]

theorem fewL_neg (l : List VT) {left : Int} (h : ¬ 0 ≤ left) : fewL l left = left := by
  cases l with
  | nil => rw [fewL]
  | cons t l => rw [fewL_cons, if_neg h]

theorem depthL_cons (a : Nat) (t : VT) (l : List VT) : depthL a (t :: l) = depthL (if a < depthT t + 1 then depthT t + 1 else a) l := by rw [depthL]

mutual
theorem fewT_le : ∀ (t : VT) (left : Int), fewT t left ≤ left - 1
  | .mk _ _ _ l, left => by rw [fewT]; exact fewL_le l (left - 1)
theorem fewL_le : ∀ (l : List VT) (left : Int), fewL l left ≤ left
  | [], left => by rw [fewL]; exact Int.le_refl _
  | t :: l, left => by
    rw [fewL_cons]
    split
    · have := fewT_le t left
      have := fewL_le l (fewT t left)
      omega
    · exact Int.le_refl _
end

mutual
theorem fewT_ge : ∀ (t : VT) (left : Int), -1 ≤ left → -2 ≤ fewT t left ∧ (0 ≤ left → -1 ≤ fewT t left)
  | .mk _ _ _ l, left => fun h => by
    rw [fewT]
    by_cases h0 : 0 ≤ left
    · have := fewL_ge l (left - 1) (by omega); omega
    · rw [fewL_neg l (by omega)]; omega
theorem fewL_ge : ∀ (l : List VT) (left : Int), -1 ≤ left → -1 ≤ fewL l left
  | [], left => fun h => by rw [fewL]; exact h
  | t :: l, left => fun h => by
    rw [fewL_cons]
    split
    · next h0 => exact fewL_ge l (fewT t left) ((fewT_ge t left h).2 h0)
    · exact h
end

mutual
theorem depthT_le : ∀ (t : VT), 1 ≤ depthT t ∧ depthT t ≤ sizT t
  | .mk k _ _ l => by
    rw [depthT, sizT_mk]
    split
    · exact depthL_le l 1 (Nat.le_refl _)
    · omega
theorem depthL_le : ∀ (l : List VT) (a : Nat), 1 ≤ a → a ≤ depthL a l ∧ depthL a l ≤ sizL l + a
  | [], a => fun h => by rw [depthL]; omega
  | t :: l, a => fun h => by
    have h1 := depthT_le t
    rw [depthL_cons, sizL_cons]
    split
    · have h2 := depthL_le l (depthT t + 1) (by omega); omega
    · have h2 := depthL_le l a h; omega
end

end Go.Proofs.YtcehpobjnbgpdaaGreatDoor

