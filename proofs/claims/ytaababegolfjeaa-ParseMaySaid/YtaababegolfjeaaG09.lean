/- Merged by program: Bldr PLx2 POct Scopes RLx2 RLx3 PTxt. -/
import Derived.Test.YtaababegolfjeaaG01
import Derived.Test.YtaababegolfjeaaG08
import Derived.Shelf.RegionOpenPlain
import Derived.Lib.AppendStr
import Derived.Lib.Walk
import Derived.WalkMore
import Derived.Laws.Externs
import Derived.Deep.QuietTactic
import Derived.ScopeJumps
import Derived.OwnWalk
import Derived.Deep.Cut
/- The builder of bytes that is embedded in the reader: copyCheck, WriteByte, WriteString, Len, String, at the address of the reader's own block. -/
namespace Go.Proofs.Ytaababegolfjeaa
open Go.RowKit
set_option linter.unusedVariables false
set_option linter.unusedSimpArgs false

theorem bld_size : (Try.prog.info? 56).map (·.size) = some 2 := by kernel_rfl

theorem bld_lies : liesAt Try.prog Try.prog.depth 58 (5 / Try.prog.cellsOf 58) 0 56 1 = true := by kernel_rfl

theorem byte_cells : Try.prog.cellsOf 5 = 1 := by kernel_rfl

theorem func_noEscape : Try.prog.funcs[(75 : Nat)]? = some Try.f75 := by kernel_rfl

set_option maxHeartbeats 1000000 in
set_option maxRecDepth 100000 in
theorem copyC_any {V w W : World} {A A2 : Option Addr} {n c R p c2 : Nat} {last : Bool} {out : List Nat} {q : Value} (h : RDx V w W A n c last R p out q A2 c2) :
    Calls Try.prog 63 #[.pointer (some ⟨R, 0, none⟩)] W fun e W' => e = .returned (.tuple #[]) ∧ RDx V w W' A n c last R p out (.pointer (some ⟨R, 0, none⟩)) A2 c2 := by
  obtain ⟨j, hj, hjs⟩ := Option.map_eq_some_iff.1 bld_size
  rcases h.used with rfl | rfl
  · have h0 := h.cells.1
    have hf := h.frozen 0
    have hsh := h.shape
    have HU := keepf h.use
    have g1 : (convert 54 103 (.pointer (some ⟨R, 0, none⟩))).run Try.prog W = .ok (.pointer (some ⟨R, 0, none⟩)) W :=
      Lib.run_to_unsafe W ⟨R, 0, none⟩ Try.underlying54 Try.underlying103 hj (by rw [hjs]; decide) hsh (Nat.zero_lt_succ 4)
    have g2 : (convert 103 54 (.pointer (some ⟨R, 0, none⟩))).run Try.prog W = .ok (.pointer (some ⟨R, 0, none⟩)) W :=
      Lib.run_from_unsafe W ⟨R, 0, none⟩ Try.underlying103 Try.underlying54 hj hsh bld_lies
    clear h
    go_enter Try.func63, Try.ntmps63
    go_wp2
    rw [run_callFunc_extern func_noEscape (by kernel_rfl) (by kernel_rfl) (by kernel_rfl) (e := Extern.AbiNoEscape.same) (by kernel_rfl)]
    rw [Lib.run_noEscape]
    simp only [Result.andThen]
    rw [Oper.upon_value]
    go_wp2
    go_end0
    exact ⟨rfl, HU.out⟩
  · have h0 := h.cells.1
    have HU := keepf h
    clear h
    go_enter Try.func63, Try.ntmps63
    go_wp2
    rw [Lib.run_neq_ptr_same W _ Try.underlying54 hj]
    go_wp2
    go_end0
    exact ⟨rfl, HU.out⟩

set_option maxHeartbeats 2000000 in
set_option maxRecDepth 100000 in
/-- A byte is put to it. -/
theorem pwbyte_any {V w W : World} {A : Option Addr} {n c R p : Nat} {last : Bool} {out : List Nat} (h : RD V w W A n c last R p out) (x : Nat) (hl : out.length ≤ 1000000) :
    Calls Try.prog 47 #[.pointer (some ⟨R, 0, none⟩), .int .u8 (x : Nat)] W fun e W' => e = .returned .nilIface ∧ RD V w W' A n c last R p (out ++ [x]) := by
  obtain ⟨q, A2, c2, h⟩ := h
  obtain ⟨i0, hi, hz0, hz1, hz2⟩ := info_partsL info_byL
  have HC := keepf (copyC_any h)
  clear h
  go_enter Try.func47, Try.ntmps47
  go_wp2_with (go_at_call 63; refine HC.out.mono ?_)
  rintro e w1 ⟨rfl, h1⟩
  have c0 := h1.cells.1
  have c1 := h1.cells.2.1
  have hs := h1.chg.size
  have hown := h1.own
  have HR := keepf h1
  clear h1
  go_wp2_with (at_builtin; refine wpList_append_own _ rfl _ _ 22 rfl w.heap.size 5 i0 (.int .u8 0) 1 1 Try.underlying22 hi hz0 hz1 hz2 rfl (by decide) _ _ _ rfl (hown.alloc _) ⟨w1.heap.size, 0, none⟩ 1 1 [.int .u8 (x : Nat)] rfl rfl ?c1 ?c2 ?c3 ?c4 ?c5 ?_)
  case c1 =>
    intro j u hj
    match j, hj with
    | 0, hj => simp at hj; subst hj; simp [Addr.add]
  case c2 => intro u hu; simp at hu; subst hu; rfl
  case c3 => unfold maxLen; omega
  case c4 => omega
  case c5 => simp; omega
  intro v' w2 hown' hgrow _
  have h2 := (HR.out.alloc (.cells #[.int .u8 (x : Nat)] 5)).at_cells hgrow
  obtain ⟨d0, d1, f1⟩ := h2
  obtain ⟨A3, c3, rfl, _⟩ := own_slice hown'
  have hl1 : (out ++ [x]).length = out.length + 1 := by simp
  have HF := keepf ((HR.out.alloc (.cells #[.int .u8 (x : Nat)] 5)).grow (out' := out ++ [x]) (A3 := A3) (c3 := c3) hgrow (by rw [hl1, lcells_app]; exact hown'))
  rw [hl1] at HF
  clear hown hown' hgrow hl1
  go_wp2
  go_ret
  exact ⟨rfl, HF.out.rd⟩

theorem strCells_sb (l : List Nat) (h : ∀ d ∈ l, d < 256) : Lib.strCells (sb l) = lcells l := by
  unfold Lib.strCells sb lcells
  rw [List.map_map]
  refine List.map_congr_left fun d hd => ?_
  have := h d hd
  simp
  omega

set_option maxHeartbeats 2000000 in
set_option maxRecDepth 100000 in
/-- A string is put to it. -/
theorem pwstr_any {V w W : World} {A : Option Addr} {n c R p : Nat} {last : Bool} {out : List Nat} (h : RD V w W A n c last R p out) (l : List Nat) (hb : ∀ d ∈ l, d < 256) (hl : out.length ≤ 1000000) (hl2 : l.length ≤ 1000000) :
    Calls Try.prog 53 #[.pointer (some ⟨R, 0, none⟩), .string (sb l)] W fun e W' => e = .returned (.tuple #[.int .i64 (l.length : Nat), .nilIface]) ∧ RD V w W' A n c last R p (out ++ l) := by
  obtain ⟨q, A2, c2, h⟩ := h
  obtain ⟨i0, hi, hz0, hz1, hz2⟩ := info_partsL info_byL
  have HC := keepf (copyC_any h)
  have hsz := sb_size l
  have HS := keepf (strCells_sb l hb)
  obtain ⟨s, hs⟩ : ∃ s, sb l = s := ⟨_, rfl⟩
  rw [hs] at hsz HS ⊢
  obtain ⟨m, hm⟩ : ∃ m, l.length = m := ⟨_, rfl⟩
  have hm2 : (out ++ l).length = out.length + m := by rw [List.length_append, hm]
  rw [hm] at hsz hl2 ⊢
  clear h hs hb
  go_enter Try.func53, Try.ntmps53
  go_wp2_with (go_at_call 63; refine HC.out.mono ?_)
  rintro e w1 ⟨rfl, h1⟩
  have c0 := h1.cells.1
  have c1 := h1.cells.2.1
  have hs := h1.chg.size
  have hown := h1.own
  have HR := keepf h1
  clear h1
  go_wp2_with (at_builtin; refine Lib.wpList_append_own_string _ rfl _ _ 22 9 rfl w.heap.size 5 i0 Try.underlying22 Try.underlying9 hi hz0 hz1 hz2 _ _ _ rfl hown s rfl ?c3 ?c4 ?c5 ?_)
  case c3 => unfold maxLen; omega
  case c4 => omega
  case c5 => omega
  intro v' w2 hown' hgrow _
  have h2 := HR.out.at_cells hgrow
  obtain ⟨d0, d1, f1⟩ := h2
  (try rw [hsz] at hown')
  rw [HS.out, ← lcells_app] at hown'
  obtain ⟨A3, c3, rfl, _⟩ := own_slice hown'
  have HF := keepf (HR.out.grow (out' := out ++ l) (A3 := A3) (c3 := c3) hgrow (by rw [hm2]; exact hown'))
  rw [hm2] at HF
  clear hown hown' hgrow hm2 hm HS
  go_wp2
  go_ret2
  exact ⟨rfl, HF.out.rd⟩

set_option maxHeartbeats 1000000 in
set_option maxRecDepth 100000 in
/-- How many bytes it has put together. -/
theorem plen_any {V w W : World} {A : Option Addr} {n c R p : Nat} {last : Bool} {out : List Nat} (h : RD V w W A n c last R p out) :
    Calls Try.prog 55 #[.pointer (some ⟨R, 0, none⟩)] W fun e W' => e = .returned (.int .i64 (out.length : Nat)) ∧ W = W' := by
  obtain ⟨q, A2, c2, h⟩ := h
  have c1 := h.cells.2.1
  clear h
  go_enter Try.func55, Try.ntmps55
  go_wp2
  go_ret
  exact ⟨rfl, rfl⟩

set_option maxHeartbeats 2000000 in
set_option maxRecDepth 100000 in
/-- What it has put together. -/
theorem pstring_any {V w W : World} {A : Option Addr} {n c R p : Nat} {last : Bool} {out : List Nat} (h : RD V w W A n c last R p out) (hb : ∀ d ∈ out, d < 256) (hl : out.length ≤ 1000000) :
    Calls Try.prog 62 #[.pointer (some ⟨R, 0, none⟩)] W fun e W' => e = .returned (.string (sb out)) ∧ RE V w W' R p := by
  obtain ⟨q, A2, c2, h⟩ := h
  have mixed : Try.prog.follows Departure.mixedOrders = true := by kernel_rfl
  have hre := h.rd.re.call ((Chg.refl NoS W).drew)
  have c1 := h.drew.cells.2.1
  have hown := h.own
  have hne := h.neq
  have hnew := h.new
  obtain ⟨m, hm⟩ : ∃ m, out.length = m := ⟨_, rfl⟩
  rw [hm] at c1 hown hne hl
  rcases hown.2 with ⟨hv, h0⟩ | ⟨g, cap, cur, hv, hbg, hg, hnc, hcm, hcs, htake⟩
  · simp only [Value.slice.injEq] at hv
    obtain ⟨rfl, h0', rfl⟩ := hv
    subst h0'
    obtain rfl : out = [] := List.eq_nil_of_length_eq_zero hm
    have hUS : ∀ W2, (Builtin.unsafeString_ #[102, 3] 9 #[.pointer none, .int .i64 0]).run Try.prog W2 = .ok (.string .empty) W2 := fun W2 => Lib.run_unsafeString_none W2 _ _ _ none
    have hSD : (Builtin.unsafeSliceData_ #[22] 102 #[.slice none 0 0]).run Try.prog W.drew = .ok (.pointer none) W.drew := rfl
    have HRE := keepf hre
    clear hre hne hown h hm
    go_enter Try.func62, Try.ntmps62
    go_wp2
    go_region_o
    all_goals (go_wp2; go_ret; exact ⟨rfl, HRE.out⟩)
  · simp only [Value.slice.injEq] at hv
    obtain ⟨rfl, _, rfl⟩ := hv
    have hgR : R ≠ g := fun e => hne (by rw [e]; rfl)
    have hgd : W.drew.heap[g]? = some (.cells cur 5 (0, 0)) := hg
    have hsh : W.drew.shape? g = some (5, cur.size) := by simp [World.shape?, hgd]
    by_cases h0 : m = 0
    · subst h0
      obtain rfl : out = [] := List.eq_nil_of_length_eq_zero hm
      have hUS : ∀ W2 q, (Builtin.unsafeString_ #[102, 3] 9 #[.pointer q, .int .i64 0]).run Try.prog W2 = .ok (.string .empty) W2 := fun W2 q => Lib.run_unsafeString_none W2 _ _ _ q
      by_cases hc0 : c2 = 0
      · subst hc0
        have hSD : (Builtin.unsafeSliceData_ #[22] 102 #[.slice (some ⟨g, 0, none⟩) 0 0]).run Try.prog W.drew = .ok (.pointer (some ⟨W.drew.heap.size, 0, none⟩)) (W.drew.alloc (.view ⟨g, 0, none⟩ 5)) :=
          Lib.run_unsafeSliceData_zero W.drew _ _ 5 Try.underlying102 ⟨g, 0, none⟩ 0 (5, cur.size) hsh
        have k2 : (W.drew.alloc (.view ⟨g, 0, none⟩ 5)).cell? ⟨R, 1, none⟩ = some (.slice (some ⟨g, 0, none⟩) 0 0) :=
          (((Chg.refl NoS W.drew).alloc _).cell (p := ⟨R, 1, none⟩) (cell_lt c1) (fun h => h)).trans c1
        have c3 : (W.alloc (.view ⟨g, 0, none⟩ 5)).drew.cell? ⟨R, 1, none⟩ = some (.slice (some ⟨g, 0, none⟩) 0 0) := k2
        have c0 : W.cell? ⟨R, 1, none⟩ = some (.slice (some ⟨g, 0, none⟩) 0 0) := c1
        have HRE := keepf (hre.call ((Chg.refl NoS W.drew).alloc (.view ⟨g, 0, none⟩ 5)))
        clear hre hne hown h hm hsh hgd hg hgR htake hcs hcm hnc
        go_enter Try.func62, Try.ntmps62
        go_wp2
        go_region_o
        all_goals (go_wp2; go_ret; exact ⟨rfl, HRE.out⟩)
      · have hSD : (Builtin.unsafeSliceData_ #[22] 102 #[.slice (some ⟨g, 0, none⟩) 0 c2]).run Try.prog W.drew = .ok (.pointer (some ⟨g, 0, none⟩)) W.drew :=
          Lib.run_unsafeSliceData_row _ _ _ _ _ _ hc0
        have HRE := keepf hre
        clear hre hne hown h hm hsh hgd hg hgR htake hcs hcm hnc hc0
        go_enter Try.func62, Try.ntmps62
        go_wp2
        go_region_o
        all_goals (go_wp2; go_ret; exact ⟨rfl, HRE.out⟩)
    · have hSD : (Builtin.unsafeSliceData_ #[22] 102 #[.slice (some ⟨g, 0, none⟩) m c2]).run Try.prog W.drew = .ok (.pointer (some ⟨g, 0, none⟩)) W.drew :=
        Lib.run_unsafeSliceData_row _ _ _ _ _ _ (by omega)
      have hml : (out.map UInt8.ofNat).length = m := by rw [List.length_map, hm]
      have hUS : (Builtin.unsafeString_ #[102, 3] 9 #[.pointer (some ⟨g, 0, none⟩), .int .i64 (m : Nat)]).run Try.prog W.drew = .ok (.string (sb out)) (W.drew.freeze ⟨g, 0, none⟩ m) := by
        have hu := Lib.run_unsafeString_row (P := Try.prog) W.drew 102 3 9 5 Try.underlying102 byte_cells g cur.size hsh (out.map UInt8.ofNat) (fun e => h0 (by rw [← hml, e]; rfl)) (by rw [hml]; omega) (by rw [hml]; unfold maxLen at hcm; omega) (fun j x hx => by
          rw [List.getElem?_map] at hx
          cases hj : out[j]? with
          | none => rw [hj] at hx; cases hx
          | some y =>
            rw [hj] at hx
            simp only [Option.map_some, Option.some.injEq] at hx
            subst hx
            have hy := hb y (List.mem_of_getElem? hj)
            have := hown.cells (g := g) rfl j _ (lcells_at hj)
            have e : ((UInt8.ofNat y).toNat : Nat) = y := by simp; omega
            rw [e]
            exact this)
        rw [hml] at hu
        exact hu
      have HRE := keepf (show RE V w (W.drew.freeze ⟨g, 0, none⟩ m) R p from ⟨(freeze_cell hgR m).trans hre.cell, hre.chg.freeze hbg m, hre.kb.freeze hgd m⟩)
      obtain ⟨s, hs⟩ : ∃ s, sb out = s := ⟨_, rfl⟩
      rw [hs] at hUS ⊢
      clear hre hne hown h hm hsh hgd hg hgR htake hcs hcm hnc hml hs
      go_enter Try.func62, Try.ntmps62
      go_wp2
      go_region_o
      all_goals (go_wp2; go_ret; exact ⟨rfl, HRE.out⟩)

end Go.Proofs.Ytaababegolfjeaa

/- The reader's small steps: a byte is taken, or passed; what is told at the end; a number to the base 8. -/
namespace Go.Proofs.Ytaababegolfjeaa
open Go.RowKit
set_option linter.unusedVariables false
set_option linter.unusedSimpArgs false

set_option maxHeartbeats 1000000 in
/-- No byte is left. -/
theorem ptake_end {V w W : World} {A : Option Addr} {n c R : Nat} {last : Bool} {out : List Nat} (h : RD V w W A n c last R n out) :
    Calls Try.prog 31 #[.pointer (some ⟨R, 0, none⟩)] W fun e W' => e = .returned (.tuple #[.int .u8 0, .bool false]) ∧ RD V w W' A n c last R n out := by
  obtain ⟨c2, c3, c4, f3⟩ := h.cells
  have H := keepf h
  clear h
  go_enter Try.func31, Try.ntmps31
  go_upto_region 1 with fail
  go_quiet (fail)
  go_wp2_with fail
  go_ret2
  exact ⟨rfl, H.out.drewN _⟩

set_option maxHeartbeats 1000000 in
theorem ptake_at {V w W : World} {A : Option Addr} {bs : List Nat} {c R p x : Nat} {last : Bool} {out : List Nat} (h : RD V w W A bs.length c last R p out) (hS : Src w 1 A bs.length c (lcells bs)) (hl : bs.length ≤ 1000000) (hc : bs.length ≤ c) (hx : bs[p]? = some x) :
    Calls Try.prog 31 #[.pointer (some ⟨R, 0, none⟩)] W fun e W' => e = .returned (.tuple #[.int .u8 (x : Nat), .bool true]) ∧ RD V w W' A bs.length c last R (p + 1) out := by
  have hp : p < bs.length := (List.getElem?_eq_some_iff.1 hx).1
  obtain ⟨c2, c3, c4, f3⟩ := h.cells
  have hR := h.new
  obtain ⟨b, off, rfl, hcell⟩ := lcell hS h.chg (by omega)
  have c0 := hcell p x hx
  have hbR : b ≠ R := by
    have h0 := (lcell hS (Chg.refl NoS w) (by omega))
    obtain ⟨b', off', e, hc'⟩ := h0
    cases e
    have := cell_lt (hc' p x hx)
    simp only at this
    omega
  have H := keepf h
  obtain ⟨n, hn⟩ : ∃ n, bs.length = n := ⟨_, rfl⟩
  rw [hn] at c2 hp hl hc H ⊢
  clear h hS hx hcell hn
  have e1 : ((p : Int) == n) = false := by simp; omega
  have e2 : (p == n) = false := by simp; omega
  have i1 : ((p : Int) + 1 - 1) = p := by omega
  have i2 : ((p : Int) + 1).toNat = p + 1 := by omega
  go_enter Try.func31, Try.ntmps31
  go_upto_region 1 with fail
  go_quiet (fail)
  go_upto_region 4 with fail
  go_quiet (fail)
  go_wp2_with fail
  go_ret2
  exact ⟨rfl, ((H.out.drewN _).at_ _).drewN _⟩

set_option maxHeartbeats 1000000 in
theorem ppass_end {V w W : World} {A : Option Addr} {n c R : Nat} {last : Bool} {out : List Nat} (h : RD V w W A n c last R n out) (y : Nat) :
    Calls Try.prog 35 #[.pointer (some ⟨R, 0, none⟩), .int .u8 (y : Nat)] W fun e W' => e = .returned (.bool false) ∧ RD V w W' A n c last R n out := by
  obtain ⟨c2, c3, c4, f3⟩ := h.cells
  have H := keepf h
  clear h
  go_enter Try.func35, Try.ntmps35
  go_upto_region 1 with fail
  go_quiet (fail)
  go_wp2_with fail
  go_ret
  exact ⟨rfl, H.out.drewN _⟩

set_option maxHeartbeats 1000000 in
theorem ppass_no {V w W : World} {A : Option Addr} {bs : List Nat} {c R p x : Nat} {last : Bool} {out : List Nat} (h : RD V w W A bs.length c last R p out) (hS : Src w 1 A bs.length c (lcells bs)) (hl : bs.length ≤ 1000000) (hc : bs.length ≤ c) (hx : bs[p]? = some x) (y : Nat) (hy : x ≠ y) :
    Calls Try.prog 35 #[.pointer (some ⟨R, 0, none⟩), .int .u8 (y : Nat)] W fun e W' => e = .returned (.bool false) ∧ RD V w W' A bs.length c last R p out := by
  have hp : p < bs.length := (List.getElem?_eq_some_iff.1 hx).1
  obtain ⟨c2, c3, c4, f3⟩ := h.cells
  have hR := h.new
  obtain ⟨b, off, rfl, hcell⟩ := lcell hS h.chg (by omega)
  have c0 := hcell p x hx
  have hbR : b ≠ R := by
    have h0 := (lcell hS (Chg.refl NoS w) (by omega))
    obtain ⟨b', off', e, hc'⟩ := h0
    cases e
    have := cell_lt (hc' p x hx)
    simp only at this
    omega
  have H := keepf h
  obtain ⟨n, hn⟩ : ∃ n, bs.length = n := ⟨_, rfl⟩
  rw [hn] at c2 hp hl hc H ⊢
  clear h hS hx hcell hn
  have e1 : ((p : Int) == n) = false := by simp; omega
  have e2 : (p == n) = false := by simp; omega
  have e3 : ((x : Int) != y) = true := by simp; omega
  have e4 : (x != y) = true := by simp; omega
  go_enter Try.func35, Try.ntmps35
  go_upto_region 1 with fail
  go_quiet (fail)
  go_wp2_with fail
  go_ret
  exact ⟨rfl, H.out.drewN _⟩

set_option maxHeartbeats 1000000 in
theorem ppass_at {V w W : World} {A : Option Addr} {bs : List Nat} {c R p x : Nat} {last : Bool} {out : List Nat} (h : RD V w W A bs.length c last R p out) (hS : Src w 1 A bs.length c (lcells bs)) (hl : bs.length ≤ 1000000) (hc : bs.length ≤ c) (hx : bs[p]? = some x) :
    Calls Try.prog 35 #[.pointer (some ⟨R, 0, none⟩), .int .u8 (x : Nat)] W fun e W' => e = .returned (.bool true) ∧ RD V w W' A bs.length c last R (p + 1) out := by
  have hp : p < bs.length := (List.getElem?_eq_some_iff.1 hx).1
  obtain ⟨c2, c3, c4, f3⟩ := h.cells
  have hR := h.new
  obtain ⟨b, off, rfl, hcell⟩ := lcell hS h.chg (by omega)
  have c0 := hcell p x hx
  have hbR : b ≠ R := by
    have h0 := (lcell hS (Chg.refl NoS w) (by omega))
    obtain ⟨b', off', e, hc'⟩ := h0
    cases e
    have := cell_lt (hc' p x hx)
    simp only at this
    omega
  have H := keepf h
  obtain ⟨n, hn⟩ : ∃ n, bs.length = n := ⟨_, rfl⟩
  rw [hn] at c2 hp hl hc H ⊢
  clear h hS hx hcell hn
  have e1 : ((p : Int) == n) = false := by simp; omega
  have e2 : (p == n) = false := by simp; omega
  go_enter Try.func35, Try.ntmps35
  go_upto_region 1 with fail
  go_quiet (fail)
  go_wp2_with fail
  go_ret
  exact ⟨rfl, (H.out.drewN _).at_ _⟩

/-- What is told where a token goes up to the end. -/
theorem pcut_any {V w W : World} {A : Option Addr} {n c R p : Nat} {last : Bool} {out : List Nat} (h : RD V w W A n c last R p out) (er : Int) :
    Calls Try.prog 32 #[.pointer (some ⟨R, 0, none⟩), .int .i64 er] W fun e W' => e = .returned (.int .i64 (if last then er else 6)) ∧ W = W' := by
  obtain ⟨c2, c3, c4, f3⟩ := h.cells
  clear h
  cases last
  all_goals
    go_enter Try.func32, Try.ntmps32
    go_wp2_with fail
    go_ret
    exact ⟨rfl, rfl⟩

set_option maxHeartbeats 1000000 in
/-- What was put together, as a value of a kind. -/
theorem pbuilt_any {V w W : World} {A : Option Addr} {n c R p : Nat} {last : Bool} {out : List Nat} (h : RD V w W A n c last R p out) (hb : ∀ d ∈ out, d < 256) (hl : out.length ≤ 1000000) (k : Nat) :
    Calls Try.prog 46 #[.pointer (some ⟨R, 0, none⟩), .int .i64 (k : Nat)] W fun e W' => e = .returned (.tuple #[.agg #[.int .i64 (k : Nat), .int .i64 0, .string (sb out), .slice none 0 0], .int .i64 0]) ∧ RE V w W' R p := by
  have HST := keepf (fun (X : World) (hX : Chg NoS W X) => pstring_any (h.call hX).here hb hl)
  obtain ⟨s, hs⟩ : ∃ s, sb out = s := ⟨_, rfl⟩
  rw [hs] at HST ⊢
  have hR := h.lt
  have HKB := keepf (h.kb)
  have hwg := h.chg.size
  clear hs h hb hl
  go_enter Try.func46, Try.ntmps46
  go_upto_region 1 with fail
  have HNEW := keepf (Blk.new W 27 #[.int .i64 0, .int .i64 0, .string ⟨#[]⟩, .slice none 0 0])
  have HCH := keepf ((Chg.refl NoS W).alloc (.cells #[.int .i64 0, .int .i64 0, .string ⟨#[]⟩, .slice none 0 0] 27))
  obtain ⟨W1, hW1⟩ : ∃ W1, W1 = W.alloc (.cells #[.int .i64 0, .int .i64 0, .string ⟨#[]⟩, .slice none 0 0] 27) := ⟨_, rfl⟩
  rw [← hW1] at HNEW HCH ⊢
  clear hW1
  obtain ⟨g, hg⟩ : ∃ g, g = W.heap.size := ⟨_, rfl⟩
  rw [← hg] at HNEW ⊢
  have hgR : g ≠ R := by omega
  have HG := keepf hg
  clear hg
  go_upto_region 2 with (go_at_call 62; refine (HST.out _ HCH.out).mono ?_; rintro e w3 ⟨rfl, hre⟩; have hcl := (hre.kb _ _ _ hgR (by decide) HNEW.out).cl4; obtain ⟨r0, r1, r2, r3, z0, z1, z2, z3⟩ := hcl; have HRE := keepf hre; clear hre)
  go_wp2_with fail
  refine bodyPost_ret (v := .tuple #[.agg #[.int .i64 (k : Nat), .int .i64 0, .string s, .slice none 0 0], .int .i64 0]) (by simp [results, Try.results46, go_sem, r0, r1, r2, r3]) rfl ?_
  have h8 := HG.out
  exact ⟨rfl, ((HRE.out.back (KB.chg HCH.out)).set4 hgR (by omega) (by omega) _ _ _ _).back HKB.out⟩

end Go.Proofs.Ytaababegolfjeaa

/- The number to the base 8 of the reader. -/
namespace Go.Proofs.Ytaababegolfjeaa
open Go.RowKit
set_option linter.unusedVariables false
set_option linter.unusedSimpArgs false

theorem octs_none {k m : Nat} {l : List Nat} (h : l = [] ∨ ∃ x r, l = x :: r ∧ ¬ (48 ≤ x ∧ x ≤ 55)) : octs (k + 1) m l = (m, 0) := by
  rcases h with rfl | ⟨x, r, rfl, h⟩
  · rfl
  · rw [octs, if_neg h]

theorem octs_some {k m x : Nat} {r : List Nat} (h : 48 ≤ x ∧ x ≤ 55) : octs (k + 1) m (x :: r) = ((octs k (8 * m + (x - 48)) r).1, (octs k (8 * m + (x - 48)) r).2 + 1) := by rw [octs, if_pos h]

/-- What a digit to the base 8 does to the number's lowest eight bits. -/
theorem octs_mod : ∀ (k : Nat) (l : List Nat) (m m' : Nat), m % 256 = m' % 256 → (octs k m l).1 % 256 = (octs k m' l).1 % 256 ∧ (octs k m l).2 = (octs k m' l).2 := by
  intro k
  induction k with
  | zero => intro l m m' h; exact ⟨h, rfl⟩
  | succ k ih =>
    intro l m m' h
    cases l with
    | nil => exact ⟨h, rfl⟩
    | cons x r =>
      by_cases hx : 48 ≤ x ∧ x ≤ 55
      · rw [octs_some hx, octs_some hx]
        have := ih r (8 * m + (x - 48)) (8 * m' + (x - 48)) (by omega)
        exact ⟨this.1, by simp only []; rw [this.2]⟩
      · rw [octs_none (.inr ⟨x, r, rfl, hx⟩), octs_none (.inr ⟨x, r, rfl, hx⟩)]
        exact ⟨h, rfl⟩

/-- In the loop: so many digits were taken. -/
def OcIn (V w wr : World) (A : Option Addr) (bs : List Nat) (c : Nat) (last : Bool) (R p x : Nat) (out : List Nat) (j k z : Nat) : Prop :=
  RD V w wr A bs.length c last R k out ∧ (octs 2 x (bs.drop p)).1 % 256 = (octs (2 - j) z (bs.drop k)).1 % 256 ∧ p + (octs 2 x (bs.drop p)).2 = k + (octs (2 - j) z (bs.drop k)).2

set_option maxHeartbeats 2000000 in
set_option maxRecDepth 100000 in
theorem poctal_any {V w W : World} {A : Option Addr} {bs : List Nat} {c R p : Nat} {last : Bool} {out : List Nat} (h : RD V w W A bs.length c last R p out) (hS : Src w 1 A bs.length c (lcells bs)) (hl : bs.length ≤ 1000000) (hc : bs.length ≤ c) (hp : p ≤ bs.length) (hb : ∀ d ∈ bs, d < 256) (x : Nat) (hx : x < 8) :
    Calls Try.prog 48 #[.pointer (some ⟨R, 0, none⟩), .int .u8 (x : Nat)] W fun e W' => e = .returned (.int .u8 ((octs 2 x (bs.drop p)).1 % 256 : Nat)) ∧ RD V w W' A bs.length c last R (p + (octs 2 x (bs.drop p)).2) out := by
  have HR := h.new
  have HO := keepf (show OcIn V w W A bs c last R p x out 0 p x from ⟨h, rfl, rfl⟩)
  have HCELL := keepf (fun (X : World) (hX : Chg NoS w X) (hn : 0 < bs.length) => lcell hS hX hn)
  have HCELL0 := keepf (fun (hn : 0 < bs.length) => lcell hS (Chg.refl NoS w) hn)
  have HB := keepf hb
  obtain ⟨n, hn⟩ : ∃ n, bs.length = n := ⟨_, rfl⟩
  have HN := keepf hn
  rw [hn] at hl hc hp
  clear h hS hn hb
  go_enter Try.func48, Try.ntmps48
  go_upto_region 2 with fail
  go_loopw [1, 5] (fun vz vj wr => ∃ j k z : Nat, j ≤ 2 ∧ k ≤ n ∧ z < 256 ∧ vz = .int .u8 (z : Nat) ∧ vj = .int .i64 (j : Nat) ∧ Hid (OcIn V w wr A bs c last R p x out j k z)) (fun _ vj _ => 2 - (intOf vj).toNat)
  case atStart => exact ⟨0, p, x, by omega, hp, by omega, rfl, rfl, HO⟩
  case round =>
    obtain ⟨j, k, z, hj, hk, hz, rfl, rfl, HI⟩ := hrel
    obtain ⟨c2, c3, c4, f3⟩ := HI.out.1.cells
    rw [HN.out] at c2
    by_cases hj2 : j = 2
    · subst hj2
      have HE := keepf HI.out.2
      go_wp2_with fail
      go_ret
      refine ⟨?_, ?_⟩
      · rw [HE.out.1, show octs (2 - 2) z (bs.drop k) = (z, 0) from rfl]; simp only []; rw [Nat.mod_eq_of_lt hz]; rfl
      · rw [HE.out.2]; exact HI.out.1
    obtain ⟨i, hi⟩ : ∃ i, 2 - j = i + 1 := ⟨1 - j, by omega⟩
    have j1 : (j : Int) < 2 := by omega
    by_cases hkn : k = n
    · have HE := keepf (show octs (2 - j) z (bs.drop k) = (z, 0) from by rw [hi, octs_none (.inl (List.drop_of_length_le (by rw [HN.out]; omega)))])
      have HE2 := keepf HI.out.2
      subst hkn
      clear hi hj2
      go_upto_region 3 with fail
      go_quiet (fail)
      go_wp2_with fail
      go_ret
      refine ⟨?_, ?_⟩
      · rw [HE2.out.1, HE.out]; simp only []; rw [Nat.mod_eq_of_lt hz]; rfl
      · rw [HE2.out.2, HE.out]; exact HI.out.1.drewN _
    obtain ⟨y, hy, hd⟩ := drop_at (bs := bs) (k := k) (by rw [HN.out]; omega)
    obtain ⟨b, off, rfl, hcell⟩ := HCELL.out wr HI.out.1.chg (by rw [HN.out]; omega)
    have c0 := hcell k y hy
    have hbR : b ≠ R := by
      obtain ⟨b', off', e, hc'⟩ := HCELL0.out (by rw [HN.out]; omega)
      cases e
      have := cell_lt (hc' k y hy)
      simp only at this
      omega
    have hy256 := HB.out y (List.mem_of_getElem? hy)
    have k1 : (k : Int) < n := by omega
    have k2 : ((k : Int) == n) = false := by simp; omega
    have k3 : (k == n) = false := by simp; omega
    have HE2 := keepf HI.out.2
    by_cases hoct : 48 ≤ y ∧ y ≤ 55
    · have HD := keepf (show octs (2 - j) z (bs.drop k) = ((octs i (8 * z + (y - 48)) (bs.drop (k + 1))).1, (octs i (8 * z + (y - 48)) (bs.drop (k + 1))).2 + 1) from by rw [hi, hd, octs_some hoct])
      have HI1 := keepf (show 2 - (j + 1) = i from by omega)
      obtain ⟨o1, o2⟩ := hoct
      obtain ⟨t, ht⟩ : ∃ t, t = 8 * z % 256 := ⟨_, rfl⟩
      obtain ⟨u, hu⟩ : ∃ u, u = y - 48 := ⟨_, rfl⟩
      obtain ⟨v, hv⟩ : ∃ v, v = (t + u) % 256 := ⟨_, rfl⟩
      have w1 : IntKind.u8.wrap (8 * (z : Int)) = (t : Int) := by rw [IntKind.wrap_u8]; omega
      have w2 : IntKind.u8.wrap ((y : Int) - 48) = (u : Int) := by rw [IntKind.wrap_u8]; omega
      have w3 : IntKind.u8.wrap ((t : Int) + (u : Int)) = (v : Int) := by rw [IntKind.wrap_u8]; omega
      have HV := keepf (show (8 * z + (y - 48)) % 256 = v % 256 from by omega)
      have hv2 : v < 256 := by omega
      have m1 : decide ((y : Int) < 48) = false := by simp; omega
      have m2 : decide ((55 : Int) < y) = false := by simp; omega
      have m3 : decide (y < 48) = false := by simp; omega
      have m4 : decide (55 < y) = false := by simp; omega
      clear ht hu hv hi hj2 hkn hy hd hcell hy256 o1 o2
      go_upto_region 3 with fail
      go_quiet (fail)
      go_upto_region 4 with fail
      go_quiet (fail)
      go_wp2_with fail
      go_roundw
      case rel =>
        refine ⟨j + 1, k + 1, v, by omega, by omega, hv2, rfl, by go_num, keepf ⟨(HI.out.1.drewN _).at_ _, ?_, ?_⟩⟩
        · rw [HE2.out.1, HD.out, HI1.out]; exact (octs_mod i _ _ _ HV.out).1
        · rw [HE2.out.2, HD.out, HI1.out, ← (octs_mod i (bs.drop (k + 1)) _ _ HV.out).2]; simp only []; omega
      case measure => simp [intOf]; omega
    · have HE := keepf (show octs (2 - j) z (bs.drop k) = (z, 0) from by rw [hi, octs_none (.inr ⟨y, _, hd, hoct⟩)])
      clear hi hd hj2 hkn hcell hy
      by_cases hlo : y < 48
      · clear hoct
        have m1 : decide ((y : Int) < 48) = true := by simp; omega
        have m3 : decide (y < 48) = true := by simp; omega
        go_upto_region 3 with fail
        go_quiet (fail)
        go_wp2_with fail
        go_ret
        refine ⟨?_, ?_⟩
        · rw [HE2.out.1, HE.out]; simp only []; rw [Nat.mod_eq_of_lt hz]; rfl
        · rw [HE2.out.2, HE.out]; exact HI.out.1.drewN _
      · have hhi : 55 < y := by omega
        clear hoct
        have m1 : decide ((y : Int) < 48) = false := by simp; omega
        have m3 : decide (y < 48) = false := by simp; omega
        have m2 : decide ((55 : Int) < y) = true := by simp; omega
        have m4 : decide (55 < y) = true := by simp; omega
        go_upto_region 3 with fail
        go_quiet (fail)
        go_wp2_with fail
        go_ret
        refine ⟨?_, ?_⟩
        · rw [HE2.out.1, HE.out]; simp only []; rw [Nat.mod_eq_of_lt hz]; rfl
        · rw [HE2.out.2, HE.out]; exact HI.out.1.drewN _

end Go.Proofs.Ytaababegolfjeaa

/- A scope with any number of labels: what holds at each jump to a label, with a number that each pass from a label lowers. Plain laws, no program. -/
namespace Go.Proofs.Ytaababegolfjeaa
open Go

/-- As Q; by a goto to l: K l. -/
def hops (K : Nat → Act → World → Prop) (Q : Exit → Act → World → Prop) : Exit → Act → World → Prop
  | .goto l, a, w => K l a w
  | e, a, w => Q e a w

section
variable {K : Nat → Act → World → Prop} {Q : Exit → Act → World → Prop} {a : Act} {w : World}
@[go_sem] theorem hops_normal : hops K Q .normal a w = Q .normal a w := rfl
@[go_sem] theorem hops_exit (id : Nat) : hops K Q (.exit id) a w = Q (.exit id) a w := rfl
@[go_sem] theorem hops_ret : hops K Q .ret a w = Q .ret a w := rfl
@[go_sem] theorem hops_panic (ch : List PanicEntry) : hops K Q (.panic ch) a w = Q (.panic ch) a w := rfl
theorem hops_goto (l : Nat) : hops K Q (.goto l) a w = K l a w := rfl
end

theorem hops_mono {K K' : Nat → Act → World → Prop} {Q : Exit → Act → World → Prop} (h : ∀ l a w, K l a w → K' l a w) : ∀ e a w, hops K Q e a w → hops K' Q e a w := by
  intro e a w hq
  cases e with
  | goto l' => exact h _ _ _ hq
  | normal => exact hq
  | exit id => exact hq
  | ret => exact hq
  | panic ch => exact hq
  | outgrown => exact hq

theorem wp_skip_seqs {P : Program} {x : Code} {Q : Exit → Act → World → Prop} {a : Act} {w : World} (h : x.wp P Q a w) : (Code.seq .skip x).wp P Q a w :=
  wp_seq (wp_skip h)

theorem wp_scope_all {P : Program} {a : Act} {w : World} {Q : Exit → Act → World → Prop} {c : Code} (X : Nat → Code) (J : Nat → Nat → Act → World → Prop)
    (hf : ∀ n l a w, J l n a w → findLabel c l = some (.seq .skip (X l)))
    (pass : ∀ n l a w, J l n a w → (X l).wp P (hops (fun l' a' w' => ∃ m, m < n ∧ J l' m a' w') Q) a w)
    (first : (∀ n l a w, J l n a w → (X l).wp P (hops (fun l' a' w' => ∃ m, J l' m a' w') Q) a w) → c.wp P (hops (fun l' a' w' => ∃ m, J l' m a' w') Q) a w) :
    (Code.scope c).wp P Q a w := by
  have first := first (fun n l a w h => Code.wp_mono (hops_mono (fun _ _ _ ⟨m, _, hm⟩ => ⟨m, hm⟩)) (pass n l a w h))
  intro b k cs
  have two : ∀ (r : Code) a w (K : Nat → Act → World → Prop), r.wp P (hops K Q) a w →
      (∀ l a1 w1, K l a1 w1 → ∃ x, findLabel c l = some x ∧ ∃ e a' w', Q e a' w' ∧ Arrives P (lone (b.at a1 (.code x :: .inScope c :: k)) cs w1) b k cs e a' w') →
      ∃ e a' w', Q e a' w' ∧ Arrives P (lone (b.at a (.code r :: .inScope c :: k)) cs w) b k cs e a' w' := by
    intro r a w K hr hK
    obtain ⟨e, a₁, w₁, hq, harr⟩ := hr b (.inScope c :: k) cs
    cases e with
    | normal => exact ⟨.normal, a₁, w₁, hq, Steps.trans harr (.one step_inScope)⟩
    | exit id => exact ⟨.exit id, a₁, w₁, hq, fun k' hk => harr k' (by simp [exitTo, hk])⟩
    | goto l' =>
      obtain ⟨x, hx, e₂, a₂, w₂, hq₂, harr₂⟩ := hK l' a₁ w₁ hq
      have hg : gotoIn l' (.inScope c :: k) = some (.code x :: .inScope c :: k) := by simp [gotoIn, hx]
      exact ⟨e₂, a₂, w₂, hq₂, .of_steps (harr _ hg) harr₂⟩
    | ret => exact ⟨_, a₁, w₁, hq, harr⟩
    | panic ch => exact ⟨_, a₁, w₁, hq, harr⟩
    | outgrown => exact ⟨_, a₁, w₁, hq, harr⟩
  have key : ∀ n l a w, J l n a w → ∃ x, findLabel c l = some x ∧ ∃ e a' w', Q e a' w' ∧ Arrives P (lone (b.at a (.code x :: .inScope c :: k)) cs w) b k cs e a' w' := by
    intro n
    induction n using Nat.strongRecOn with
    | _ n ih =>
      intro l a w hJ
      exact ⟨_, hf n l a w hJ, two _ a w _ (wp_skip_seqs (pass n l a w hJ)) (fun l' a1 w1 ⟨m, hm, hJ'⟩ => ih m hm l' a1 w1 hJ')⟩
  obtain ⟨e, a₁, w₁, hq, harr⟩ := two c a w _ first (fun l' a1 w1 ⟨m, hJ'⟩ => key m l' a1 w1 hJ')
  cases e with
  | normal => exact ⟨.normal, a₁, w₁, hq, .head step_scope harr⟩
  | exit id => exact ⟨.exit id, a₁, w₁, hq, fun k' hk => .head step_scope (harr k' hk)⟩
  | goto l => exact ⟨.goto l, a₁, w₁, hq, fun k' hk => .head step_scope (harr k' hk)⟩
  | ret => exact ⟨_, a₁, w₁, hq, .of_steps (.one step_scope) harr⟩
  | panic ch => exact ⟨_, a₁, w₁, hq, .of_steps (.one step_scope) harr⟩
  | outgrown => exact ⟨_, a₁, w₁, hq, .of_steps (.one step_scope) harr⟩

/-- Where a jump to one of three labels leads. -/
def Lab3 (J0 J1 J2 : Nat → Act → World → Prop) (l n : Nat) (a : Act) (w : World) : Prop := (l = 0 ∧ J0 n a w) ∨ (l = 1 ∧ J1 n a w) ∨ (l = 2 ∧ J2 n a w)

theorem wp_scope3 {P : Program} {a : Act} {w : World} {Q : Exit → Act → World → Prop} {c x0 x1 x2 : Code} (J0 J1 J2 : Nat → Act → World → Prop)
    (h0 : findLabel c 0 = some (.seq .skip x0)) (h1 : findLabel c 1 = some (.seq .skip x1)) (h2 : findLabel c 2 = some (.seq .skip x2))
    (pass0 : ∀ n a w, J0 n a w → x0.wp P (hops (fun l' a' w' => ∃ m, m < n ∧ Lab3 J0 J1 J2 l' m a' w') Q) a w)
    (pass1 : ∀ n a w, J1 n a w → x1.wp P (hops (fun l' a' w' => ∃ m, m < n ∧ Lab3 J0 J1 J2 l' m a' w') Q) a w)
    (pass2 : ∀ n a w, J2 n a w → x2.wp P (hops (fun l' a' w' => ∃ m, m < n ∧ Lab3 J0 J1 J2 l' m a' w') Q) a w)
    (first : (∀ n a w, J0 n a w → x0.wp P (hops (fun l' a' w' => ∃ m, Lab3 J0 J1 J2 l' m a' w') Q) a w) → c.wp P (hops (fun l' a' w' => ∃ m, Lab3 J0 J1 J2 l' m a' w') Q) a w) :
    (Code.scope c).wp P Q a w := by
  refine wp_scope_all (fun l => if l = 0 then x0 else if l = 1 then x1 else x2) (Lab3 J0 J1 J2) ?_ ?_ ?_
  · rintro n l a w (⟨rfl, _⟩ | ⟨rfl, _⟩ | ⟨rfl, _⟩)
    · exact h0
    · exact h1
    · exact h2
  · rintro n l a w (⟨rfl, h⟩ | ⟨rfl, h⟩ | ⟨rfl, h⟩)
    · exact pass0 n a w h
    · exact pass1 n a w h
    · exact pass2 n a w h
  · intro hp
    exact first (fun n a w h => hp n 0 a w (.inl ⟨rfl, h⟩))

/-- Where a jump to one of two labels leads. -/
def Lab2 (J0 J1 : Nat → Act → World → Prop) (l n : Nat) (a : Act) (w : World) : Prop := (l = 0 ∧ J0 n a w) ∨ (l = 1 ∧ J1 n a w)

theorem wp_scope2 {P : Program} {a : Act} {w : World} {Q : Exit → Act → World → Prop} {c x0 x1 : Code} (J0 J1 : Nat → Act → World → Prop)
    (h0 : findLabel c 0 = some (.seq .skip x0)) (h1 : findLabel c 1 = some (.seq .skip x1))
    (pass0 : ∀ n a w, J0 n a w → x0.wp P (hops (fun l' a' w' => ∃ m, m < n ∧ Lab2 J0 J1 l' m a' w') Q) a w)
    (pass1 : ∀ n a w, J1 n a w → x1.wp P (hops (fun l' a' w' => ∃ m, m < n ∧ Lab2 J0 J1 l' m a' w') Q) a w)
    (first : (∀ n a w, J0 n a w → x0.wp P (hops (fun l' a' w' => ∃ m, Lab2 J0 J1 l' m a' w') Q) a w) → (∀ n a w, J1 n a w → x1.wp P (hops (fun l' a' w' => ∃ m, Lab2 J0 J1 l' m a' w') Q) a w) → c.wp P (hops (fun l' a' w' => ∃ m, Lab2 J0 J1 l' m a' w') Q) a w) :
    (Code.scope c).wp P Q a w := by
  refine wp_scope_all (fun l => if l = 0 then x0 else x1) (Lab2 J0 J1) ?_ ?_ ?_
  · rintro n l a w (⟨rfl, _⟩ | ⟨rfl, _⟩)
    · exact h0
    · exact h1
  · rintro n l a w (⟨rfl, h⟩ | ⟨rfl, h⟩)
    · exact pass0 n a w h
    · exact pass1 n a w h
  · intro hp
    exact first (fun n a w h => hp n 0 a w (.inl ⟨rfl, h⟩)) (fun n a w h => hp n 1 a w (.inr ⟨rfl, h⟩))

/-- Where a jump to the one label leads. -/
def Lab1 (J0 : Nat → Act → World → Prop) (l n : Nat) (a : Act) (w : World) : Prop := l = 0 ∧ J0 n a w

theorem wp_scope1 {P : Program} {a : Act} {w : World} {Q : Exit → Act → World → Prop} {c x0 : Code} (J0 : Nat → Act → World → Prop)
    (h0 : findLabel c 0 = some (.seq .skip x0))
    (pass0 : ∀ n a w, J0 n a w → x0.wp P (hops (fun l' a' w' => ∃ m, m < n ∧ Lab1 J0 l' m a' w') Q) a w)
    (first : (∀ n a w, J0 n a w → x0.wp P (hops (fun l' a' w' => ∃ m, Lab1 J0 l' m a' w') Q) a w) → c.wp P (hops (fun l' a' w' => ∃ m, Lab1 J0 l' m a' w') Q) a w) :
    (Code.scope c).wp P Q a w := by
  refine wp_scope_all (fun _ => x0) (Lab1 J0) ?_ ?_ ?_
  · rintro n l a w ⟨rfl, _⟩
    exact h0
  · rintro n l a w ⟨rfl, h⟩
    exact pass0 n a w h
  · intro hp
    exact first (fun n a w h => hp n 0 a w ⟨rfl, h⟩)

/-- A row of slots is told by its slots. -/
theorem arr_slots (t : Array Value) (n : Nat) (h : t.size = n) : t = ((List.range n).map (fun i => t.getD i undef)).toArray := by
  apply Array.ext
  · simp [h]
  · intro i h1 h2
    simp [Array.getD, h1]

end Go.Proofs.Ytaababegolfjeaa

/- The document's own reading of what stands behind a backslash. -/
namespace Go.Proofs.Ytaababegolfjeaa
open Go.RowKit
set_option linter.unusedVariables false
set_option linter.unusedSimpArgs false

def escV (p : Nat) (r : Int × Option Nat × Nat) : Value := .tuple #[.int .u8 ((r.2.1.getD 0 : Nat) : Int), .int .i64 (if r.1 = 0 then ((p + r.2.2 : Nat) : Int) else 0), .bool r.2.1.isSome, .int .i64 r.1]

theorem escO_13 (last : Bool) (l : List Nat) : escO last (13 :: l) = if l = [] ∧ last = false then (6, none, 0) else if l.head? = some 10 then (0, none, 2) else (0, none, 1) := rfl

theorem escO_dig {last : Bool} {c : Nat} {l : List Nat} (h : 48 ≤ c ∧ c ≤ 55) : escO last (c :: l) = if (octs 3 0 (c :: l)).2 < 3 ∧ (c :: l).length ≤ (octs 3 0 (c :: l)).2 ∧ last = false then (6, none, 0) else (0, some ((octs 3 0 (c :: l)).1 % 256), (octs 3 0 (c :: l)).2) := by
  rw [escO_cons, if_neg (show ¬ c = 110 by omega), if_neg (show ¬ c = 114 by omega), if_neg (show ¬ c = 116 by omega), if_neg (show ¬ c = 98 by omega), if_neg (show ¬ c = 102 by omega), if_neg (show ¬ c = 10 by omega), if_neg (show ¬ c = 13 by omega), if_neg (show ¬ (c < 48 ∨ 55 < c) by omega)]

theorem octs_end {k n : Nat} {l : List Nat} (h : k = 0 ∨ l = [] ∨ ∃ c m, l = c :: m ∧ ¬ (48 ≤ c ∧ c ≤ 55)) : octs k n l = (n, 0) := by
  rcases k with _ | k
  · rfl
  · rcases h with h | rfl | ⟨c, m, rfl, h⟩
    · cases h
    · rfl
    · rw [octs, if_neg h]

theorem octs_dig {k n c : Nat} {l : List Nat} (hk : 0 < k) (h : 48 ≤ c ∧ c ≤ 55) : octs k n (c :: l) = ((octs (k - 1) (8 * n + (c - 48)) l).1, (octs (k - 1) (8 * n + (c - 48)) l).2 + 1) := by
  obtain ⟨j, rfl⟩ : ∃ j, k = j + 1 := ⟨k - 1, by omega⟩
  rw [octs, if_pos h]
  rfl

end Go.Proofs.Ytaababegolfjeaa

/- The document's own reading of a text in brackets. -/
namespace Go.Proofs.Ytaababegolfjeaa
open Go.RowKit
set_option linter.unusedVariables false
set_option linter.unusedSimpArgs false

/-- Behind the reading of a text, of either kind: an error, its bytes, and where it ends. -/
def TxTo (w : World) (R : Int × List Nat × Nat) (e : Ending) (w' : World) : Prop :=
  ∃ (A : Option Addr) (c m : Nat), m = R.2.1.length ∧ e = .returned (.tuple #[.slice A m c, .int .i64 (R.2.2 : Nat), .int .i64 R.1]) ∧ GR 5 w w' (lcells R.2.1) m A c

theorem TxTo.err {w w' : World} {R : Int × List Nat × Nat} {er : Int} (h : R = (er, [], 0)) (hc : Chg NoS w w') : TxTo w R (.returned (.tuple #[.slice none 0 0, .int .i64 0, .int .i64 er])) w' := by
  subst h
  exact ⟨none, 0, 0, rfl, rfl, GR.none hc⟩

section
variable {last : Bool} {deep k : Nat} {out l : List Nat}
theorem txt_92e (h : (escO last l).1 ≠ 0) : txtO last deep out k (92 :: l) = ((escO last l).1, [], 0) := by rw [txtO_cons, if_pos rfl, if_pos h]
theorem txt_92 (h : (escO last l).1 = 0) : txtO last deep out k (92 :: l) = txtO last deep (out ++ (escO last l).2.1.toList) (k + 1 + (escO last l).2.2) (l.drop (escO last l).2.2) := by
  rw [txtO_cons, if_pos rfl, if_neg (fun e => e h)]
theorem txt_13m (h : l = []) (h2 : last = false) : txtO last deep out k (13 :: l) = (6, [], 0) := by
  rw [txtO_cons, if_neg (show ¬ 13 = 92 by decide), if_pos rfl, if_pos ⟨h, h2⟩]
theorem txt_13b (h : l ≠ []) (h2 : l.head? = some 10) : txtO last deep out k (13 :: l) = txtO last deep (out ++ [10]) (k + 2) (l.drop 1) := by
  rw [txtO_cons, if_neg (show ¬ 13 = 92 by decide), if_pos rfl, if_neg (fun e => h e.1), if_pos h2]
theorem txt_13n (h : ¬ (l = [] ∧ last = false)) (h2 : ¬ l.head? = some 10) : txtO last deep out k (13 :: l) = txtO last deep (out ++ [10]) (k + 1) l := by
  rw [txtO_cons, if_neg (show ¬ 13 = 92 by decide), if_pos rfl, if_neg h, if_neg h2]
theorem txt_40 : txtO last deep out k (40 :: l) = txtO last (deep + 1) (out ++ [40]) (k + 1) l := by
  rw [txtO_cons, if_neg (show ¬ 40 = 92 by decide), if_neg (show ¬ 40 = 13 by decide), if_pos rfl]
theorem txt_41e (h : deep = 1) : txtO last deep out k (41 :: l) = (0, out, k + 1) := by
  rw [txtO_cons, if_neg (show ¬ 41 = 92 by decide), if_neg (show ¬ 41 = 13 by decide), if_neg (show ¬ 41 = 40 by decide), if_pos rfl, if_pos h]
theorem txt_41 (h : deep ≠ 1) : txtO last deep out k (41 :: l) = txtO last (deep - 1) (out ++ [41]) (k + 1) l := by
  rw [txtO_cons, if_neg (show ¬ 41 = 92 by decide), if_neg (show ¬ 41 = 13 by decide), if_neg (show ¬ 41 = 40 by decide), if_pos rfl, if_neg h]
theorem txt_x {x : Nat} (h1 : x ≠ 92) (h2 : x ≠ 13) (h3 : x ≠ 40) (h4 : x ≠ 41) : txtO last deep out k (x :: l) = txtO last deep (out ++ [x]) (k + 1) l := by
  rw [txtO_cons, if_neg h1, if_neg h2, if_neg h3, if_neg h4]
end

theorem escV_err {p : Nat} {r : Int × Option Nat × Nat} {er : Int} (h : r = (er, none, 0)) (he : er ≠ 0) : escV p r = .tuple #[.int .u8 0, .int .i64 0, .bool false, .int .i64 er] := by
  subst h
  unfold escV
  simp only []
  rw [if_neg he]
  rfl

theorem escO_two (last : Bool) (l : List Nat) : (escO last l).1 = 0 ∨ escO last l = ((escO last l).1, none, 0) := by
  cases l with
  | nil => exact .inr rfl
  | cons c l =>
    rw [escO_cons]
    repeat' split
    all_goals first
      | exact .inl rfl
      | exact .inr rfl

theorem escO_errs {last : Bool} {l : List Nat} (h : (escO last l).1 ≠ 0) : escO last l = ((escO last l).1, none, 0) := (escO_two last l).resolve_left h

def TxIn (last : Bool) (p : Nat) (bs : List Nat) (w wr : World) (k deep m c2 : Nat) (out : List Nat) (A2 : Option Addr) : Prop :=
  m = out.length ∧ GR 5 w wr (lcells out) m A2 c2 ∧ txtO last 1 [] p (bs.drop p) = txtO last deep out k (bs.drop k)

end Go.Proofs.Ytaababegolfjeaa

/- The reader's text in brackets. -/
namespace Go.Proofs.Ytaababegolfjeaa
open Go.RowKit
set_option linter.unusedVariables false
set_option linter.unusedSimpArgs false

section
variable {last : Bool} {deep k y : Nat} {out l : List Nat}
theorem cutE_ne (last : Bool) : cutE last ≠ 0 := by cases last <;> decide
theorem txt_13z : txtO last deep out k [13] = txtO last deep (out ++ [10]) (k + 1) [] := by
  cases last
  · rw [txt_13m rfl rfl, txtO_nil]; rfl
  · exact txt_13n (fun e => by cases e.2) (by simp)
theorem txt_sz : txtO last deep out k [92] = (cutE last, [], 0) := by
  rw [txt_92e (by exact cutE_ne last)]; rfl
theorem txt_s10 : txtO last deep out k (92 :: 10 :: l) = txtO last deep out (k + 2) l := by
  have e : escO last (10 :: l) = (0, none, 1) := rfl
  rw [txt_92 (by rw [e]), e]
  simp
theorem txt_s13z : txtO last deep out k [92, 13] = txtO last deep out (k + 2) [] := by
  cases last
  · have e : escO false [13] = (6, none, 0) := rfl
    rw [txt_92e (by rw [e]; decide), e, txtO_nil]; rfl
  · have e : escO true [13] = (0, none, 1) := rfl
    rw [txt_92 (by rw [e]), e]
    simp
theorem txt_s13b (h : l.head? = some 10) : txtO last deep out k (92 :: 13 :: l) = txtO last deep out (k + 3) (l.drop 1) := by
  have e : escO last (13 :: l) = (0, none, 2) := by
    rw [escO_cons]
    simp only [show ¬ 13 = 110 by decide, show ¬ 13 = 114 by decide, show ¬ 13 = 116 by decide, show ¬ 13 = 98 by decide, show ¬ 13 = 102 by decide, show ¬ 13 = 10 by decide, if_false, if_true]
    rw [if_neg (fun e => by rw [e.1] at h; cases h), if_pos h]
  rw [txt_92 (by rw [e]), e]
  simp
theorem txt_s13n (h : ¬ l.head? = some 10) (h2 : l ≠ []) : txtO last deep out k (92 :: 13 :: l) = txtO last deep out (k + 2) l := by
  have e : escO last (13 :: l) = (0, none, 1) := by
    rw [escO_cons]
    simp only [show ¬ 13 = 110 by decide, show ¬ 13 = 114 by decide, show ¬ 13 = 116 by decide, show ¬ 13 = 98 by decide, show ¬ 13 = 102 by decide, show ¬ 13 = 10 by decide, if_false, if_true]
    rw [if_neg (fun e => h2 e.1), if_neg h]
  rw [txt_92 (by rw [e]), e]
  simp
theorem txt_soct (h : 48 ≤ y ∧ y ≤ 55) : txtO last deep out k (92 :: y :: l) = txtO last deep (out ++ [(octs 2 (y - 48) l).1 % 256]) (k + 2 + (octs 2 (y - 48) l).2) (l.drop (octs 2 (y - 48) l).2) := by
  have h3 : octs 3 0 (y :: l) = ((octs 2 (y - 48) l).1, (octs 2 (y - 48) l).2 + 1) := by rw [octs_some h]; simp
  have hle := octs_le 2 (y - 48) l
  obtain ⟨m, hm⟩ : ∃ m, octs 2 (y - 48) l = m := ⟨_, rfl⟩
  rw [hm] at h3 hle ⊢
  have e : escO last (y :: l) = if m.2 + 1 < 3 ∧ (y :: l).length ≤ m.2 + 1 ∧ last = false then (6, none, 0) else (0, some (m.1 % 256), m.2 + 1) := by
    rw [escO_cons, if_neg (by omega), if_neg (by omega), if_neg (by omega), if_neg (by omega), if_neg (by omega), if_neg (by omega), if_neg (by omega), if_neg (by omega), h3]
  by_cases hc : m.2 + 1 < 3 ∧ (y :: l).length ≤ m.2 + 1 ∧ last = false
  · rw [if_pos hc] at e
    have hd : l.drop m.2 = [] := List.drop_of_length_le (by have := hc.2.1; simp only [List.length_cons] at this; omega)
    rw [txt_92e (by rw [e]; decide), e, hd, txtO_nil, hc.2.2]
    rfl
  · rw [if_neg hc] at e
    rw [txt_92 (by rw [e]), e]
    simp only [Option.toList_some, List.drop_succ_cons]
    rw [show k + 1 + (m.2 + 1) = k + 2 + m.2 by omega]
theorem txt_sx (h10 : y ≠ 10) (h13 : y ≠ 13) (h : ¬ (48 ≤ y ∧ y ≤ 55)) : txtO last deep out k (92 :: y :: l) = txtO last deep (out ++ [mnt y]) (k + 2) l := by
  have e : escO last (y :: l) = (0, some (mnt y), 1) := by
    unfold mnt
    rw [escO_cons]
    repeat' split
    all_goals first
      | rfl
      | omega
  rw [txt_92 (by rw [e]), e]
  simp
end

/-- A text's value, or none, and the error. -/
def TkV (kind : Nat) (R : Int × List Nat) : Value := .tuple #[if R.1 = 0 then .agg #[.int .i64 (kind : Nat), .int .i64 0, .string (sb R.2), .slice none 0 0] else .agg #[.int .i64 0, .int .i64 0, .string ⟨#[]⟩, .slice none 0 0], .int .i64 R.1]

/-- Behind the reading of a text: its value and the error; the reader stands at its end, if there is no error. -/
def PTo (V w : World) (R kind : Nat) (r : Int × List Nat × Nat) (e : Ending) (W : World) : Prop := e = .returned (TkV kind (r.1, r.2.1)) ∧ ∃ p, (r.1 = 0 → p = r.2.2) ∧ RE V w W R p

/-- At the label next: the reader stands at k. -/
def TxR (V w : World) (A : Option Addr) (bs : List Nat) (c : Nat) (last : Bool) (R g p : Nat) (k deep : Nat) (out : List Nat) (w' : World) : Prop :=
  RD V w w' A bs.length c last R k out ∧ Blk w' g 27 #[.int .i64 0, .int .i64 0, .string ⟨#[]⟩, .slice none 0 0] ∧ (∀ d ∈ out, d < 256)

def TxJ0 (V w : World) (A : Option Addr) (bs : List Nat) (c : Nat) (last : Bool) (R g p : Nat) (n : Nat) (x : Act) (w' : World) : Prop :=
  x.defers = [] ∧ x.tmps.size = 80 ∧ x.tmps.getD 0 undef = .pointer (some ⟨R, 0, none⟩) ∧ x.tmps.getD 2 undef = .pointer (some ⟨g, 0, none⟩) ∧ ∃ (k deep : Nat) (out : List Nat), x.tmps.getD 4 undef = .int .i64 (deep : Nat) ∧ n = 2 * (bs.length - k) + 1 ∧ k ≤ bs.length ∧ 1 ≤ deep ∧ deep ≤ k + 1 ∧ out.length ≤ k ∧
    Hid (TxR V w A bs c last R g p k deep out w' ∧ txtO last 1 [] p (bs.drop p) = txtO last deep out k (bs.drop k))

def TxJ1 (V w : World) (A : Option Addr) (bs : List Nat) (c : Nat) (last : Bool) (R g p : Nat) (n : Nat) (x : Act) (w' : World) : Prop :=
  x.defers = [] ∧ x.tmps.size = 80 ∧ x.tmps.getD 0 undef = .pointer (some ⟨R, 0, none⟩) ∧ x.tmps.getD 2 undef = .pointer (some ⟨g, 0, none⟩) ∧ ∃ (k deep : Nat) (out : List Nat), n = 0 ∧
    Hid (TxR V w A bs c last R g p k deep out w' ∧ txtO last 1 [] p (bs.drop p) = (cutE last, [], 0))

def TxJ2 (V w : World) (A : Option Addr) (bs : List Nat) (c : Nat) (last : Bool) (R g p : Nat) (n : Nat) (x : Act) (w' : World) : Prop :=
  x.defers = [] ∧ x.tmps.size = 80 ∧ x.tmps.getD 0 undef = .pointer (some ⟨R, 0, none⟩) ∧ x.tmps.getD 2 undef = .pointer (some ⟨g, 0, none⟩) ∧ ∃ (k deep : Nat) (out : List Nat), x.tmps.getD 4 undef = .int .i64 (deep : Nat) ∧ n = 2 * (bs.length - (k + 1)) + 2 ∧ k + 1 ≤ bs.length ∧ 1 ≤ deep ∧ deep ≤ k + 1 ∧ out.length ≤ k ∧
    Hid (TxR V w A bs c last R g p (k + 1) deep out w' ∧ txtO last 1 [] p (bs.drop p) = txtO last deep out k (92 :: bs.drop (k + 1)))

theorem slots_80 {x : Act} {v0 v2 : Value} {C : Act → Prop} (h1 : x.defers = []) (h2 : x.tmps.size = 80) (h3 : x.tmps.getD 0 undef = v0) (h4 : x.tmps.getD 2 undef = v2)
    (k : ∀ f : Nat → Value, f 4 = x.tmps.getD 4 undef → C { tmps := #[v0, f 1, v2, f 3, f 4, f 5, f 6, f 7, f 8, f 9, f 10, f 11, f 12, f 13, f 14, f 15, f 16, f 17, f 18, f 19, f 20, f 21, f 22, f 23, f 24, f 25, f 26, f 27, f 28, f 29, f 30, f 31, f 32, f 33, f 34, f 35, f 36, f 37, f 38, f 39, f 40, f 41, f 42, f 43, f 44, f 45, f 46, f 47, f 48, f 49, f 50, f 51, f 52, f 53, f 54, f 55, f 56, f 57, f 58, f 59, f 60, f 61, f 62, f 63, f 64, f 65, f 66, f 67, f 68, f 69, f 70, f 71, f 72, f 73, f 74, f 75, f 76, f 77, f 78, f 79], defers := [] }) : C x := by
  obtain ⟨t, d⟩ := x
  simp only at h1 h2 h3 h4
  subst h1
  have h5 := k (fun i => t.getD i undef) rfl
  rw [← h3, ← h4] at h5
  rw [arr_slots t 80 h2]
  exact h5

end Go.Proofs.Ytaababegolfjeaa

