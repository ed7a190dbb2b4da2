/- The builder of bytes that is embedded in the reader: copyCheck, WriteByte, WriteString, Len, String, at the address of the reader's own block. -/
import Derived.Test.YtmmehaghcfdjdaaRdr
import Derived.Test.YtmmehaghcfdjdaaStr9
import Derived.Shelf.RegionOpenPlain
import Derived.Lib.AppendStr
import Derived.Lib.Walk
import Derived.WalkMore
import Derived.Laws.Externs
namespace Go.Proofs.Ytmmehaghcfdjdaa
open Go.RowKit
set_option linter.unusedVariables false
set_option linter.unusedSimpArgs false

theorem bld_size : (Try.prog.info? 52).map (·.size) = some 2 := by kernel_rfl
theorem bld_lies : liesAt Try.prog Try.prog.depth 54 (5 / Try.prog.cellsOf 54) 0 52 1 = true := by kernel_rfl
theorem byte_cells : Try.prog.cellsOf 5 = 1 := by kernel_rfl
theorem func_noEscape : Try.prog.funcs[(59 : Nat)]? = some Try.f59 := by kernel_rfl
set_option maxHeartbeats 1000000 in
set_option maxRecDepth 100000 in
theorem copyC_any {V w W : World} {A A2 : Option Addr} {n c R p c2 : Nat} {last : Bool} {out : List Nat} {q : Value} (h : RDx V w W A n c last R p out q A2 c2) :
    Calls Try.prog 51 #[.pointer (some ⟨R, 0, none⟩)] W fun e W' => e = .returned (.tuple #[]) ∧ RDx V w W' A n c last R p out (.pointer (some ⟨R, 0, none⟩)) A2 c2 := by
  obtain ⟨j, hj, hjs⟩ := Option.map_eq_some_iff.1 bld_size
  rcases h.used with rfl | rfl
  · have h0 := h.cells.1
    have hf := h.frozen 0
    have hsh := h.shape
    have HU := keepf h.use
    have g1 : (convert 50 97 (.pointer (some ⟨R, 0, none⟩))).run Try.prog W = .ok (.pointer (some ⟨R, 0, none⟩)) W :=
      Lib.run_to_unsafe W ⟨R, 0, none⟩ Try.underlying50 Try.underlying97 hj (by rw [hjs]; decide) hsh (Nat.zero_lt_succ 4)
    have g2 : (convert 97 50 (.pointer (some ⟨R, 0, none⟩))).run Try.prog W = .ok (.pointer (some ⟨R, 0, none⟩)) W :=
      Lib.run_from_unsafe W ⟨R, 0, none⟩ Try.underlying97 Try.underlying50 hj hsh bld_lies
    clear h
    go_enter Try.func51, Try.ntmps51
    go_wp2
    rw [run_callFunc_extern func_noEscape (by kernel_rfl) (by kernel_rfl) (by kernel_rfl) (e := Extern.AbiNoEscape.same) (by kernel_rfl)]
    rw [Lib.run_noEscape]
    simp only [Result.andThen]
    rw [Oper.upon_value]
    go_wp2
    go_end0
    exact ⟨rfl, HU.out⟩
  · have h0 := h.cells.1
    have HU := keepf h
    clear h
    go_enter Try.func51, Try.ntmps51
    go_wp2
    rw [Lib.run_neq_ptr_same W _ Try.underlying50 hj]
    go_wp2
    go_end0
    exact ⟨rfl, HU.out⟩
set_option maxHeartbeats 2000000 in
set_option maxRecDepth 100000 in
/-- A byte is put to it. -/
theorem pwbyte_any {V w W : World} {A : Option Addr} {n c R p : Nat} {last : Bool} {out : List Nat} (h : RD V w W A n c last R p out) (x : Nat) (hl : out.length ≤ 1000000) :
    Calls Try.prog 39 #[.pointer (some ⟨R, 0, none⟩), .int .u8 (x : Nat)] W fun e W' => e = .returned .nilIface ∧ RD V w W' A n c last R p (out ++ [x]) := by
  obtain ⟨q, A2, c2, h⟩ := h
  obtain ⟨i0, hi, hz0, hz1, hz2⟩ := info_partsL info_byL
  have HC := keepf (copyC_any h)
  clear h
  go_enter Try.func39, Try.ntmps39
  go_wp2_with (go_at_call 51; refine HC.out.mono ?_)
  rintro e w1 ⟨rfl, h1⟩
  have c0 := h1.cells.1
  have c1 := h1.cells.2.1
  have hs := h1.chg.size
  have hown := h1.own
  have HR := keepf h1
  clear h1
  go_wp2_with (at_builtin; refine wpList_append_own _ rfl _ _ 22 rfl w.heap.size 5 i0 (.int .u8 0) 1 1 Try.underlying22 hi hz0 hz1 hz2 rfl (by decide) _ _ _ rfl (hown.alloc _) ⟨w1.heap.size, 0, none⟩ 1 1 [.int .u8 (x : Nat)] rfl rfl ?c1 ?c2 ?c3 ?c4 ?c5 ?_)
  case c1 =>
    intro j u hj
    match j, hj with
    | 0, hj => simp at hj; subst hj; simp [Addr.add]
  case c2 => intro u hu; simp at hu; subst hu; rfl
  case c3 => unfold maxLen; omega
  case c4 => omega
  case c5 => simp; omega
  intro v' w2 hown' hgrow _
  have h2 := (HR.out.alloc (.cells #[.int .u8 (x : Nat)] 5)).at_cells hgrow
  obtain ⟨d0, d1, f1⟩ := h2
  obtain ⟨A3, c3, rfl, _⟩ := own_slice hown'
  have hl1 : (out ++ [x]).length = out.length + 1 := by simp
  have HF := keepf ((HR.out.alloc (.cells #[.int .u8 (x : Nat)] 5)).grow (out' := out ++ [x]) (A3 := A3) (c3 := c3) hgrow (by rw [hl1, lcells_app]; exact hown'))
  rw [hl1] at HF
  clear hown hown' hgrow hl1
  go_wp2
  go_ret
  exact ⟨rfl, HF.out.rd⟩
theorem strCells_sb (l : List Nat) (h : ∀ d ∈ l, d < 256) : Lib.strCells (sb l) = lcells l := by
  unfold Lib.strCells sb lcells
  rw [List.map_map]
  refine List.map_congr_left fun d hd => ?_
  have := h d hd
  simp
  omega
set_option maxHeartbeats 2000000 in
set_option maxRecDepth 100000 in
/-- A string is put to it. -/
theorem pwstr_any {V w W : World} {A : Option Addr} {n c R p : Nat} {last : Bool} {out : List Nat} (h : RD V w W A n c last R p out) (l : List Nat) (hb : ∀ d ∈ l, d < 256) (hl : out.length ≤ 1000000) (hl2 : l.length ≤ 1000000) :
    Calls Try.prog 45 #[.pointer (some ⟨R, 0, none⟩), .string (sb l)] W fun e W' => e = .returned (.tuple #[.int .i64 (l.length : Nat), .nilIface]) ∧ RD V w W' A n c last R p (out ++ l) := by
  obtain ⟨q, A2, c2, h⟩ := h
  obtain ⟨i0, hi, hz0, hz1, hz2⟩ := info_partsL info_byL
  have HC := keepf (copyC_any h)
  have hsz := sb_size l
  have HS := keepf (strCells_sb l hb)
  obtain ⟨s, hs⟩ : ∃ s, sb l = s := ⟨_, rfl⟩
  rw [hs] at hsz HS ⊢
  obtain ⟨m, hm⟩ : ∃ m, l.length = m := ⟨_, rfl⟩
  have hm2 : (out ++ l).length = out.length + m := by rw [List.length_append, hm]
  rw [hm] at hsz hl2 ⊢
  clear h hs hb
  go_enter Try.func45, Try.ntmps45
  go_wp2_with (go_at_call 51; refine HC.out.mono ?_)
  rintro e w1 ⟨rfl, h1⟩
  have c0 := h1.cells.1
  have c1 := h1.cells.2.1
  have hs := h1.chg.size
  have hown := h1.own
  have HR := keepf h1
  clear h1
  go_wp2_with (at_builtin; refine Lib.wpList_append_own_string _ rfl _ _ 22 9 rfl w.heap.size 5 i0 Try.underlying22 Try.underlying9 hi hz0 hz1 hz2 _ _ _ rfl hown s rfl ?c3 ?c4 ?c5 ?_)
  case c3 => unfold maxLen; omega
  case c4 => omega
  case c5 => omega
  intro v' w2 hown' hgrow _
  have h2 := HR.out.at_cells hgrow
  obtain ⟨d0, d1, f1⟩ := h2
  (try rw [hsz] at hown')
  rw [HS.out, ← lcells_app] at hown'
  obtain ⟨A3, c3, rfl, _⟩ := own_slice hown'
  have HF := keepf (HR.out.grow (out' := out ++ l) (A3 := A3) (c3 := c3) hgrow (by rw [hm2]; exact hown'))
  rw [hm2] at HF
  clear hown hown' hgrow hm2 hm HS
  go_wp2
  go_ret2
  exact ⟨rfl, HF.out.rd⟩
set_option maxHeartbeats 1000000 in
set_option maxRecDepth 100000 in
/-- How many bytes it has put together. -/
theorem plen_any {V w W : World} {A : Option Addr} {n c R p : Nat} {last : Bool} {out : List Nat} (h : RD V w W A n c last R p out) :
    Calls Try.prog 47 #[.pointer (some ⟨R, 0, none⟩)] W fun e W' => e = .returned (.int .i64 (out.length : Nat)) ∧ W = W' := by
  obtain ⟨q, A2, c2, h⟩ := h
  have c1 := h.cells.2.1
  clear h
  go_enter Try.func47, Try.ntmps47
  go_wp2
  go_ret
  exact ⟨rfl, rfl⟩
set_option maxHeartbeats 2000000 in
set_option maxRecDepth 100000 in
/-- What it has put together. -/
theorem pstring_any {V w W : World} {A : Option Addr} {n c R p : Nat} {last : Bool} {out : List Nat} (h : RD V w W A n c last R p out) (hb : ∀ d ∈ out, d < 256) (hl : out.length ≤ 1000000) :
    Calls Try.prog 50 #[.pointer (some ⟨R, 0, none⟩)] W fun e W' => e = .returned (.string (sb out)) ∧ RE V w W' R p := by
  obtain ⟨q, A2, c2, h⟩ := h
  have mixed : Try.prog.follows Departure.mixedOrders = true := by kernel_rfl
  have hre := h.rd.re.call ((Chg.refl NoS W).drew)
  have c1 := h.drew.cells.2.1
  have hown := h.own
  have hne := h.neq
  have hnew := h.new
  obtain ⟨m, hm⟩ : ∃ m, out.length = m := ⟨_, rfl⟩
  rw [hm] at c1 hown hne hl
  rcases hown.2 with ⟨hv, h0⟩ | ⟨g, cap, cur, hv, hbg, hg, hnc, hcm, hcs, htake⟩
  · simp only [Value.slice.injEq] at hv
    obtain ⟨rfl, h0', rfl⟩ := hv
    subst h0'
    obtain rfl : out = [] := List.eq_nil_of_length_eq_zero hm
    have hUS : ∀ W2, (Builtin.unsafeString_ #[96, 3] 9 #[.pointer none, .int .i64 0]).run Try.prog W2 = .ok (.string .empty) W2 := fun W2 => Lib.run_unsafeString_none W2 _ _ _ none
    have hSD : (Builtin.unsafeSliceData_ #[22] 96 #[.slice none 0 0]).run Try.prog W.drew = .ok (.pointer none) W.drew := rfl
    have HRE := keepf hre
    clear hre hne hown h hm
    go_enter Try.func50, Try.ntmps50
    go_wp2
    go_region_o
    all_goals (go_wp2; go_ret; exact ⟨rfl, HRE.out⟩)
  · simp only [Value.slice.injEq] at hv
    obtain ⟨rfl, _, rfl⟩ := hv
    have hgR : R ≠ g := fun e => hne (by rw [e]; rfl)
    have hgd : W.drew.heap[g]? = some (.cells cur 5 (0, 0)) := hg
    have hsh : W.drew.shape? g = some (5, cur.size) := by simp [World.shape?, hgd]
    by_cases h0 : m = 0
    · subst h0
      obtain rfl : out = [] := List.eq_nil_of_length_eq_zero hm
      have hUS : ∀ W2 q, (Builtin.unsafeString_ #[96, 3] 9 #[.pointer q, .int .i64 0]).run Try.prog W2 = .ok (.string .empty) W2 := fun W2 q => Lib.run_unsafeString_none W2 _ _ _ q
      by_cases hc0 : c2 = 0
      · subst hc0
        have hSD : (Builtin.unsafeSliceData_ #[22] 96 #[.slice (some ⟨g, 0, none⟩) 0 0]).run Try.prog W.drew = .ok (.pointer (some ⟨W.drew.heap.size, 0, none⟩)) (W.drew.alloc (.view ⟨g, 0, none⟩ 5)) :=
          Lib.run_unsafeSliceData_zero W.drew _ _ 5 Try.underlying96 ⟨g, 0, none⟩ 0 (5, cur.size) hsh
        have k2 : (W.drew.alloc (.view ⟨g, 0, none⟩ 5)).cell? ⟨R, 1, none⟩ = some (.slice (some ⟨g, 0, none⟩) 0 0) :=
          (((Chg.refl NoS W.drew).alloc _).cell (p := ⟨R, 1, none⟩) (cell_lt c1) (fun h => h)).trans c1
        have c3 : (W.alloc (.view ⟨g, 0, none⟩ 5)).drew.cell? ⟨R, 1, none⟩ = some (.slice (some ⟨g, 0, none⟩) 0 0) := k2
        have c0 : W.cell? ⟨R, 1, none⟩ = some (.slice (some ⟨g, 0, none⟩) 0 0) := c1
        have HRE := keepf (hre.call ((Chg.refl NoS W.drew).alloc (.view ⟨g, 0, none⟩ 5)))
        clear hre hne hown h hm hsh hgd hg hgR htake hcs hcm hnc
        go_enter Try.func50, Try.ntmps50
        go_wp2
        go_region_o
        all_goals (go_wp2; go_ret; exact ⟨rfl, HRE.out⟩)
      · have hSD : (Builtin.unsafeSliceData_ #[22] 96 #[.slice (some ⟨g, 0, none⟩) 0 c2]).run Try.prog W.drew = .ok (.pointer (some ⟨g, 0, none⟩)) W.drew :=
          Lib.run_unsafeSliceData_row _ _ _ _ _ _ hc0
        have HRE := keepf hre
        clear hre hne hown h hm hsh hgd hg hgR htake hcs hcm hnc hc0
        go_enter Try.func50, Try.ntmps50
        go_wp2
        go_region_o
        all_goals (go_wp2; go_ret; exact ⟨rfl, HRE.out⟩)
    · have hSD : (Builtin.unsafeSliceData_ #[22] 96 #[.slice (some ⟨g, 0, none⟩) m c2]).run Try.prog W.drew = .ok (.pointer (some ⟨g, 0, none⟩)) W.drew :=
        Lib.run_unsafeSliceData_row _ _ _ _ _ _ (by omega)
      have hml : (out.map UInt8.ofNat).length = m := by rw [List.length_map, hm]
      have hUS : (Builtin.unsafeString_ #[96, 3] 9 #[.pointer (some ⟨g, 0, none⟩), .int .i64 (m : Nat)]).run Try.prog W.drew = .ok (.string (sb out)) (W.drew.freeze ⟨g, 0, none⟩ m) := by
        have hu := Lib.run_unsafeString_row (P := Try.prog) W.drew 96 3 9 5 Try.underlying96 byte_cells g cur.size hsh (out.map UInt8.ofNat) (fun e => h0 (by rw [← hml, e]; rfl)) (by rw [hml]; omega) (by rw [hml]; unfold maxLen at hcm; omega) (fun j x hx => by
          rw [List.getElem?_map] at hx
          cases hj : out[j]? with
          | none => rw [hj] at hx; cases hx
          | some y =>
            rw [hj] at hx
            simp only [Option.map_some, Option.some.injEq] at hx
            subst hx
            have hy := hb y (List.mem_of_getElem? hj)
            have := hown.cells (g := g) rfl j _ (lcells_at hj)
            have e : ((UInt8.ofNat y).toNat : Nat) = y := by simp; omega
            rw [e]
            exact this)
        rw [hml] at hu
        exact hu
      have HRE := keepf (show RE V w (W.drew.freeze ⟨g, 0, none⟩ m) R p from ⟨(freeze_cell hgR m).trans hre.cell, hre.chg.freeze hbg m, hre.kb.freeze hgd m⟩)
      obtain ⟨s, hs⟩ : ∃ s, sb out = s := ⟨_, rfl⟩
      rw [hs] at hUS ⊢
      clear hre hne hown h hm hsh hgd hg hgR htake hcs hcm hnc hml hs
      go_enter Try.func50, Try.ntmps50
      go_wp2
      go_region_o
      all_goals (go_wp2; go_ret; exact ⟨rfl, HRE.out⟩)
end Go.Proofs.Ytmmehaghcfdjdaa
