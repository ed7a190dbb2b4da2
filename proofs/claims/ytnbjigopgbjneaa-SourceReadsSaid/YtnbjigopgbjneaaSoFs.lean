/- First: the first place that is not known. -/
import Derived.Test.YtnbjigopgbjneaaSoSt
import Derived.Deep.RegionHeld3
import Derived.Lib.MinMax
import Derived.Deep.Cut
namespace Go.Proofs.Ytnbjigopgbjneaa
open Go.RowKit
set_option linter.unusedVariables false
set_option linter.unusedSimpArgs false

set_option maxHeartbeats 1000000 in
theorem first_so {w : World} {S : Nat → Prop} {g n m : Nat} {F : List Sp} {c : Nat → Nat} (h : SoAt w S g n m F c) (p : Int) (hb : n ≤ 2147483647) :
    Calls Try.prog 14 #[.pointer (some ⟨g, 0, none⟩), .int .i64 p] w (OnlyTo w (.int .i64 (firstP n F p))) := by
  have HR := keepf (ready_any h)
  obtain ⟨b, o, t, a, h⟩ := h
  obtain ⟨_, c1, _⟩ := h.cells
  have HU := keepf (upto_any (some ⟨g, 2, none⟩) F (max p 0) w.drew (h.no (Chg.refl _ _).drew).setV)
  obtain ⟨u, hu⟩ : ∃ u, u = uptoL F (max p 0) := ⟨_, rfl⟩
  rw [← hu] at HU
  have HF := keepf (show firstP n F p = min u (n : Int) by rw [firstP, ← hu])
  have HL := keepf h.blk.lt
  clear h hu
  go_enter Try.func14, Try.ntmps14
  go_wp2_with (go_at_call 22; refine HR.out.mono ?_; rintro e w1 ⟨rfl, rfl⟩)
  first
    | (go_loud (go_region_held3 (fun w' => w'.cell? ⟨g, 1, none⟩ = some (.int .i64 (n : Nat)))
        (first | (go_keep; done) | assumption)
        ((go_at_call 30; refine HU.out.mono ?_; rintro e w2 ⟨rfl, hc2⟩; have d1 := (hc2.cell (p := ⟨g, 1, none⟩) HL.out (fun h => h)).trans c1; have HC2 := keepf hc2; clear hc2))))
    | fail "region"
  go_wp2_with fail
  go_ret
  exact ⟨ret_i64 HF.out.symm, (Chg.refl NoS w).drew.then_ HC2.out⟩

theorem firstP_le {n : Nat} {F : List Sp} (hF : Form F) {p : Nat} (hp : p ≤ n) : (p : Int) ≤ firstP n F p ∧ firstP n F p ≤ (n : Int) ∧ ∀ q : Nat, p ≤ q → (q : Int) < firstP n F p → Num F q := by
  have h := upto_spec hF (p : Int)
  have e : max (p : Int) 0 = (p : Int) := by omega
  unfold firstP
  rw [e]
  exact ⟨by omega, by omega, fun q h1 h2 => h.2.1 q (by omega) (by omega)⟩

/-- How many bytes are read from a place on. -/
def readN (n : Nat) (F : List Sp) (p : Nat) (most : Int) : Nat := (min (firstP n F p - p) most).toNat

/-- The bytes, and whether they are the last ones. -/
def ReadTo (w : World) (c : Nat → Nat) (n p k : Nat) (e : Ending) (w' : World) : Prop :=
  ∃ g, e = .returned (.tuple #[.slice (some ⟨g, 0, none⟩) k k, .bool (decide (p + k = n))]) ∧ w'.ownsRow 0 5 1 (.slice (some ⟨g, 0, none⟩) k k) k (lcells (rngB c p k)) ∧ Chg NoS w w' ∧ w.heap.size ≤ g

theorem ret_bool2 {v : Value} {a b : Bool} (h : a = b) : Ending.returned (.tuple #[v, .bool a]) = .returned (.tuple #[v, .bool b]) := by rw [h]

set_option maxHeartbeats 1000000 in
theorem read_ok {w : World} {S : Nat → Prop} {g n m : Nat} {F : List Sp} {c : Nat → Nat} (h : SoAt w S g n m F c) (p most : Nat) (hb : n ≤ 2147483647) (hp : p ≤ n) :
    Calls Try.prog 12 #[.pointer (some ⟨g, 0, none⟩), .int .i64 (p : Nat), .int .i64 (most : Nat)] w (ReadTo w c n p (readN n F p most)) := by
  have HR := keepf (ready_any h)
  have HH := keepf (has_so h (p : Int))
  have hh : hasP n (p : Int) = true := by simp [hasP]; omega
  rw [hh] at HH
  have HF := keepf (first_so h (p : Int) hb)
  obtain ⟨u, hu⟩ : ∃ u, u = firstP n F p := ⟨_, rfl⟩
  have hle := firstP_le h.form hp
  rw [← hu] at hle HF
  obtain ⟨u1, u2, u3⟩ := hle
  obtain ⟨k, hk⟩ : ∃ k, k = readN n F p most := ⟨_, rfl⟩
  have hk2 : min (u - p) (most : Int) = (k : Int) := by rw [hk, readN, ← hu]; omega
  rw [← hk]
  obtain ⟨b, o, t, a, h⟩ := h
  obtain ⟨_, c1, c3⟩ := h.cells
  have HL := keepf h.blk.lt
  have HRd := keepf (fun (W : World) (hc : Chg NoS w W) => read_any b m a c p k W (h.map.chg hc (fun h => h)) (h.bl.no hc) (fun q h1 h2 => h.cov q (u3 q h1 (by omega))) (by omega) (by omega))
  have hpk : IntKind.i64.wrap ((p : Int) + (k : Int)) = (p : Int) + (k : Int) := by rw [IntKind.wrap_i64]; omega
  have hup : IntKind.i64.wrap (u - (p : Int)) = u - (p : Int) := by rw [IntKind.wrap_i64]; omega
  have hkn : k ≤ 2147483647 := by omega
  have hd0 : decide ((most : Int) < 0) = false := by simp
  clear h hu hk u3 hh
  go_enter Try.func12, Try.ntmps12
  go_upto_region 4 with (first
    | (go_at_call 22; refine HR.out.mono ?_; rintro e w1 ⟨rfl, rfl⟩)
    | (go_at_call 23; refine HH.out.mono ?_; rintro e w1 ⟨rfl, rfl⟩)
    | (go_at_call 14; refine HF.out.mono ?_; rintro e w1 ⟨rfl, hc1⟩; have d1 := (hc1.cell (p := ⟨g, 1, none⟩) HL.out (fun h => h)).trans c1; have d3 := (hc1.cell (p := ⟨g, 3, none⟩) HL.out (fun h => h)).trans c3; have HC1 := keepf hc1; clear hc1))
  have HRk := HRd.out w1.drew HC1.out.drew
  first
    | (go_loud (go_region_held3 (fun w' => w'.cell? ⟨g, 1, none⟩ = some (.int .i64 (n : Nat)) ∧ w'.cell? ⟨g, 3, none⟩ = some (.map (some b)))
        (first | (go_keep; done) | exact ⟨by assumption, by assumption⟩)
        ((go_at_call 28; refine HRk.mono ?_; rintro e w2 ⟨gr, rfl, ho2, hc2, hn2⟩; have e1 := (hc2.cell (p := ⟨g, 1, none⟩) (by exact cell_lt d1) (fun h => h)).trans d1; have e3 := (hc2.cell (p := ⟨g, 3, none⟩) (by exact cell_lt d3) (fun h => h)).trans d3; rw [rngB_len] at ho2; have HO2 := keepf ho2; have HC2 := keepf hc2; have HN2 := keepf hn2; clear ho2 hc2 hn2))))
    | fail "region"
  go_wp2_with fail
  go_ret2
  refine ⟨gr, ?_, HO2.out, (HC1.out.drew).then_ HC2.out, Nat.le_trans HC1.out.size HN2.out⟩
  rw [rngB_len]
  refine ret_bool2 ?_
  rw [Bool.eq_iff_iff]
  simp
  omega

/-- Nothing is told. -/
def NilTo (w : World) (e : Ending) (w' : World) : Prop := e = .returned (.tuple #[.slice none 0 0, .bool false]) ∧ w = w'

set_option maxHeartbeats 1000000 in
theorem read_no {w : World} {S : Nat → Prop} {g n m : Nat} {F : List Sp} {c : Nat → Nat} (h : SoAt w S g n m F c) (p most : Int) (hp : hasP n p = false ∨ most < 0) :
    Calls Try.prog 12 #[.pointer (some ⟨g, 0, none⟩), .int .i64 p, .int .i64 most] w (NilTo w) := by
  have HR := keepf (ready_any h)
  have HH := keepf (has_so h p)
  clear h
  cases hh : hasP n p with
  | false =>
    rw [hh] at HH
    clear hp hh
    go_enter Try.func12, Try.ntmps12
    go_wp2_with (first
      | (go_at_call 22; refine HR.out.mono ?_; rintro e w1 ⟨rfl, rfl⟩)
      | (go_at_call 23; refine HH.out.mono ?_; rintro e w1 ⟨rfl, rfl⟩))
    go_ret2
    exact ⟨rfl, rfl⟩
  | true =>
    have hm : most < 0 := by
      rcases hp with h | h
      · rw [hh] at h; cases h
      · exact h
    rw [hh] at HH
    clear hp hh
    go_enter Try.func12, Try.ntmps12
    go_wp2_with (first
      | (go_at_call 22; refine HR.out.mono ?_; rintro e w1 ⟨rfl, rfl⟩)
      | (go_at_call 23; refine HH.out.mono ?_; rintro e w1 ⟨rfl, rfl⟩))
    go_ret2
    exact ⟨rfl, rfl⟩

end Go.Proofs.Ytnbjigopgbjneaa
