/- The document's own Print of a number. -/
import Derived.Test.YtmmehaghcfdjdaaRChk
namespace Go.Proofs.Ytmmehaghcfdjdaa
open Go.RowKit
set_option linter.unusedVariables false
set_option linter.unusedSimpArgs false

/-- A number's text, and the error. -/
def prOf (k n : Int) (sz len : Nat) : List Nat × Int := if chkOf k n sz len = 0 then (if k = 2 then intTxt n else realTxt n, 0) else ([], 2)
theorem sb_at {l : List Nat} (hb : ∀ d ∈ l, d < 256) (k : Nat) (h : k < (sb l).size) : ((sb l)[k]'h).toNat = l.getD k 0 := by
  rw [sl_at, sl_sb l hb]
theorem sb_take (l : List Nat) (m : Nat) : (sb l).extract 0 m = sb (l.take m) := by
  unfold sb
  apply ByteArray.ext
  rw [ByteArray.data_extract]
  simp [List.map_take]
theorem last_at {l : List Nat} {n x : Nat} (hn : l.length = n + 1) (hx : l.getD n 0 = x) : l.getLast? = some x := by
  rw [List.getLast?_eq_getElem?, hn, Nat.add_sub_cancel]
  rw [List.getD_eq_getElem?_getD, List.getElem?_eq_getElem (by omega)] at hx
  rw [List.getElem?_eq_getElem (by omega)]
  exact congrArg some hx
theorem trimZ_yes {k n : Nat} {l : List Nat} (hn : l.length = n + 1) (hx : l.getD n 0 = 48) : trimZ (k + 1) l = trimZ k (l.take n) := by
  rw [trimZ, if_pos (last_at hn hx), List.dropLast_eq_take, hn, Nat.add_sub_cancel]
theorem trimZ_no {k n : Nat} {l : List Nat} (hn : l.length = n + 1) (hx : l.getD n 0 ≠ 48) : trimZ k l = l := by
  rcases k with _ | k
  · rfl
  · rw [trimZ, if_neg]
    intro h
    have h2 := last_at hn rfl
    rw [h] at h2
    injection h2 with h2
    exact hx h2.symm
theorem dig_lt {l : List Nat} (h : ∀ d ∈ l, isD d) : ∀ d ∈ l, d < 256 := fun d hd => by
  have := h d hd
  unfold isD at this
  omega

/-- Behind Print. -/
def PrTo (w : World) (k n : Int) (sz len : Nat) (e : Ending) (w' : World) : Prop := e = .returned (.tuple #[.string (sb (prOf k n sz len).1), .int .i64 (prOf k n sz len).2]) ∧ Chg NoS w w'
theorem PrTo.of {w w' : World} {k n : Int} {sz len : Nat} {l : List Nat} {z : Int} {t : ByteArray} (h : prOf k n sz len = (l, z)) (ht : t = sb l) (hc : Chg NoS w w') : PrTo w k n sz len (.returned (.tuple #[.string t, .int .i64 z])) w' := by
  unfold PrTo
  rw [h, ht]
  exact ⟨rfl, hc⟩
end Go.Proofs.Ytmmehaghcfdjdaa
