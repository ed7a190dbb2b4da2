/- A string's bytes as a list of numbers. -/
import Derived.Test.YtnbjigopgbjneaaNumM
import Derived.Test.YtnbjigopgbjneaaMem
namespace Go.Proofs.Ytnbjigopgbjneaa
open Go.RowKit
set_option linter.unusedVariables false

/-- A string's bytes. -/
def sl (s : ByteArray) : List Nat := s.data.toList.map UInt8.toNat

theorem sl_len (s : ByteArray) : (sl s).length = s.size := by
  rw [sl, List.length_map, Array.length_toList]
  rfl

theorem sl_lt (s : ByteArray) : ∀ d ∈ sl s, d < 256 := by
  intro d hd
  obtain ⟨x, _, rfl⟩ := List.mem_map.1 hd
  exact x.toNat_lt

theorem sl_at (s : ByteArray) (k : Nat) (h : k < s.size) : (s[k]'h).toNat = (sl s).getD k 0 := by
  have h1 : k < s.data.toList.length := by rw [Array.length_toList]; exact h
  rw [List.getD_eq_getElem?_getD, sl, List.getElem?_map, List.getElem?_eq_getElem h1]
  simp
  rfl

theorem sl_get {s : ByteArray} {k : Nat} (h : k < s.size) : (sl s)[k]? = some ((sl s).getD k 0) := by
  have h1 : k < (sl s).length := by rw [sl_len]; exact h
  rw [List.getD_eq_getElem?_getD, List.getElem?_eq_getElem h1]
  rfl

theorem take_snoc {l : List Nat} {k x : Nat} (h : l[k]? = some x) : l.take (k + 1) = l.take k ++ [x] := by
  rw [List.take_add_one, h]
  rfl

/-- Bytes as a string. -/
def sb (l : List Nat) : ByteArray := ⟨(l.map UInt8.ofNat).toArray⟩

theorem sb_size (l : List Nat) : (sb l).size = l.length := by
  show (l.map UInt8.ofNat).toArray.size = _
  rw [List.size_toArray, List.length_map]

theorem sb_app (l m : List Nat) : sb l ++ sb m = sb (l ++ m) := by
  unfold sb
  rw [ByteArray.mk_append_mk, List.map_append]

theorem sb_sl (s : ByteArray) : sb (sl s) = s := by
  obtain ⟨⟨l⟩⟩ := s
  unfold sb sl
  rw [List.map_map]
  have e : (UInt8.ofNat ∘ UInt8.toNat) = id := by funext x; simp
  rw [e, List.map_id]

theorem sl_sb (l : List Nat) (h : ∀ d ∈ l, d < 256) : sl (sb l) = l := by
  unfold sb sl
  show (l.map UInt8.ofNat).map UInt8.toNat = l
  rw [List.map_map]
  have e : l.map (UInt8.toNat ∘ UInt8.ofNat) = l.map id := List.map_congr_left fun d hd => by
    show (UInt8.ofNat d).toNat = d
    have := h d hd
    simp
    omega
  rw [e, List.map_id]

end Go.Proofs.Ytnbjigopgbjneaa
