/- What Put does to a writer: the bits that come behind, or the error. -/
import Derived.Test.YtbdnhhhagpgibaaSmall
import Derived.Test.YtbdnhhhagpgibaaBits
import Derived.Deep.RegionHeld3
import Derived.Deep.DeepCutAuto
import Derived.Deep.Cut
import Derived.Deep.CutRange
import Derived.StillTailTactics
namespace Go.Proofs.Ytbdnhhhagpgibaa
open Go.RowKit
set_option linter.unusedVariables false

theorem info_u8 : (Try.prog.info? 5).map (fun i => (i.zero, i.size, i.bytes)) = some (some (.int .u8 0), 1, 1) := by kernel_rfl

/-- The bytes of a row of bits, as cells. -/
def bcells (high : Bool) (L : List Bool) : List Value := (bytesOf high L).map fun b => .int .u8 (b : Nat)

/-- The blocks of a writer. -/
def WS (g : Nat) (S : Value) : Nat → Prop := fun i => i = g ∨ S.ownBlock = some i

theorem byteAt_out (high : Bool) (M : List Bool) (i : Nat) (h : M.length ≤ 8 * i) : byteAt high M i = 0 := by
  have e : byteAt high M i = obf (fun _ => false) 8 := by
    apply obf_congr
    intro p _
    rw [List.getD_eq_getElem?_getD, List.getElem?_eq_none (by cases high <;> simp [rowAt] <;> omega)]
    rfl
  rw [e]
  decide

theorem cells_more (high : Bool) (M : List Bool) (h : M.length % 8 = 0) : bcells high M ++ [.int .u8 0] = (List.range (M.length / 8 + 1)).map fun i => .int .u8 (byteAt high M i : Nat) := by
  have e : nby M.length = M.length / 8 := by unfold nby; omega
  rw [List.range_succ, List.map_append, bcells, bytesOf, e, List.map_map]
  simp [byteAt_out high M (M.length / 8) (by omega)]

theorem cells_same (high : Bool) (M : List Bool) (h : M.length % 8 ≠ 0) : bcells high M = (List.range (M.length / 8 + 1)).map fun i => .int .u8 (byteAt high M i : Nat) := by
  have e : nby M.length = M.length / 8 + 1 := by unfold nby; omega
  rw [bcells, bytesOf, e, List.map_map]
  rfl

theorem abv_n (high : Bool) (n d k : Nat) (h : d + k ≤ n) : abv high n d k = (abn high n d k : Nat) := by
  cases high <;> simp [abv, abn] <;> omega

theorem piece_eq (x up k : Nat) (hx : x ≤ 4294967295) (hk : k ≤ 8) : bits BinOp.and IntKind.u32 ((x : Int) / 2 ^ up) ((2 ^ k - 1) % 4294967296) = ((x / 2 ^ up % 2 ^ k : Nat) : Int) := by
  have h2 : 2 ^ k ≤ 2 ^ 8 := Nat.pow_le_pow_right (by decide) hk
  have h0 := Nat.two_pow_pos k
  have hd : x / 2 ^ up ≤ x := Nat.div_le_self _ _
  have e1 : ((x : Int) / 2 ^ up) = ((x / 2 ^ up : Nat) : Int) := by simp
  have e2 : (((2 : Int) ^ k - 1) % 4294967296) = ((2 ^ k - 1 : Nat) : Int) := by
    rw [Int.natCast_sub h0]
    simp
    have : (((2 : Nat) ^ k : Nat) : Int) = (2 : Int) ^ k := by simp
    omega
  rw [e1, e2, u32_and_nat _ _ (by omega) (by omega), Nat.and_two_pow_sub_one_eq_mod]

theorem zero_one : ∀ u ∈ [Value.int .u8 0], u.oneCell' = true := by
  intro u hu
  simp at hu
  subst hu
  rfl

theorem src_one (w : World) (x : Value) (t : TypeId) : Src (w.alloc (.cells #[x] t)) 1 (some ⟨w.heap.size, 0, none⟩) 1 1 [x] :=
  ⟨rfl, fun h => (by cases h), fun ad had => by
    cases had
    exact cell_one_new w x t⟩

theorem or_piece (b pc ib : Nat) (hb : b < 256) (hp : pc * 2 ^ ib < 256) : bits BinOp.or IntKind.u8 (b : Int) ((pc : Int) * 2 ^ ib % 256) = ((b ||| pc * 2 ^ ib : Nat) : Int) := by
  have e : ((pc : Int) * 2 ^ ib % 256) = ((pc * 2 ^ ib : Nat) : Int) := by
    have : ((pc * 2 ^ ib : Nat) : Int) = (pc : Int) * 2 ^ ib := by simp
    rw [← this]
    omega
  rw [e, u8_or_nat b _ hb hp]

theorem cells_put (high : Bool) (L : List Bool) (x n j k q : Nat) (hn : j + k ≤ n) (hq : q = (L.length + j) / 8) (hk1 : 1 ≤ k) (hk : (L.length + j) % 8 + k ≤ 8) :
    ((List.range (q + 1)).map fun i => Value.int .u8 (byteAt high (L ++ (numBits high x n).take j) i : Nat)).set q (.int .u8 (byteAt high (L ++ (numBits high x n).take j) q ||| (x / 2 ^ abn high n j k % 2 ^ k * 2 ^ abn high 8 ((L.length + j) % 8) k) : Nat)) =
      bcells high (L ++ (numBits high x n).take (j + k)) ∧ nby (L ++ (numBits high x n).take (j + k)).length = q + 1 := by
  have hlen : (L ++ (numBits high x n).take (j + k)).length = L.length + j + k := by simp [numBits_length]; omega
  have hnb : nby (L ++ (numBits high x n).take (j + k)).length = q + 1 := by rw [hlen]; unfold nby; omega
  refine ⟨?_, hnb⟩
  have hp := put_piece high L x n j k hn hk
  rw [← hq] at hp
  rw [bcells, bytesOf, hnb, List.map_map]
  apply List.ext_getElem?
  intro i
  by_cases hi : i = q
  · subst hi
    simp [← hp]
  · rw [List.getElem?_set_ne (by omega)]
    by_cases hi2 : i < q + 1
    · simp [hi2]
      have := put_other high (L ++ (numBits high x n).take j) [] (((numBits high x n).take (j + k)).drop j) i (by simp [numBits_length]; omega)
      rw [List.append_nil, List.append_assoc] at this
      rw [this]
      congr 2
      have e : List.take j (numBits high x n) = List.take j (List.take (j + k) (numBits high x n)) := by rw [List.take_take]; congr 1; omega
      rw [e, List.take_append_drop]
    · simp [hi2]

theorem pc_lt (x up k ib : Nat) (h : ib + k ≤ 8) : x / 2 ^ up % 2 ^ k * 2 ^ ib < 256 := by
  have h1 : x / 2 ^ up % 2 ^ k < 2 ^ k := Nat.mod_lt _ (Nat.two_pow_pos k)
  have h2 : x / 2 ^ up % 2 ^ k * 2 ^ ib < 2 ^ k * 2 ^ ib := Nat.mul_lt_mul_of_pos_right h1 (Nat.two_pow_pos ib)
  have h3 : 2 ^ k * 2 ^ ib ≤ 2 ^ 8 := by rw [← Nat.pow_add]; exact Nat.pow_le_pow_right (by decide) (by omega)
  omega
end Go.Proofs.Ytbdnhhhagpgibaa
