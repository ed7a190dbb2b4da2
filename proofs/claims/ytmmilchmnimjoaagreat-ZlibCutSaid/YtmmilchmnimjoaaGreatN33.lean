/- Merged by program: In7 ZCon. -/
import Derived.Test.YtmmilchmnimjoaaGreatN00
import Derived.Test.YtmmilchmnimjoaaGreatN17
import Derived.Test.YtmmilchmnimjoaaGreatN26
import Derived.Test.YtmmilchmnimjoaaGreatN31
import Derived.OpenShut
/- Lengths and bytes that come in (stage 7). -/
namespace Go.Proofs.YtmmilchmnimjoaaGreat
open Go.RowKit Go.Deep Go.ChangeShapes Go.WideShapes
set_option linter.unusedVariables false
theorem open_cap {H : Type} {en : TypeId × Value → H} {P : Program} {w : World} {base fuel : Nat} {spare : Nat → Bool} {held : Bool} {t e : TypeId} {A : Option Addr} {len cap : Nat} {x : DataW H × List MemPlace}
    (ht : P.underlying t = some (.slice e)) (h : DataW.trod en P w base spare held fuel t [.slice A len cap] = some x) : len ≤ cap := by
  rcases open_slice ht h with ⟨h0, _⟩ | ⟨a, len', cap', m, n, D, Pl, hcs, hb, hl, _⟩
  · simp only [List.cons.injEq, Value.slice.injEq, and_true] at h0
    omega
  · simp only [List.cons.injEq, Value.slice.injEq, and_true] at hcs
    omega
def encU (b : Nat) : List Value := [.int .u8 (b : Nat)]
theorem byte_elU {H : Type} {en : TypeId × Value → H} {w : World} {base n : Nat} {spare : Nat → Bool} {held : Bool} {cs : List Value} {y : DataW H × List MemPlace}
    (h : DataW.trod en Tryz.prog w base spare held n 5 cs = some y) : ∃ p : Nat, cs = encU p ∧ p < 256 := by
  obtain ⟨z, rfl, hz⟩ := el_int Tryz.underlying5 h
  have b0 := bounds_u8 hz
  exact ⟨z.toNat, by simp [encU]; omega, by omega⟩
theorem flat_bytesU (bs : List Nat) : bs.flatMap encU = ucells bs := by
  induction bs with
  | nil => rfl
  | cons b bs ih => rw [List.flatMap_cons, ih]; rfl
end Go.Proofs.YtmmilchmnimjoaaGreat
/- What zlib's functions tell, as the laws of stage 8 ask: the words alone. -/
namespace Go.Proofs.YtmmilchmnimjoaaGreat
open Go.RowKit
set_option linter.unusedVariables false
set_option linter.unusedSimpArgs false
def ZpTo (w : World) (k : Nat) (bs : List Nat) (e : Ending) (w' : World) : Prop :=
  ∃ (L : List Bool) (A : Option Addr) (c n : Nat), n = (zpk L bs).length ∧ e = .returned (.tuple #[.slice A n c, .int .i64 0]) ∧ Packed k bs L ∧ w'.ownsRow 0 5 1 (.slice A n c) n (ucells (zpk L bs)) ∧ Chg NoS w w' ∧ ∀ a, A = some a → w.heap.size ≤ a.block
def ZuTo (w : World) (bs : List Nat) (most : Nat) (e : Ending) (w' : World) : Prop :=
  ∃ (A : Option Addr) (c m n : Nat) (k : Int) (out : List Nat), m = out.length ∧ e = .returned (.tuple #[.slice A m c, .int .i64 (n : Nat), .int .i64 k]) ∧ UnIs bs most k n out ∧ Src w' 1 A m c (ucells out) ∧ Chg NoS w w'
def HeadIn (bs : List Nat) : Prop := bs.length < 2 ∨ ∃ l, bs = 120 :: 156 :: l
theorem head_pk (L : List Bool) (bs ms : List Nat) : HeadIn (zpk L bs ++ ms) := .inr ⟨_, rfl⟩
theorem head_pk0 (L : List Bool) (bs : List Nat) : HeadIn (zpk L bs) := .inr ⟨_, rfl⟩
theorem head_take (L : List Bool) (bs : List Nat) (m : Nat) : HeadIn ((zpk L bs).take m) := by
  by_cases h : m < 2
  · exact .inl (by rw [List.length_take]; omega)
  · obtain ⟨q, rfl⟩ : ∃ q, m = q + 2 := ⟨m - 2, by omega⟩
    exact .inr ⟨_, rfl⟩
theorem head_set (L : List Bool) (bs : List Nat) (i x : Nat) : HeadIn ((zpk L bs).set (7 + i) x) := by
  rw [show 7 + i = (5 + i) + 1 + 1 from by omega]
  exact .inr ⟨_, rfl⟩
theorem zpk_small {k : Nat} {bs : List Nat} {L : List Bool} (h : Packed k bs L) (hl : bs.length ≤ 1500) : (zpk L bs).length ≤ 20000 := by
  have := packed_len h
  rw [zpk_len, bytesOf_length]
  unfold nby
  omega
theorem src_toU {w : World} {A : Option Addr} {n c m : Nat} {bs : List Nat} (h : Src w 1 A n c (ucells bs)) (hc : n ≤ c) (hm : m ≤ n) : Src w 1 A m c (ucells (bs.take m)) := by
  have h1 := src_cut (lo := 0) (m := m) h hc (by omega)
  rw [cutA_zero, List.drop_zero, Nat.sub_zero] at h1
  unfold ucells at h1 ⊢
  rwa [List.map_take]
end Go.Proofs.YtmmilchmnimjoaaGreat
