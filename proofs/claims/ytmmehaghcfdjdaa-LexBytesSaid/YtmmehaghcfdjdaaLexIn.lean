/- What comes in, for the words of a file: bytes, and bytes with a place and a number. -/
import Derived.Test.YtmmehaghcfdjdaaLexB
import Derived.OpenShut
import Derived.Deep.Slices
import Derived.Lib.SmallJoins
namespace Go.Proofs.Ytmmehaghcfdjdaa
open Go.RowKit Go.Deep Go.ChangeShapes Go.WideShapes
set_option linter.unusedVariables false

theorem open_capL {H : Type} {en : TypeId × Value → H} {P : Program} {w : World} {base fuel : Nat} {spare : Nat → Bool} {held : Bool} {t e : TypeId} {A : Option Addr} {len cap : Nat} {x : DataW H × List MemPlace}
    (ht : P.underlying t = some (.slice e)) (h : DataW.trod en P w base spare held fuel t [.slice A len cap] = some x) : len ≤ cap := by
  rcases open_slice ht h with ⟨h0, _⟩ | ⟨a, len', cap', m, n, D, Pl, hcs, hb, hl, _⟩
  · simp only [List.cons.injEq, Value.slice.injEq, and_true] at h0
    omega
  · simp only [List.cons.injEq, Value.slice.injEq, and_true] at hcs
    omega
def encL (b : Nat) : List Value := [.int .u8 (b : Nat)]
theorem byte_elL {H : Type} {en : TypeId × Value → H} {w : World} {base n : Nat} {spare : Nat → Bool} {held : Bool} {cs : List Value} {y : DataW H × List MemPlace}
    (h : DataW.trod en Try.prog w base spare held n 5 cs = some y) : ∃ p : Nat, cs = encL p ∧ p < 256 := by
  obtain ⟨z, rfl, hz⟩ := el_int Try.underlying5 h
  have b0 := bounds_u8 hz
  exact ⟨z.toNat, by simp [encL]; omega, by omega⟩
theorem flat_bytesL (bs : List Nat) : bs.flatMap encL = lcells bs := by
  induction bs with
  | nil => rfl
  | cons b bs ih => rw [List.flatMap_cons, ih]; rfl
set_option maxRecDepth 100000 in
theorem open_cut {H : Type} {enc : TypeId × Value → H} {w : World} {base b0 : Nat} {spare : Nat → Bool} {held : Bool} {r : Reach} {v : Value} {d : DataW H} {p : List MemPlace} (hv : Value.okWide Try.prog w r b0 47 v)
    (h : DataW.Trod enc Try.prog w base spare held 47 v d p) :
    ∃ (A : Option Addr) (len cap : Nat) (bs : List Nat) (at_ : Int) (n : Nat), v = .agg #[.slice A len cap, .int .i64 at_, .int .u16 (n : Nat)] ∧ bs.length = len ∧ len ≤ maxLen ∧ Src w 1 A len cap (lcells bs) ∧ (∀ b ∈ bs, b < 256) ∧ len ≤ cap ∧ n < 65536 := by
  obtain ⟨v0, v1, v2, y0, y1, y2, m, rfl, _, _, h0, h1, h2⟩ := Go.Joins.open_agg3 Try.underlying47 (by kernel_rfl) (by kernel_rfl) hv h
  obtain ⟨z1, e1, g1⟩ := el_int Try.underlying3 h1
  obtain ⟨z2, e2, g2⟩ := el_int Try.underlying45 h2
  simp only [List.cons.injEq, and_true] at e1 e2
  subst e1 e2
  have b2 := bounds_u16 g2
  obtain ⟨A, len, cap, e0⟩ : ∃ A len cap, v0 = .slice A len cap := by
    rcases open_slice Try.underlying22 h0 with ⟨e3, _⟩ | ⟨a, len, cap, m', n', D, Pl, e3, _⟩
    · simp only [List.cons.injEq, and_true] at e3
      exact ⟨none, 0, 0, e3⟩
    · simp only [List.cons.injEq, and_true] at e3
      exact ⟨some a, len, cap, e3⟩
  subst e0
  obtain ⟨hm, bs, hl, hS, hg⟩ := open_rows encL (fun p : Nat => p < 256) 1 Try.underlying22 (by kernel_rfl) (fun _ => rfl) (fun n cs y h _ => byte_elL h) h0
  rw [flat_bytesL] at hS
  exact ⟨A, len, cap, bs, z1, z2.toNat, by rw [show ((z2.toNat : Nat) : Int) = z2 from by omega], hl, hm, hS, hg, open_capL Try.underlying22 h0, by omega⟩
end Go.Proofs.Ytmmehaghcfdjdaa
