/- Contract of Size. -/
import Derived.Test.YtnbjigopgbjneaaAll
namespace Go.Proofs.Ytnbjigopgbjneaa
open Go.RowKit
set_option linter.unusedVariables false

def sumR : List Sp → Int
  | [] => 0
  | y :: l => (y.2 - y.1) + sumR l

theorem sumR_snoc : ∀ (l : List Sp) (y : Sp), sumR (l ++ [y]) = sumR l + (y.2 - y.1)
  | [], y => by simp [sumR]
  | z :: l, y => by simp only [List.cons_append, sumR, sumR_snoc l y]; omega

theorem sumR_append : ∀ (l m : List Sp), sumR (l ++ m) = sumR l + sumR m
  | [], m => by simp [sumR]
  | z :: l, m => by simp only [List.cons_append, sumR, sumR_append l m]; omega

theorem sumR_le (b : Int) : ∀ (l : List Sp) (a : Int), Form l → (∀ y ∈ l, a ≤ y.1) → (∀ y ∈ l, y.2 ≤ b) → a ≤ b → 0 ≤ sumR l ∧ sumR l ≤ b - a
  | [], a, _, _, _, _ => by simp [sumR]; omega
  | y :: l, a, hF, ha, hb, hab => by
    have h1 := hF.ok y (List.mem_cons_self ..)
    have h2 := ha y (List.mem_cons_self ..)
    have h3 := hb y (List.mem_cons_self ..)
    have ih := sumR_le b l y.2 hF.tail (fun z hz => by have := hF.head z hz; omega) (fun z hz => hb z (List.mem_cons_of_mem _ hz)) (by omega)
    simp only [sumR]
    omega

theorem sumR_bd {l : List Sp} (h : Form l) : 0 ≤ sumR l ∧ sumR l ≤ 9223372036854775807 := by
  have := sumR_le 9223372036854775807 l 0 h (fun y hy => (h.ok y hy).1) (fun y hy => (h.ok y hy).2.2) (by omega)
  omega

theorem form_pre {l m : List Sp} (h : Form (l ++ m)) : Form l := h.sub (List.sublist_append_left l m)

/-- Behind the spans ys the number is how many numbers they have. -/
def SizeI (O : Nat) (w0 : World) (ys : List Sp) (W : World) : Prop := Blk W O 3 #[.int .i64 (sumR ys)] ∧ Chg (fun i => i = O) w0 W

end Go.Proofs.Ytnbjigopgbjneaa
