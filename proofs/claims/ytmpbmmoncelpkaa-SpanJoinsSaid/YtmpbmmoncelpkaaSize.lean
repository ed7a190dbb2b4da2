/- Contract of Size. -/
import Derived.Test.YtmpbmmoncelpkaaAll
namespace Go.Proofs.Ytmpbmmoncelpkaa
open Go.RowKit
set_option linter.unusedVariables false

def sumR : List Sp → Int
  | [] => 0
  | y :: l => (y.2 - y.1) + sumR l
theorem sumR_snoc : ∀ (l : List Sp) (y : Sp), sumR (l ++ [y]) = sumR l + (y.2 - y.1)
  | [], y => by simp [sumR]
  | z :: l, y => by simp only [List.cons_append, sumR, sumR_snoc l y]; omega
theorem sumR_append : ∀ (l m : List Sp), sumR (l ++ m) = sumR l + sumR m
  | [], m => by simp [sumR]
  | z :: l, m => by simp only [List.cons_append, sumR, sumR_append l m]; omega
theorem sumR_le (b : Int) : ∀ (l : List Sp) (a : Int), Form l → (∀ y ∈ l, a ≤ y.1) → (∀ y ∈ l, y.2 ≤ b) → a ≤ b → 0 ≤ sumR l ∧ sumR l ≤ b - a
  | [], a, _, _, _, _ => by simp [sumR]; omega
  | y :: l, a, hF, ha, hb, hab => by
    have h1 := hF.ok y (List.mem_cons_self ..)
    have h2 := ha y (List.mem_cons_self ..)
    have h3 := hb y (List.mem_cons_self ..)
    have ih := sumR_le b l y.2 hF.tail (fun z hz => by have := hF.head z hz; omega) (fun z hz => hb z (List.mem_cons_of_mem _ hz)) (by omega)
    simp only [sumR]
    omega
theorem sumR_bd {l : List Sp} (h : Form l) : 0 ≤ sumR l ∧ sumR l ≤ 9223372036854775807 := by
  have := sumR_le 9223372036854775807 l 0 h (fun y hy => (h.ok y hy).1) (fun y hy => (h.ok y hy).2.2) (by omega)
  omega
theorem form_pre {l m : List Sp} (h : Form (l ++ m)) : Form l := h.sub (List.sublist_append_left l m)

/-- Behind the spans ys the number is how many numbers they have. -/
def SizeI (O : Nat) (w0 : World) (ys : List Sp) (W : World) : Prop := Blk W O 3 #[.int .i64 (sumR ys)] ∧ Chg (fun i => i = O) w0 W

theorem size1_step (O : Nat) (w0 : World) (all : List Sp) (hF : Form all) :
    StepOf 35 #[.pointer (some ⟨O, 0, none⟩)] all (SizeI O w0) := by
  rintro ys ⟨y1, y2⟩ zs W hall ⟨hb, hc⟩
  rw [hall] at hF
  have s1 := sumR_bd (form_pre hF)
  have s2 := sumR_bd (l := ys ++ [(y1, y2)]) (form_pre (m := zs) (by simpa using hF))
  have y0 := hF.ok (y1, y2) (by simp)
  rw [sumR_snoc] at s2
  have e := sumR_snoc ys (y1, y2)
  simp only at s2 y0 e
  generalize hs : sumR ys = s at s1 s2 e hb
  obtain ⟨s10, s11⟩ := s1
  obtain ⟨s20, s21⟩ := s2
  obtain ⟨y00, y01, y02⟩ := y0
  show Calls Try.prog 35 #[.agg #[.int .i64 y1, .int .i64 y2], .pointer (some ⟨O, 0, none⟩)] W _
  have c0 := hb.cell 0
  have f0 := hb.frozen 0
  simp at c0
  have hlt := hb.lt
  have HB := keepf hb
  have HC := keepf hc
  have HE := keepf e
  clear hb hc hall hF hs e
  go_enter Try.func35, Try.ntmps35
  go_wp2
  go_end0
  refine ⟨rfl, ?_, (HC.out.setCell (p := ⟨O, 0, none⟩) (fun _ => rfl) _).alloc _⟩
  rw [HE.out]
  exact (HB.out.set_ 0 _).alloc _

set_option maxHeartbeats 1000000 in
theorem size_any (v : Option Addr) (F : List Sp) (w : World) (h : SetV w v F) :
    Calls Try.prog 19 #[.pointer v] w (OnlyTo w (.int .i64 (sumR F))) := by
  have HFo := keepf h.form
  have H := keepf (h.no ((Chg.refl _ w).alloc (.cells #[.int .i64 0] 3)))
  clear h
  have e35 : ∀ args w, (callFunc 35 args).run Try.prog w = .ok (.enter 35 args) w := enters_of Try.func35 (by kernel_rfl) rfl
  go_enter Try.func19, Try.ntmps19
  go_wp2_with fail
  refine (tree_any v F _ H.out).mono ?_
  rintro e w' ⟨t, o, rfl, ha, hf, rfl⟩
  have hb : Blk (w.alloc (.cells #[.int .i64 0] 3)) w.heap.size 3 #[.int .i64 0] := Blk.new _ _ _
  have HE := keepf (each_any _ _ e35 (flat t) (SizeI w.heap.size (w.alloc (.cells #[.int .i64 0] 3))) (fun i => i = w.heap.size) (w.alloc (.cells #[.int .i64 0] 3)) (fun _ _ h => h.2) (noNode_of hb (by decide)) (size1_step _ _ _ (by rw [hf]; exact HFo.out)) t o _ [] [] ha (by simp) ⟨hb, Chg.refl _ _⟩)
  have HF := keepf hf
  clear e35 ha hf hb
  go_wp2_with fail
  refine HE.out.mono ?_
  rintro e w2 ⟨rfl, hb, hc⟩
  rw [List.nil_append, HF.out] at hb
  have c0 := hb.cell 0
  simp at c0
  have HC := keepf hc
  clear hb hc
  go_wp2_with fail
  go_ret
  exact ⟨rfl, ((Chg.refl NoS w).alloc _).trans HC.out (fun i h1 h2 => by omega)⟩
end Go.Proofs.Ytmpbmmoncelpkaa
