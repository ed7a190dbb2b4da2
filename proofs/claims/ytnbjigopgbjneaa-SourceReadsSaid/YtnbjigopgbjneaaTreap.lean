/- Contract of merge. -/
import Derived.Test.YtnbjigopgbjneaaNode
import Derived.Test.YtnbjigopgbjneaaOpen
import Derived.Deep.RegionWith
namespace Go.Proofs.Ytnbjigopgbjneaa
open Go.RowKit
set_option linter.unusedVariables false

/-- A tree of these spans is handed back; nothing that was there has changed. -/
def MergeTo (w : World) (l : List Sp) (e : Ending) (w' : World) : Prop :=
  ∃ v t, e = .returned (.pointer v) ∧ At w' t v ∧ flat t = l ∧ Chg NoS w w'

theorem at_new {w : World} {y : Sp} {l r : Tr} {p q : Option Addr} (hl : At w l p) (hr : At w r q) :
    At (w.alloc (.cells #[.int .i64 y.1, .int .i64 y.2, .pointer p, .pointer q] 83)) (.node y l r) (some ⟨w.heap.size, 0, none⟩) :=
  ⟨_, p, q, rfl, Blk.new _ _ _, hl.no ((Chg.refl _ _).alloc _), hr.no ((Chg.refl _ _).alloc _)⟩

set_option maxHeartbeats 1000000 in
theorem merge_any : ∀ (n : Nat) (a b : Tr) (va vb : Option Addr) (w : World), sizeT a + sizeT b ≤ n → At w a va → At w b vb →
    Calls Try.prog 41 #[.pointer va, .pointer vb] w (MergeTo w (flat a ++ flat b)) := by
  intro n
  induction n with
  | zero =>
    intro a b va vb w hn ha hb
    rcases a with _ | ⟨y, l, r⟩
    · rcases b with _ | ⟨y, l, r⟩
      · have e1 : va = none := ha
        have e2 : vb = none := hb
        subst e1 e2
        go_enter Try.func41, Try.ntmps41
        go_wp2_with fail
        go_ret
        exact ⟨none, .leaf, rfl, rfl, rfl, Chg.refl _ _⟩
      · simp [sizeT] at hn
    · simp [sizeT] at hn
  | succ n ih =>
    intro a b va vb w hn ha hb
    rcases a with _ | ⟨y, l, r⟩
    · have e1 : va = none := ha
      subst e1
      have HB := keepf hb
      clear hb ha
      go_enter Try.func41, Try.ntmps41
      go_wp2_with fail
      go_ret
      exact ⟨vb, b, rfl, HB.out, rfl, Chg.refl _ _⟩
    · obtain ⟨ba, pa, qa, rfl, hba, hal, har⟩ := ha
      rcases b with _ | ⟨z, s, t⟩
      · have e2 : vb = none := hb
        subst e2
        have HA := keepf (show At w (.node y l r) (some ⟨ba, 0, none⟩) from ⟨ba, pa, qa, rfl, hba, hal, har⟩)
        clear hba hal har hb
        go_enter Try.func41, Try.ntmps41
        go_wp2_with fail
        go_ret
        exact ⟨_, _, rfl, HA.out, by simp [flat], Chg.refl _ _⟩
      · obtain ⟨bb, pb, qb, rfl, hbb, hbl, hbr⟩ := hb
        have a2 := hba.cell 2
        have a3 := hba.cell 3
        have b2 := hbb.cell 2
        have b3 := hbb.cell 3
        simp at a2 a3 b2 b3
        have HBA := keepf hba
        have HBB := keepf hbb
        have HA := keepf (show At w (.node y l r) (some ⟨ba, 0, none⟩) from ⟨ba, pa, qa, rfl, hba, hal, har⟩)
        have HB := keepf (show At w (.node z s t) (some ⟨bb, 0, none⟩) from ⟨bb, pb, qb, rfl, hbb, hbl, hbr⟩)
        have HAL := keepf hal
        have HAR := keepf har
        have HBL := keepf hbl
        have HBR := keepf hbr
        have J6 := keepf (ih r (.node z s t) qa (some ⟨bb, 0, none⟩) w.drew (by simp [sizeT] at hn ⊢; omega) (har.no (Chg.refl _ _).drew) (HB.out.no (Chg.refl _ _).drew))
        have J7 := keepf (ih (.node y l r) s (some ⟨ba, 0, none⟩) pb w.drew (by simp [sizeT] at hn ⊢; omega) (HA.out.no (Chg.refl _ _).drew) (hbl.no (Chg.refl _ _).drew))
        clear hba hbb hal har hbl hbr
        go_enter Try.func41, Try.ntmps41
        go_wp2_with fail
        refine (rank_any _ _ _ _ _ HBA.out).mono ?_
        rintro e w' ⟨r1, rfl, rfl⟩
        go_wp2_with fail
        refine (rank_any _ _ _ _ _ HBB.out).mono ?_
        rintro e w' ⟨r2, rfl, rfl⟩
        go_wp2_with fail
        · go_region_with (first
            | (go_at_call 41; refine J6.out.mono ?_; intro e w1 hm; obtain ⟨v, tt, rfl, hT, hF, hC⟩ := hm; have k1 := (hC.cell (p := ⟨ba, 2, none⟩) (by exact cell_lt a2) (fun h => h)).trans a2; have HT := keepf hT; have HF := keepf hF; have HC := keepf hC; clear hT hF hC)
            | (go_at_call 47; refine (between_any y ba pa qa _ _ _ (HBA.out.drew.chg HC.out (fun h => h))).mono ?_; rintro e w' ⟨rfl, rfl⟩))
          all_goals
            go_wp2_with fail
            go_ret
            refine ⟨_, .node y l tt, rfl, ?_, ?_, ((Chg.refl _ _).drew.trans HC.out (fun _ _ h => h)).alloc _⟩
            · exact at_new ((HAL.out.no (Chg.refl _ _).drew).no HC.out) HT.out
            · rw [flat, HF.out]; simp [flat]
        · go_region_with (first
            | (go_at_call 41; refine J7.out.mono ?_; intro e w1 hm; obtain ⟨v, tt, rfl, hT, hF, hC⟩ := hm; have k1 := (hC.cell (p := ⟨bb, 3, none⟩) (by exact cell_lt b3) (fun h => h)).trans b3; have HT := keepf hT; have HF := keepf hF; have HC := keepf hC; clear hT hF hC)
            | (go_at_call 47; refine (between_any z bb pb qb _ _ _ (HBB.out.drew.chg HC.out (fun h => h))).mono ?_; rintro e w' ⟨rfl, rfl⟩))
          all_goals
            go_wp2_with fail
            go_ret
            refine ⟨_, .node z tt t, rfl, ?_, ?_, ((Chg.refl _ _).drew.trans HC.out (fun _ _ h => h)).alloc _⟩
            · exact at_new HT.out ((HBR.out.no (Chg.refl _ _).drew).no HC.out)
            · rw [flat, HF.out]; simp [flat]

end Go.Proofs.Ytnbjigopgbjneaa
