/- Contracts of the set's questions: tree, Upto, Has, All, Size. -/
import Derived.Test.YtnbjigopgbjneaaPutS
import Derived.Test.YtnbjigopgbjneaaOpen
import Derived.Deep.RegionHeld3
namespace Go.Proofs.Ytnbjigopgbjneaa
open Go.RowKit
set_option linter.unusedVariables false

/-- A set that may not be there has just the spans F. -/
def SetV (w : World) (v : Option Addr) (F : List Sp) : Prop := (v = none ∧ F = []) ∨ ∃ g i, v = some ⟨g, i, none⟩ ∧ SetIn w g i F

theorem SetV.form {w : World} {v : Option Addr} {F : List Sp} (h : SetV w v F) : Form F := by
  rcases h with ⟨_, rfl⟩ | ⟨g, i, _, h⟩
  · exact Form.nil
  · exact h.form

theorem SetV.no {w w' : World} {v : Option Addr} {F : List Sp} (h : SetV w v F) (hc : Chg NoS w w') : SetV w' v F := by
  rcases h with h | ⟨g, i, hv, h⟩
  · exact .inl h
  · exact .inr ⟨g, i, hv, h.no hc⟩

theorem SetAt.v {w : World} {g : Nat} {F : List Sp} (h : SetAt w g F) : SetV w (some ⟨g, 0, none⟩) F := .inr ⟨g, 0, rfl, h.in_⟩

def TreeTo (w : World) (F : List Sp) (e : Ending) (w' : World) : Prop := ∃ t o, e = .returned (.pointer o) ∧ At w t o ∧ flat t = F ∧ w = w'

theorem tree_any (v : Option Addr) (F : List Sp) (w : World) (h : SetV w v F) :
    Calls Try.prog 35 #[.pointer v] w (TreeTo w F) := by
  rcases h with ⟨rfl, rfl⟩ | ⟨g, i, rfl, T, cs, t, o, hb, hi, ha, hf, hF⟩
  · go_enter Try.func35, Try.ntmps35
    go_wp2
    go_ret
    exact ⟨.leaf, none, rfl, rfl, rfl, rfl⟩
  · have c0 := hb.cell i
    rw [hi] at c0
    have HA := keepf ha
    have HF := keepf hf
    clear hb hi ha hf hF
    go_enter Try.func35, Try.ntmps35
    go_wp2
    go_ret
    exact ⟨t, o, rfl, HA.out, HF.out, rfl⟩

theorem flat_nil {t : Tr} (h : flat t = []) : t = .leaf := by
  cases t with
  | leaf => rfl
  | node y l r => simp [flat] at h

theorem flat_one {t : Tr} {y : Sp} (h : flat t = [y]) : t = .node y .leaf .leaf := by
  cases t with
  | leaf => simp [flat] at h
  | node z l r =>
    simp [flat, List.append_eq_singleton_iff] at h
    obtain ⟨h1, rfl, h3⟩ := h
    rw [flat_nil h1, flat_nil h3]

/-- Just v is handed back; nothing that was there has changed. -/
def OnlyTo (w : World) (v : Value) (e : Ending) (w' : World) : Prop := e = .returned v ∧ Chg NoS w w'

set_option maxHeartbeats 1000000 in
theorem upto_any (v : Option Addr) (F : List Sp) (a : Int) (w : World) (h : SetV w v F) :
    Calls Try.prog 30 #[.pointer v, .int .i64 a] w (OnlyTo w (.int .i64 (uptoL F a))) := by
  have H := keepf h
  clear h
  go_enter Try.func30, Try.ntmps30
  go_wp2_with fail
  refine (tree_any v F w H.out).mono ?_
  rintro e w' ⟨t, o, rfl, ha, hf, rfl⟩
  have HP := keepf (part_any (a, a) t o w ha (by rw [hf]; exact H.out.form))
  have HF := keepf hf
  clear ha hf
  go_wp2_with fail
  refine HP.out.mono ?_
  intro e w3 hm
  obtain ⟨va, vm, vb, ta, tm, tb, rfl, hta, htm, htb, hfa, hfm, hfb, hc3⟩ := hm
  rw [HF.out] at hfm
  have HC3 := keepf hc3
  clear hta htb hfa hfb hc3 HP HF
  rcases upto_one H.out.form a with h0 | ⟨y, h1⟩
  · have hu : uptoL F a = a := by unfold uptoL; rw [h0]
    have HU := keepf hu
    rw [h0] at hfm
    obtain rfl := flat_nil hfm
    have e1 : vm = none := htm
    subst e1
    clear hfm htm h0 hu
    go_wp2_with fail
    go_ret
    exact ⟨ret_i64 HU.out.symm, HC3.out⟩
  · have hu : uptoL F a = y.2 := by unfold uptoL; rw [h1]
    have HU := keepf hu
    rw [h1] at hfm
    obtain rfl := flat_one hfm
    obtain ⟨b, p, q, rfl, hb, _, _⟩ := htm
    have c1 := hb.cell 1
    simp at c1
    clear hfm hb h1 hu
    go_wp2_with fail
    go_ret
    exact ⟨ret_i64 HU.out.symm, HC3.out⟩

def hasB (x : Sp) (F : List Sp) : Bool := emptyB x || decide (x.2 ≤ uptoL F x.1)

end Go.Proofs.Ytnbjigopgbjneaa
