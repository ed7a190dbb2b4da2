/- Contracts of the set's questions: tree, Upto, Has, All, Size. -/
import Derived.Test.YtmpbmmoncelpkaaPutS
import Derived.Test.YtmpbmmoncelpkaaOpen
import Derived.Deep.RegionHeld3
namespace Go.Proofs.Ytmpbmmoncelpkaa
open Go.RowKit
set_option linter.unusedVariables false

/-- A set that may not be there has just the spans F. -/
def SetV (w : World) (v : Option Addr) (F : List Sp) : Prop := (v = none ∧ F = []) ∨ ∃ g, v = some ⟨g, 0, none⟩ ∧ SetAt w g F

theorem SetV.form {w : World} {v : Option Addr} {F : List Sp} (h : SetV w v F) : Form F := by
  rcases h with ⟨_, rfl⟩ | ⟨g, _, h⟩
  · exact Form.nil
  · exact h.form
theorem SetV.no {w w' : World} {v : Option Addr} {F : List Sp} (h : SetV w v F) (hc : Chg NoS w w') : SetV w' v F := by
  rcases h with h | ⟨g, hv, h⟩
  · exact .inl h
  · exact .inr ⟨g, hv, h.no hc⟩
theorem SetAt.v {w : World} {g : Nat} {F : List Sp} (h : SetAt w g F) : SetV w (some ⟨g, 0, none⟩) F := .inr ⟨g, rfl, h⟩

def TreeTo (w : World) (F : List Sp) (e : Ending) (w' : World) : Prop := ∃ t o, e = .returned (.pointer o) ∧ At w t o ∧ flat t = F ∧ w = w'

theorem tree_any (v : Option Addr) (F : List Sp) (w : World) (h : SetV w v F) :
    Calls Try.prog 33 #[.pointer v] w (TreeTo w F) := by
  rcases h with ⟨rfl, rfl⟩ | ⟨g, rfl, t, o, hb, ha, hf, hF⟩
  · go_enter Try.func33, Try.ntmps33
    go_wp2
    go_ret
    exact ⟨.leaf, none, rfl, rfl, rfl, rfl⟩
  · have c0 := hb.cell 0
    simp at c0
    have HA := keepf ha
    have HF := keepf hf
    clear hb ha hf hF
    go_enter Try.func33, Try.ntmps33
    go_wp2
    go_ret
    exact ⟨t, o, rfl, HA.out, HF.out, rfl⟩

theorem flat_nil {t : Tr} (h : flat t = []) : t = .leaf := by
  cases t with
  | leaf => rfl
  | node y l r => simp [flat] at h
theorem flat_one {t : Tr} {y : Sp} (h : flat t = [y]) : t = .node y .leaf .leaf := by
  cases t with
  | leaf => simp [flat] at h
  | node z l r =>
    simp [flat, List.append_eq_singleton_iff] at h
    obtain ⟨h1, rfl, h3⟩ := h
    rw [flat_nil h1, flat_nil h3]

/-- Just v is handed back; nothing that was there has changed. -/
def OnlyTo (w : World) (v : Value) (e : Ending) (w' : World) : Prop := e = .returned v ∧ Chg NoS w w'

set_option maxHeartbeats 1000000 in
theorem upto_any (v : Option Addr) (F : List Sp) (a : Int) (w : World) (h : SetV w v F) :
    Calls Try.prog 21 #[.pointer v, .int .i64 a] w (OnlyTo w (.int .i64 (uptoL F a))) := by
  have H := keepf h
  clear h
  go_enter Try.func21, Try.ntmps21
  go_wp2_with fail
  refine (tree_any v F w H.out).mono ?_
  rintro e w' ⟨t, o, rfl, ha, hf, rfl⟩
  have HP := keepf (part_any (a, a) t o w ha (by rw [hf]; exact H.out.form))
  have HF := keepf hf
  clear ha hf
  go_wp2_with fail
  refine HP.out.mono ?_
  intro e w3 hm
  obtain ⟨va, vm, vb, ta, tm, tb, rfl, hta, htm, htb, hfa, hfm, hfb, hc3⟩ := hm
  rw [HF.out] at hfm
  have HC3 := keepf hc3
  clear hta htb hfa hfb hc3 HP HF
  rcases upto_one H.out.form a with h0 | ⟨y, h1⟩
  · have hu : uptoL F a = a := by unfold uptoL; rw [h0]
    have HU := keepf hu
    rw [h0] at hfm
    obtain rfl := flat_nil hfm
    have e1 : vm = none := htm
    subst e1
    clear hfm htm h0 hu
    go_wp2_with fail
    go_ret
    exact ⟨ret_i64 HU.out.symm, HC3.out⟩
  · have hu : uptoL F a = y.2 := by unfold uptoL; rw [h1]
    have HU := keepf hu
    rw [h1] at hfm
    obtain rfl := flat_one hfm
    obtain ⟨b, p, q, rfl, hb, _, _⟩ := htm
    have c1 := hb.cell 1
    simp at c1
    clear hfm hb h1 hu
    go_wp2_with fail
    go_ret
    exact ⟨ret_i64 HU.out.symm, HC3.out⟩

def hasB (x : Sp) (F : List Sp) : Bool := emptyB x || decide (x.2 ≤ uptoL F x.1)

set_option maxHeartbeats 1000000 in
theorem has_any (v : Option Addr) (F : List Sp) (x : Sp) (w : World) (h : SetV w v F) :
    Calls Try.prog 20 #[.pointer v, encS x] w (OnlyTo w (.bool (hasB x F))) := by
  obtain ⟨x1, x2⟩ := x
  have H := keepf h
  clear h
  have HE := keepf (empty_any (x1, x2) (w.alloc (.cells #[.int .i64 x1, .int .i64 x2] 34)).drew)
  have hbx : Blk (w.alloc (.cells #[.int .i64 x1, .int .i64 x2] 34)) w.heap.size 34 #[.int .i64 x1, .int .i64 x2] := Blk.new _ _ _
  have HBX := keepf hbx
  clear hbx
  cases he : emptyB (x1, x2) with
  | true =>
    have hh : hasB (x1, x2) F = true := by simp [hasB, he]
    rw [he] at HE
    have HH := keepf hh
    clear hh he
    go_enter Try.func20, Try.ntmps20
    go_wp2_with fail
    first
      | (go_region_with (go_at_call 28; refine HE.out.mono ?_; rintro e w2 ⟨rfl, hc2⟩; have HC2 := keepf hc2; clear hc2))
      | fail "region"
    all_goals
      go_wp2_with fail
      go_ret
      exact ⟨ret_bool HH.out.symm, ((Chg.refl _ _).alloc _).drew.then_ HC2.out⟩
  | false =>
    have hh : hasB (x1, x2) F = decide (x2 ≤ uptoL F x1) := by simp [hasB, he]
    rw [he] at HE
    have HH := keepf hh
    clear hh he
    go_enter Try.func20, Try.ntmps20
    go_wp2_with fail
    first | (go_region_with (first
      | (go_at_call 28; refine HE.out.mono ?_; rintro e w2 ⟨rfl, hc2⟩; have hb2 := HBX.out.drew.chg hc2 (fun h => h); have b0 := hb2.cell 0; have b1 := hb2.cell 1; simp at b0 b1; have HB2 := keepf hb2; have HC2 := keepf (((Chg.refl NoS w).alloc (.cells #[.int .i64 x1, .int .i64 x2] 34)).drew.then_ hc2); clear hc2 hb2)
      | (go_at_call 21; refine (upto_any v F x1 _ (H.out.no HC2.out)).mono ?_; rintro e w3 ⟨rfl, hc3⟩; have b1' := (HB2.out.chg hc3 (fun h => h)).cell 1; simp at b1'; have HC3 := keepf (HC2.out.then_ hc3); clear hc3))) | fail "region"
    all_goals
      go_wp2_with fail
      go_ret
      exact ⟨ret_bool HH.out.symm, HC3.out⟩
end Go.Proofs.Ytmpbmmoncelpkaa
