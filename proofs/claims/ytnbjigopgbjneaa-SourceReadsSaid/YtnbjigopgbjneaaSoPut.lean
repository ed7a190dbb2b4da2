/- Put of a set that lies in another block. -/
import Derived.Test.YtnbjigopgbjneaaPutS
namespace Go.Proofs.Ytnbjigopgbjneaa
open Go.RowKit
set_option linter.unusedVariables false

/-- Place k of block g, whose cells are cs, is a set that has just the spans F, in form. -/
def SetC (w : World) (g k : Nat) (T : TypeId) (cs : Array Value) (F : List Sp) : Prop := ∃ t o, Blk w g T cs ∧ cs[k]? = some (.pointer o) ∧ At w t o ∧ flat t = F ∧ Form F

theorem SetC.no {w w' : World} {g k : Nat} {T : TypeId} {cs : Array Value} {F : List Sp} (h : SetC w g k T cs F) (hc : Chg NoS w w') : SetC w' g k T cs F := by
  obtain ⟨t, o, hb, hi, ha, hf, hF⟩ := h
  exact ⟨t, o, hb.chg hc (fun h => h), hi, ha.no hc, hf, hF⟩

theorem SetC.lt {w : World} {g k : Nat} {T : TypeId} {cs : Array Value} {F : List Sp} (h : SetC w g k T cs F) : g < w.heap.size := by
  obtain ⟨t, o, hb, _⟩ := h
  exact hb.lt

theorem SetC.in_ {w : World} {g k : Nat} {T : TypeId} {cs : Array Value} {F : List Sp} (h : SetC w g k T cs F) : SetIn w g k F := by
  obtain ⟨t, o, hb, hi, ha, hf, hF⟩ := h
  exact ⟨T, cs, t, o, hb, hi, ha, hf, hF⟩

theorem get_set_at {cs : Array Value} {k : Nat} {u : Value} (h : cs[k]? = some u) (v : Value) : (cs.setIfInBounds k v)[k]? = some v := by
  have := (Array.getElem?_eq_some_iff.1 h).1
  rw [Array.getElem?_setIfInBounds, if_pos rfl, if_pos this]

theorem set_same {cs : Array Value} {k : Nat} {u : Value} (h : cs[k]? = some u) : cs.setIfInBounds k u = cs := by
  apply Array.ext_getElem?
  intro i
  rw [Array.getElem?_setIfInBounds]
  split
  · rename_i e
    subst e
    have := (Array.getElem?_eq_some_iff.1 h).1
    rw [if_pos this, h]
  · rfl

/-- The span is in; nothing but the set's cell has changed. -/
def PutC (w : World) (g k : Nat) (T : TypeId) (cs : Array Value) (F : List Sp) (e : Ending) (w' : World) : Prop :=
  e = .returned (.tuple #[]) ∧ (∃ o, SetC w' g k T (cs.setIfInBounds k (.pointer o)) F) ∧ Chg (fun i => i = g) w w'

theorem SetC.same {w : World} {g k : Nat} {T : TypeId} {cs : Array Value} {F : List Sp} (h : SetC w g k T cs F) : ∃ o, SetC w g k T (cs.setIfInBounds k (.pointer o)) F := by
  obtain ⟨t, o, hb, hi, hr⟩ := h
  exact ⟨o, t, o, by rw [set_same hi]; exact hb, by rw [set_same hi]; exact hi, hr⟩

set_option maxHeartbeats 1000000 in
theorem put_in (g k : Nat) (T : TypeId) (cs : Array Value) (x : Sp) (F : List Sp) (w : World) (hT : T ≠ 83) (hS : SetC w g k T cs F) (hx : x.2 ≤ 9223372036854775807) :
    Calls Try.prog 27 #[.pointer (some ⟨g, k, none⟩), encS x] w (PutC w g k T cs (putF x F)) := by
  obtain ⟨x1, x2⟩ := x
  have hg := hS.lt
  have HTN := keepf hT
  clear hT
  have HS := keepf (hS.no ((Chg.refl _ w).alloc (.cells #[.int .i64 x1, .int .i64 x2] 55)))
  have HX := keepf hx
  have hbx : Blk (w.alloc (.cells #[.int .i64 x1, .int .i64 x2] 55)) w.heap.size 55 #[.int .i64 x1, .int .i64 x2] := Blk.new _ _ _
  have HBX := keepf hbx
  clear hS hx hbx
  cases he : emptyB (x1, x2) with
  | true =>
    have he1 := empty_any (x1, x2) (w.alloc (.cells #[.int .i64 x1, .int .i64 x2] 55))
    rw [he] at he1
    have HEM := keepf he
    have HE1 := keepf he1
    clear he he1
    go_enter Try.func27, Try.ntmps27
    go_wp2_with fail
    refine HE1.out.mono ?_
    rintro e w2 ⟨rfl, hc2⟩
    have HC2 := keepf hc2
    clear hc2
    go_wp2_with fail
    go_end0
    refine ⟨rfl, ?_, (((Chg.refl _ _).alloc _).trans HC2.out (fun _ _ h => h.elim))⟩
    rw [putF, HEM.out]
    exact (HS.out.no HC2.out).same
  | false =>
    have he1 := empty_any (x1, x2) (w.alloc (.cells #[.int .i64 x1, .int .i64 x2] 55))
    rw [he] at he1
    have HEM := keepf he
    have HE1 := keepf he1
    clear he he1
    go_enter Try.func27, Try.ntmps27
    go_wp2_with fail
    refine HE1.out.mono ?_
    rintro e w2 ⟨rfl, hc2⟩
    obtain ⟨t, o, hb, hk, ha, hf, hF⟩ := HS.out.no hc2
    have hbx2 := HBX.out.chg hc2 (fun h => h)
    have s0 := hb.cell k
    rw [hk] at s0
    have HK := keepf hk
    have b0 := hbx2.cell 0
    have b1 := hbx2.cell 1
    simp at b0 b1
    clear hk
    have HC2 := keepf hc2
    have HB := keepf hb
    have HA := keepf ha
    have HFL := keepf hf
    have HF := keepf hF
    have HP := keepf (part_any (x1, x2) t o w2.drew (ha.no (Chg.refl _ _).drew) (by rw [hf]; exact hF))
    have HBX2 := keepf hbx2
    clear hc2 hb ha hf hF hbx2
    go_wp2_with fail
    go_region_with (go_at_call 36; refine HP.out.mono ?_; intro e w3 hm; obtain ⟨va, vm, vb, ta, tm, tb, rfl, hta, htm, htb, hfa, hfm, hfb, hc3⟩ := hm; have HTA := keepf hta; have HTM := keepf htm; have HTB := keepf htb; have HFA := keepf hfa; have HFM := keepf hfm; have HFB := keepf hfb; have HC3 := keepf hc3; clear hta htm htb hfa hfm hfb hc3)
    all_goals
      have HCa := keepf (show Chg NoS w2 w3 from (Chg.refl _ w2).drew.trans HC3.out (fun _ _ h => h))
      have HB3 := keepf (HB.out.chg HCa.out (fun h => h))
      have hbx3 := HBX2.out.drew.chg HC3.out (fun h => h)
      have e31 : ∀ args w, (callFunc 40 args).run Try.prog w = .ok (.enter 40 args) w := enters_of Try.func40 (by kernel_rfl) rfl
      have HE := keepf (each_any _ _ e31 (flat tm) (PutI (x1, x2) w.heap.size w3) (fun i => i = w.heap.size) w3 (fun _ _ h => h.2) (noNode_of hbx3 (by decide)) (put1_step (x1, x2) w.heap.size w3 (flat tm)) tm vm w3 [] [] HTM.out (by simp) ⟨hbx3, Chg.refl _ _⟩)
      have HNN := keepf (noNode_of hbx3 (by decide))
      clear e31 hbx3 s0 b0 b1
      go_wp2_with fail
      refine HE.out.mono ?_
      rintro e w4 ⟨rfl, hi4⟩
      obtain ⟨h, hh⟩ : ∃ h, hull (x1, x2) (flat tm) = h := ⟨_, rfl⟩
      rw [List.nil_append] at hi4
      obtain ⟨hb4, hc4⟩ := hi4
      rw [hh] at hb4
      obtain ⟨h1, h2⟩ := h
      have b0 := hb4.cell 0
      have b1 := hb4.cell 1
      simp at b0 b1
      have HH := keepf hh
      have HTA4 := keepf (HTA.out.chg hc4 HNN.out)
      have HTB4 := keepf (HTB.out.chg hc4 HNN.out)
      have HC4 := keepf hc4
      clear hh hb4 hc4
      have HM := keepf (merge_any _ ta (.node (h1, h2) .leaf .leaf) va (some ⟨w4.heap.size, 0, none⟩) _ (Nat.le_refl _) (HTA4.out.no ((Chg.refl _ _).alloc _)) (at_new rfl rfl))
      have HTB5 := keepf (HTB4.out.no ((Chg.refl _ w4).alloc (.cells #[.int .i64 h1, .int .i64 h2, .pointer none, .pointer none] 83)))
      go_wp2_with fail
      refine HM.out.mono ?_
      intro e w6 hm
      obtain ⟨v6, t6, rfl, hT6, hF6, hC6⟩ := hm
      have HT6 := keepf hT6
      have HF6 := keepf hF6
      have HC6 := keepf hC6
      clear hT6 hF6 hC6
      go_wp2_with fail
      refine (merge_any _ t6 tb v6 vb w6 (Nat.le_refl _) HT6.out (HTB5.out.no HC6.out)).mono ?_
      intro e w7 hm
      obtain ⟨v7, t7, rfl, hT7, hF7, hC7⟩ := hm
      have hc47 : Chg (fun i => i = w.heap.size) w3 w7 := ((HC4.out.alloc _).then_ HC6.out).then_ hC7
      have hlt2 := HBX2.out.lt
      have hB7 := HB3.out.chg hc47 (by omega)
      have s0 := hB7.cell k
      have f0 := hB7.frozen k
      rw [HK.out] at s0
      have HB7 := keepf hB7
      have HT7 := keepf hT7
      have HF7 := keepf hF7
      have HC47 := keepf hc47
      clear hT7 hF7 hC7 hc47 hB7 hlt2
      go_wp2_with fail
      go_end0
      have hgb := HB.out.lt
      have e7 : flat t7 = putF (x1, x2) F := by
        rw [HF7.out, HF6.out, HFA.out, HFB.out, putF, HEM.out, HFL.out, putL]
        rw [HFM.out, HFL.out] at HH
        simp [flat, HH.out]
      have hx0 : 0 ≤ x1 ∧ x1 < x2 := by
        have := HEM.out
        simp [emptyB] at this
        omega
      refine ⟨rfl, ⟨v7, t7, v7, HB7.out.set_ k _, get_set_at HK.out _, HT7.out.chg (chg_set _ _ _ _) (noNode_of HB7.out HTN.out), e7, ?_⟩, ?_⟩
      · rw [putF, HEM.out]
        exact put_form HF.out hx0.1 hx0.2 HX.out
      · have k1 : Chg (fun i => i = g) w w3 := (((Chg.refl _ _).alloc _).then_ HC2.out).then_ HCa.out
        exact (k1.trans HC47.out (fun i h1 h2 => by omega)).trans (chg_set _ _ _ _) (fun _ _ h => h)

end Go.Proofs.Ytnbjigopgbjneaa
