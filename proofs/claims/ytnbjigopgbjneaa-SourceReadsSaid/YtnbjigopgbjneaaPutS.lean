/- Contract of Put. -/
import Derived.Test.YtnbjigopgbjneaaSplit
namespace Go.Proofs.Ytnbjigopgbjneaa
open Go.RowKit
set_option linter.unusedVariables false

theorem Chg.then_ {S : Nat → Prop} {a b c : World} (h : Chg S a b) (k : Chg NoS b c) : Chg S a c := h.trans k (fun _ _ h => h.elim)

theorem chg_set (w : World) (g i : Nat) (u : Value) : Chg (fun k => k = g) w (w.setCell ⟨g, i, none⟩ u) := (Chg.refl (fun k => k = g) w).setCell (p := ⟨g, i, none⟩) (fun _ => rfl) u

/-- The set at block g has just the spans F, in form. -/
def SetAt (w : World) (g : Nat) (F : List Sp) : Prop := ∃ t o, Blk w g 61 #[.pointer o] ∧ At w t o ∧ flat t = F ∧ Form F

theorem SetAt.chg {S : Nat → Prop} {w w' : World} {g : Nat} {F : List Sp} (h : SetAt w g F) (hc : Chg S w w') (hg : ¬ S g) (hN : NoNode S w) : SetAt w' g F := by
  obtain ⟨t, o, hb, ha, hf, hF⟩ := h
  exact ⟨t, o, hb.chg hc hg, ha.chg hc hN, hf, hF⟩

theorem SetAt.no {w w' : World} {g : Nat} {F : List Sp} (h : SetAt w g F) (hc : Chg NoS w w') : SetAt w' g F := h.chg hc (fun h => h) (noS_node w)

theorem SetAt.form {w : World} {g : Nat} {F : List Sp} (h : SetAt w g F) : Form F := h.choose_spec.choose_spec.2.2.2

theorem SetAt.lt {w : World} {g : Nat} {F : List Sp} (h : SetAt w g F) : g < w.heap.size := by
  obtain ⟨t, o, hb, _⟩ := h
  exact hb.lt

/-- Place i of block g is a set that has just the spans F, in form. -/
def SetIn (w : World) (g i : Nat) (F : List Sp) : Prop := ∃ T cs t o, Blk w g T cs ∧ cs[i]? = some (.pointer o) ∧ At w t o ∧ flat t = F ∧ Form F

theorem SetIn.no {w w' : World} {g i : Nat} {F : List Sp} (h : SetIn w g i F) (hc : Chg NoS w w') : SetIn w' g i F := by
  obtain ⟨T, cs, t, o, hb, hi, ha, hf, hF⟩ := h
  exact ⟨T, cs, t, o, hb.chg hc (fun h => h), hi, ha.no hc, hf, hF⟩

theorem SetIn.form {w : World} {g i : Nat} {F : List Sp} (h : SetIn w g i F) : Form F := by
  obtain ⟨T, cs, t, o, hb, hi, ha, hf, hF⟩ := h
  exact hF

theorem SetAt.in_ {w : World} {g : Nat} {F : List Sp} (h : SetAt w g F) : SetIn w g 0 F := by
  obtain ⟨t, o, hb, ha, hf, hF⟩ := h
  exact ⟨_, _, t, o, hb, rfl, ha, hf, hF⟩

theorem set_new (w : World) : SetAt (w.alloc (.cells #[.pointer none] 61)) w.heap.size [] := ⟨.leaf, none, Blk.new _ _ _, rfl, rfl, Form.nil⟩

/-- A block of another kind is no node's. -/
theorem noNode_of {w : World} {B : Nat} {T : TypeId} {cs : Array Value} (hb : Blk w B T cs) (hT : T ≠ 83) : NoNode (fun i => i = B) w := by
  rintro b cs' rfl h
  exact Blk.ne_ hb h hT rfl

/-- Behind the spans ys the box has what covers them all and x. -/
def PutI (x : Sp) (B : Nat) (w0 : World) (ys : List Sp) (W : World) : Prop :=
  Blk W B 55 #[.int .i64 (hull x ys).1, .int .i64 (hull x ys).2] ∧ Chg (fun i => i = B) w0 W

theorem PutI.snoc {x : Sp} {B : Nat} {w0 W : World} {ys : List Sp} {y h : Sp} (hh : hull x ys = h) (hb : Blk W B 55 #[.int .i64 (min h.1 y.1), .int .i64 (max h.2 y.2)]) (hc : Chg (fun i => i = B) w0 W) : PutI x B w0 (ys ++ [y]) W := by
  refine ⟨?_, hc⟩
  rw [hull_snoc, hh]
  exact hb

theorem put1_step (x : Sp) (B : Nat) (w0 : World) (all : List Sp) :
    StepOf 40 #[.pointer (some ⟨B, 0, none⟩)] all (PutI x B w0) := by
  rintro ys ⟨y1, y2⟩ zs W hall ⟨hb, hc⟩
  obtain ⟨h, hh⟩ : ∃ h, hull x ys = h := ⟨_, rfl⟩
  rw [hh] at hb
  obtain ⟨h1, h2⟩ := h
  have HH := keepf hh
  clear hh
  show Calls Try.prog 40 #[.agg #[.int .i64 y1, .int .i64 y2], .pointer (some ⟨B, 0, none⟩)] W _
  have c0 := hb.cell 0
  have c1 := hb.cell 1
  have f0 := hb.frozen 0
  have f1 := hb.frozen 1
  simp at c0 c1
  have hlt := hb.lt
  have HB := keepf hb
  have HC := keepf hc
  clear hb hc hall
  go_enter Try.func40, Try.ntmps40
  go_wp2
  all_goals
    go_end0
    refine ⟨rfl, PutI.snoc HH.out ?_ (((HC.out.setCell (fun _ => rfl) _).setCell (fun _ => rfl) _).alloc _)⟩
    simp only
  · rw [show min h1 y1 = y1 from by omega, show max h2 y2 = y2 from by omega]
    exact ((HB.out.set_ 0 _).set_ 1 _).alloc _
  · rw [show min h1 y1 = y1 from by omega, show max h2 y2 = h2 from by omega]
    exact ((HB.out.set_ 0 _).set_ 1 _).alloc _
  · rw [show min h1 y1 = h1 from by omega, show max h2 y2 = y2 from by omega]
    exact ((HB.out.set_ 0 _).set_ 1 _).alloc _
  · rw [show min h1 y1 = h1 from by omega, show max h2 y2 = h2 from by omega]
    exact ((HB.out.set_ 0 _).set_ 1 _).alloc _

def putF (x : Sp) (F : List Sp) : List Sp := if emptyB x then F else putL x F

/-- The span is in; nothing but the set has changed. -/
def PutTo (w : World) (g : Nat) (F : List Sp) (e : Ending) (w' : World) : Prop :=
  e = .returned (.tuple #[]) ∧ SetAt w' g F ∧ Chg (fun i => i = g) w w'

set_option maxHeartbeats 1000000 in
theorem put_any (g : Nat) (x : Sp) (F : List Sp) (w : World) (hS : SetAt w g F) (hx : x.2 ≤ 9223372036854775807) :
    Calls Try.prog 27 #[.pointer (some ⟨g, 0, none⟩), encS x] w (PutTo w g (putF x F)) := by
  obtain ⟨x1, x2⟩ := x
  have hg := hS.lt
  have HS := keepf (hS.no ((Chg.refl _ w).alloc (.cells #[.int .i64 x1, .int .i64 x2] 55)))
  have HX := keepf hx
  have hbx : Blk (w.alloc (.cells #[.int .i64 x1, .int .i64 x2] 55)) w.heap.size 55 #[.int .i64 x1, .int .i64 x2] := Blk.new _ _ _
  have HBX := keepf hbx
  clear hS hx hbx
  cases he : emptyB (x1, x2) with
  | true =>
    have he1 := empty_any (x1, x2) (w.alloc (.cells #[.int .i64 x1, .int .i64 x2] 55))
    rw [he] at he1
    have HEM := keepf he
    have HE1 := keepf he1
    clear he he1
    go_enter Try.func27, Try.ntmps27
    go_wp2_with fail
    refine HE1.out.mono ?_
    rintro e w2 ⟨rfl, hc2⟩
    have HC2 := keepf hc2
    clear hc2
    go_wp2_with fail
    go_end0
    refine ⟨rfl, ?_, (((Chg.refl _ _).alloc _).trans HC2.out (fun _ _ h => h.elim))⟩
    rw [putF, HEM.out]
    exact HS.out.no HC2.out
  | false =>
    have he1 := empty_any (x1, x2) (w.alloc (.cells #[.int .i64 x1, .int .i64 x2] 55))
    rw [he] at he1
    have HEM := keepf he
    have HE1 := keepf he1
    clear he he1
    go_enter Try.func27, Try.ntmps27
    go_wp2_with fail
    refine HE1.out.mono ?_
    rintro e w2 ⟨rfl, hc2⟩
    obtain ⟨t, o, hb, ha, hf, hF⟩ := HS.out.no hc2
    have hbx2 := HBX.out.chg hc2 (fun h => h)
    have s0 := hb.cell 0
    have b0 := hbx2.cell 0
    have b1 := hbx2.cell 1
    simp at s0 b0 b1
    have HC2 := keepf hc2
    have HB := keepf hb
    have HA := keepf ha
    have HFL := keepf hf
    have HF := keepf hF
    have HP := keepf (part_any (x1, x2) t o w2.drew (ha.no (Chg.refl _ _).drew) (by rw [hf]; exact hF))
    have HBX2 := keepf hbx2
    clear hc2 hb ha hf hF hbx2
    go_wp2_with fail
    go_region_with (go_at_call 36; refine HP.out.mono ?_; intro e w3 hm; obtain ⟨va, vm, vb, ta, tm, tb, rfl, hta, htm, htb, hfa, hfm, hfb, hc3⟩ := hm; have HTA := keepf hta; have HTM := keepf htm; have HTB := keepf htb; have HFA := keepf hfa; have HFM := keepf hfm; have HFB := keepf hfb; have HC3 := keepf hc3; clear hta htm htb hfa hfm hfb hc3)
    all_goals
      have HCa := keepf (show Chg NoS w2 w3 from (Chg.refl _ w2).drew.trans HC3.out (fun _ _ h => h))
      have HB3 := keepf (HB.out.chg HCa.out (fun h => h))
      have hbx3 := HBX2.out.drew.chg HC3.out (fun h => h)
      have e31 : ∀ args w, (callFunc 40 args).run Try.prog w = .ok (.enter 40 args) w := enters_of Try.func40 (by kernel_rfl) rfl
      have HE := keepf (each_any _ _ e31 (flat tm) (PutI (x1, x2) w.heap.size w3) (fun i => i = w.heap.size) w3 (fun _ _ h => h.2) (noNode_of hbx3 (by decide)) (put1_step (x1, x2) w.heap.size w3 (flat tm)) tm vm w3 [] [] HTM.out (by simp) ⟨hbx3, Chg.refl _ _⟩)
      have HNN := keepf (noNode_of hbx3 (by decide))
      clear e31 hbx3 s0 b0 b1
      go_wp2_with fail
      refine HE.out.mono ?_
      rintro e w4 ⟨rfl, hi4⟩
      obtain ⟨h, hh⟩ : ∃ h, hull (x1, x2) (flat tm) = h := ⟨_, rfl⟩
      rw [List.nil_append] at hi4
      obtain ⟨hb4, hc4⟩ := hi4
      rw [hh] at hb4
      obtain ⟨h1, h2⟩ := h
      have b0 := hb4.cell 0
      have b1 := hb4.cell 1
      simp at b0 b1
      have HH := keepf hh
      have HTA4 := keepf (HTA.out.chg hc4 HNN.out)
      have HTB4 := keepf (HTB.out.chg hc4 HNN.out)
      have HC4 := keepf hc4
      clear hh hb4 hc4
      have HM := keepf (merge_any _ ta (.node (h1, h2) .leaf .leaf) va (some ⟨w4.heap.size, 0, none⟩) _ (Nat.le_refl _) (HTA4.out.no ((Chg.refl _ _).alloc _)) (at_new rfl rfl))
      have HTB5 := keepf (HTB4.out.no ((Chg.refl _ w4).alloc (.cells #[.int .i64 h1, .int .i64 h2, .pointer none, .pointer none] 83)))
      go_wp2_with fail
      refine HM.out.mono ?_
      intro e w6 hm
      obtain ⟨v6, t6, rfl, hT6, hF6, hC6⟩ := hm
      have HT6 := keepf hT6
      have HF6 := keepf hF6
      have HC6 := keepf hC6
      clear hT6 hF6 hC6
      go_wp2_with fail
      refine (merge_any _ t6 tb v6 vb w6 (Nat.le_refl _) HT6.out (HTB5.out.no HC6.out)).mono ?_
      intro e w7 hm
      obtain ⟨v7, t7, rfl, hT7, hF7, hC7⟩ := hm
      have hc47 : Chg (fun i => i = w.heap.size) w3 w7 := ((HC4.out.alloc _).then_ HC6.out).then_ hC7
      have hlt2 := HBX2.out.lt
      have hB7 := HB3.out.chg hc47 (by omega)
      have s0 := hB7.cell 0
      have f0 := hB7.frozen 0
      simp at s0
      have HB7 := keepf hB7
      have HT7 := keepf hT7
      have HF7 := keepf hF7
      have HC47 := keepf hc47
      clear hT7 hF7 hC7 hc47 hB7 hlt2
      go_wp2_with fail
      go_end0
      have hgb := HB.out.lt
      have e7 : flat t7 = putF (x1, x2) F := by
        rw [HF7.out, HF6.out, HFA.out, HFB.out, putF, HEM.out, HFL.out, putL]
        rw [HFM.out, HFL.out] at HH
        simp [flat, HH.out]
      have hx0 : 0 ≤ x1 ∧ x1 < x2 := by
        have := HEM.out
        simp [emptyB] at this
        omega
      refine ⟨rfl, ⟨t7, v7, HB7.out.set_ 0 _, HT7.out.chg (chg_set _ _ _ _) (noNode_of HB7.out (by decide)), e7, ?_⟩, ?_⟩
      · rw [putF, HEM.out]
        exact put_form HF.out hx0.1 hx0.2 HX.out
      · have k1 : Chg (fun i => i = g) w w3 := (((Chg.refl _ _).alloc _).then_ HC2.out).then_ HCa.out
        exact (k1.trans HC47.out (fun i h1 h2 => by omega)).trans (chg_set _ _ _ _) (fun _ _ h => h)

end Go.Proofs.Ytnbjigopgbjneaa
