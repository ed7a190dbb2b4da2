/- Contracts of split, part and each. -/
import Derived.Test.YtnbjigopgbjneaaTreap
import Derived.Shelf.Abstract
namespace Go.Proofs.Ytnbjigopgbjneaa
open Go.RowKit
set_option linter.unusedVariables false

/-- Two trees of these spans are handed back; nothing that was there has changed. -/
def SplitTo (w : World) (A B : List Sp) (e : Ending) (w' : World) : Prop :=
  ∃ va vb ta tb, e = .returned (.tuple #[.pointer va, .pointer vb]) ∧ At w' ta va ∧ At w' tb vb ∧ flat ta = A ∧ flat tb = B ∧ Chg NoS w w'

/-- The function value tells p of any span, and changes nothing that was there. -/
def PredOf (g : Nat) (lb : Array Value) (p : Sp → Bool) (w0 : World) : Prop :=
  ∀ (y : Sp) (W : World), Chg NoS w0 W → Calls Try.prog g (#[encS y] ++ lb) W fun e w' => e = .returned (.bool (p y)) ∧ Chg NoS W w'

set_option maxHeartbeats 1000000 in
theorem split_any (g : Nat) (lb : Array Value) (eg : ∀ args w, (callFunc g args).run Try.prog w = .ok (.enter g args) w) (p : Sp → Bool) (w0 : World) (hp : PredOf g lb p w0) :
    ∀ (t : Tr) (v : Option Addr) (w : World), Chg NoS w0 w → At w t v → Anti p (flat t) →
    Calls Try.prog 43 #[.pointer v, .func (.func g) #[] lb] w (SplitTo w ((flat t).filter p) ((flat t).filter fun z => !p z)) := by
  intro t
  induction t with
  | leaf =>
    intro v w hc ha _
    have e1 : v = none := ha
    subst e1
    clear ha
    go_enter Try.func43, Try.ntmps43
    go_wp2_with fail
    go_ret2
    exact ⟨none, none, .leaf, .leaf, rfl, rfl, rfl, rfl, rfl, Chg.refl _ _⟩
  | node y l r ihl ihr =>
    intro v w hc ha hA
    obtain ⟨b, pl, pr, rfl, hb, hl, hr⟩ := ha
    have hcall := hp y w hc
    have c0 := hb.cell 0
    have c1 := hb.cell 1
    simp at c0 c1
    have HB := keepf hb
    have HL := keepf hl
    have HR := keepf hr
    have HC := keepf hc
    have HAN := keepf hA
    clear hb hl hr hc hA
    cases hq : p y with
    | true =>
      rw [hq] at hcall
      have HQ := keepf hq
      clear hq
      go_enter Try.func43, Try.ntmps43
      go_wp2_with (go_at_fn g; refine hcall.mono ?_; rintro e w1 ⟨rfl, hc1⟩; have d2 := (HB.out.chg hc1 (fun h => h)).cell 2; have d3 := (HB.out.chg hc1 (fun h => h)).cell 3; simp at d2 d3; have HC1 := keepf hc1; clear hc1 hcall c0 c1)
      refine (ihr pr w1 (HC.out.trans HC1.out (fun _ _ h => h)) (HR.out.no HC1.out) (anti_right HAN.out)).mono ?_
      intro e w2 hm
      obtain ⟨va, vb, ta, tb, rfl, hta, htb, hfa, hfb, hc2⟩ := hm
      have hc12 := HC1.out.trans hc2 (fun _ _ h => h)
      have hb2 := HB.out.chg hc12 (fun h => h)
      have d2' := hb2.cell 2
      simp at d2'
      have HB2 := keepf hb2
      have HTA := keepf hta
      have HTB := keepf htb
      have HFA := keepf hfa
      have HFB := keepf hfb
      have HC2 := keepf hc12
      clear hta htb hfa hfb hc2 hc12 hb2 d2 d3
      go_wp2_with fail
      refine (between_any y b pl pr _ _ _ HB2.out).mono ?_
      rintro e w3 ⟨rfl, rfl⟩
      go_wp2_with fail
      go_ret2
      have e1 := anti_yes HAN.out HQ.out
      refine ⟨_, _, .node y l ta, tb, rfl, at_new (HL.out.no HC2.out) HTA.out, HTB.out.no ((Chg.refl _ _).alloc _), ?_, ?_, HC2.out.alloc _⟩
      · rw [flat, flat, HFA.out, List.filter_append, List.filter_cons, if_pos HQ.out, e1.1]
      · rw [flat, HFB.out, List.filter_append, List.filter_cons, if_neg (by simp [HQ.out]), e1.2]; rfl
    | false =>
      rw [hq] at hcall
      have HQ := keepf hq
      clear hq
      go_enter Try.func43, Try.ntmps43
      go_wp2_with (go_at_fn g; refine hcall.mono ?_; rintro e w1 ⟨rfl, hc1⟩; have d2 := (HB.out.chg hc1 (fun h => h)).cell 2; have d3 := (HB.out.chg hc1 (fun h => h)).cell 3; simp at d2 d3; have HC1 := keepf hc1; clear hc1 hcall c0 c1)
      refine (ihl pl w1 (HC.out.trans HC1.out (fun _ _ h => h)) (HL.out.no HC1.out) (anti_left HAN.out)).mono ?_
      intro e w2 hm
      obtain ⟨va, vb, ta, tb, rfl, hta, htb, hfa, hfb, hc2⟩ := hm
      have hc12 := HC1.out.trans hc2 (fun _ _ h => h)
      have hb2 := HB.out.chg hc12 (fun h => h)
      have d3' := hb2.cell 3
      simp at d3'
      have HB2 := keepf hb2
      have HTA := keepf hta
      have HTB := keepf htb
      have HFA := keepf hfa
      have HFB := keepf hfb
      have HC2 := keepf hc12
      clear hta htb hfa hfb hc2 hc12 hb2 d2 d3
      go_wp2_with fail
      refine (between_any y b pl pr _ _ _ HB2.out).mono ?_
      rintro e w3 ⟨rfl, rfl⟩
      go_wp2_with fail
      go_ret2
      have e1 := anti_no HAN.out HQ.out
      refine ⟨_, _, ta, .node y tb r, rfl, HTA.out.no ((Chg.refl _ _).alloc _), at_new HTB.out (HR.out.no HC2.out), ?_, ?_, HC2.out.alloc _⟩
      · rw [flat, HFA.out, List.filter_append, List.filter_cons, if_neg (by simp [HQ.out]), e1.1, List.append_nil]
      · rw [flat, flat, HFB.out, List.filter_append, List.filter_cons, if_pos (by simp [HQ.out]), e1.2]

/-- The two questions that part asks. -/
theorem part1_any (x : Sp) (B : Nat) (w0 : World) (hB : Blk w0 B 55 #[.int .i64 x.1, .int .i64 x.2]) : PredOf 44 #[.pointer (some ⟨B, 0, none⟩)] (pA x) w0 := by
  intro y W hc
  have c0 := (hB.chg hc (fun h => h)).cell 0
  simp at c0
  obtain ⟨y1, y2⟩ := y
  show Calls Try.prog 44 #[.agg #[.int .i64 y1, .int .i64 y2], .pointer (some ⟨B, 0, none⟩)] W _
  have c0' : (W.alloc (.cells #[.int .i64 y1, .int .i64 y2] 55)).cell? ⟨B, 0, none⟩ = some (.int .i64 x.1) := ((hB.chg hc (fun h => h)).alloc _).cell 0
  clear hB hc
  go_enter Try.func44, Try.ntmps44
  go_wp2
  go_ret
  exact ⟨rfl, (Chg.refl _ _).alloc _⟩

theorem part2_any (x : Sp) (B : Nat) (w0 : World) (hB : Blk w0 B 55 #[.int .i64 x.1, .int .i64 x.2]) : PredOf 45 #[.pointer (some ⟨B, 0, none⟩)] (pB x) w0 := by
  intro y W hc
  have c1 := (hB.chg hc (fun h => h)).cell 1
  simp at c1
  obtain ⟨y1, y2⟩ := y
  show Calls Try.prog 45 #[.agg #[.int .i64 y1, .int .i64 y2], .pointer (some ⟨B, 0, none⟩)] W _
  have c1' : (W.alloc (.cells #[.int .i64 y1, .int .i64 y2] 55)).cell? ⟨B, 1, none⟩ = some (.int .i64 x.2) := ((hB.chg hc (fun h => h)).alloc _).cell 1
  clear hB hc
  go_enter Try.func45, Try.ntmps45
  go_wp2
  go_ret
  exact ⟨rfl, (Chg.refl _ _).alloc _⟩

/-- Three trees are handed back: the spans ahead of x, those that meet or touch it, and those behind. -/
def PartTo (w : World) (x : Sp) (F : List Sp) (e : Ending) (w' : World) : Prop :=
  ∃ va vm vb ta tm tb, e = .returned (.tuple #[.pointer va, .pointer vm, .pointer vb]) ∧ At w' ta va ∧ At w' tm vm ∧ At w' tb vb ∧ flat ta = partA x F ∧ flat tm = partM x F ∧ flat tb = partB x F ∧ Chg NoS w w'

set_option maxHeartbeats 1000000 in
theorem part_any (x : Sp) (t : Tr) (v : Option Addr) (w : World) (ht : At w t v) (hF : Form (flat t)) :
    Calls Try.prog 36 #[.pointer v, encS x] w (PartTo w x (flat t)) := by
  obtain ⟨x1, x2⟩ := x
  have e41 : ∀ args w, (callFunc 44 args).run Try.prog w = .ok (.enter 44 args) w := enters_of Try.func44 (by kernel_rfl) rfl
  have e42 : ∀ args w, (callFunc 45 args).run Try.prog w = .ok (.enter 45 args) w := enters_of Try.func45 (by kernel_rfl) rfl
  have hbox : Blk (w.alloc (.cells #[.int .i64 x1, .int .i64 x2] 55)) w.heap.size 55 #[.int .i64 x1, .int .i64 x2] := Blk.new _ _ _
  have I1 := keepf (split_any _ _ e41 _ _ (part1_any (x1, x2) w.heap.size _ hbox) t v _ (Chg.refl _ _) (ht.no ((Chg.refl _ _).alloc _)) (antiA hF (x1, x2)))
  have I2 := keepf (split_any _ _ e42 _ _ (part2_any (x1, x2) w.heap.size _ hbox))
  have HF := keepf hF
  clear e41 e42 hbox ht hF
  go_enter Try.func36, Try.ntmps36
  go_wp2_with fail
  refine I1.out.mono ?_
  intro e w2 hm
  obtain ⟨va, vb, ta, tb, rfl, hta, htb, hfa, hfb, hc2⟩ := hm
  have HTA := keepf hta
  have HTB := keepf htb
  have HFA := keepf hfa
  have HFB := keepf hfb
  have HC2 := keepf hc2
  clear hta htb hfa hfb hc2
  go_wp2_with fail
  refine (I2.out tb vb w2 HC2.out HTB.out (by rw [HFB.out]; exact antiB (form_rest HF.out (x1, x2)) (x1, x2))).mono ?_
  intro e w3 hm
  obtain ⟨vm, vb', tm, tb', rfl, htm, htb, hfm, hfb, hc3⟩ := hm
  have HTM := keepf htm
  have HTB' := keepf htb
  have HFM := keepf hfm
  have HFB' := keepf hfb
  have HC3 := keepf hc3
  clear htm htb hfm hfb hc3
  go_wp2_with fail
  go_ret3
  refine ⟨_, _, _, ta, tm, tb', rfl, HTA.out.no HC3.out, HTM.out, HTB'.out, HFA.out, ?_, ?_, ((Chg.refl _ _).alloc _).trans (HC2.out.trans HC3.out (fun _ _ h => h)) (fun _ _ h => h)⟩
  · rw [HFM.out, HFB.out]; rfl
  · rw [HFB'.out, HFB.out]; rfl

/-- What a function value does with each of these spans in turn, by an invariant of what it has been handed so far. -/
def StepOf (g : Nat) (lb : Array Value) (all : List Sp) (I : List Sp → World → Prop) : Prop :=
  ∀ (ys : List Sp) (y : Sp) (zs : List Sp) (W : World), all = ys ++ y :: zs → I ys W → Calls Try.prog g (#[encS y] ++ lb) W fun e w' => e = .returned (.tuple #[]) ∧ I (ys ++ [y]) w'

set_option maxHeartbeats 1000000 in
theorem each_any (g : Nat) (lb : Array Value) (eg : ∀ args w, (callFunc g args).run Try.prog w = .ok (.enter g args) w) (all : List Sp) (I : List Sp → World → Prop) (S : Nat → Prop) (w0 : World)
    (hI : ∀ ys w, I ys w → Chg S w0 w) (hN : NoNode S w0) (hs : StepOf g lb all I) :
    ∀ (t : Tr) (v : Option Addr) (w : World) (ys zs : List Sp), At w0 t v → all = ys ++ (flat t ++ zs) → I ys w →
    Calls Try.prog 37 #[.pointer v, .func (.func g) #[] lb] w fun e w' => e = .returned (.tuple #[]) ∧ I (ys ++ flat t) w' := by
  intro t
  induction t with
  | leaf =>
    intro v w ys zs ha _ hi
    have e1 : v = none := ha
    subst e1
    have HI := keepf hi
    clear ha hi
    go_enter Try.func37, Try.ntmps37
    go_wp2_with fail
    go_end0
    exact ⟨rfl, by simpa [flat] using HI.out⟩
  | node y l r ihl ihr =>
    intro v w ys zs ha hall hi
    obtain ⟨b, pl, pr, rfl, hb, hl, hr⟩ := ha
    have hnb : ¬ S b := fun h => hN b _ h hb
    have c2 := (hb.chg (hI _ _ hi) hnb).cell 2
    simp at c2
    have HB := keepf hb
    have HL := keepf hl
    have HR := keepf hr
    have HNB := keepf hnb
    have HALL := keepf hall
    have HI := keepf hi
    clear hb hl hr hnb hall hi
    go_enter Try.func37, Try.ntmps37
    go_wp2_with fail
    refine (ihl pl w ys (y :: (flat r ++ zs)) HL.out (by rw [HALL.out]; simp [flat]) HI.out).mono ?_
    rintro e w1 ⟨rfl, hi1⟩
    have hb1 := HB.out.chg (hI _ _ hi1) HNB.out
    have c0' := hb1.cell 0
    have c1' := hb1.cell 1
    simp at c0' c1'
    have hcall := hs (ys ++ flat l) y (flat r ++ zs) w1 (by rw [HALL.out]; simp [flat]) hi1
    clear hb1 hi1 c2
    go_wp2_with (go_at_fn g; refine hcall.mono ?_; rintro e w2 ⟨rfl, hi2⟩; have d3 := (HB.out.chg (hI _ _ hi2) HNB.out).cell 3; simp at d3; have HI2 := keepf hi2; clear hi2 hcall c0' c1')
    refine (ihr pr w2 _ zs HR.out (by rw [HALL.out]; simp [flat]) HI2.out).mono ?_
    rintro e w3 ⟨rfl, hi3⟩
    have HI3 := keepf hi3
    clear hi3
    go_wp2_with fail
    go_end0
    exact ⟨rfl, by simpa [flat] using HI3.out⟩

end Go.Proofs.Ytnbjigopgbjneaa
