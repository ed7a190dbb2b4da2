/- Contract of Missing. -/
import Derived.Test.YtnbjigopgbjneaaSame
import Derived.Laws.EntriesVeiled
namespace Go.Proofs.Ytnbjigopgbjneaa
open Go.RowKit
set_option linter.unusedVariables false

/-- Behind the gap's closure: the row has one span more, if there is a gap. -/
def GapTo (w0 W : World) (V : Value) (S : Nat → Prop) (O AT : Nat) (out : List Sp) (a b : Int) (e : Ending) (W' : World) : Prop :=
  e = .returned (.tuple #[]) ∧ OutIn w0 W' O (if a < b then out ++ [(a, b)] else out) ∧ Blk W' AT 3 #[.int .i64 a] ∧ Chg S w0 W' ∧ Chg (fun i => i = O ∨ V.ownBlock = some i) W W'

set_option maxHeartbeats 1000000 in
theorem gap_any (w0 : World) (S : Nat → Prop) (O AT : Nat) (out : List Sp) (a b : Int) (V : Value) (W : World) (hV : OutAt w0 W O out V) (hA : Blk W AT 3 #[.int .i64 a]) (hc : Chg S w0 W) (hS : S O) (hn : out.length ≤ 100000000) :
    Calls Try.prog 34 #[.int .i64 b, .pointer (some ⟨AT, 0, none⟩), .pointer (some ⟨O, 0, none⟩)] W (GapTo w0 W V S O AT out a b) := by
  have c0 := hA.cell 0
  simp at c0
  by_cases hab : a < b
  · obtain ⟨A, cap, rfl, _⟩ := own_slice hV.r
    have d0 := hV.b.cell 0
    simp at d0
    have hl := hV.b.lt
    have hl' := hA.lt
    have HV := keepf hV
    have HC := keepf hc
    have HA := keepf hA
    have HNE := keepf (Blk.ne_ hV.b hA (by decide))
    have HS := keepf hS
    clear hV hc hA hS
    obtain ⟨i0, hi, hz0, hz1, hz2⟩ := info_parts info_span
    go_enter Try.func34, Try.ntmps34
    go_wp2_with (first
      | (at_builtin; refine wpList_append_src rfl (.tmp 7) (.tmp 11) 43 rfl 55 i0 (.agg #[.int .i64 0, .int .i64 0]) 2 16 Try.underlying43 hi hz0 hz1 hz2 rfl (by decide) (.slice A out.length cap) _ _ rfl (own_chg (S := NoS) HV.out.r ((Chg.refl _ _).alloc _) (fun _ _ h => h)) _ _ _ (encC (a, b)) rfl (src_two_at (by simp)) (encC_one _) (by unfold maxLen; omega) (by omega) ?_; intro S2 w2 hown2 hgr hat; obtain ⟨A2, c2, rfl, hA2⟩ := own_slice hown2; have HB2 := keepf (show Blk w2 O 43 #[.slice A out.length cap] from ((HV.out.b.alloc _).grown hgr (fun e => HV.out.ne e.symm))); have e0 := HB2.out.cell 0; have f0 := HB2.out.frozen 0; simp at e0; have HG2 := keepf hgr; have HO2 := keepf hown2; have HA2 := keepf hat; clear hgr hown2 hat hA2))
    go_end0
    have hs := HC.out.size
    refine ⟨rfl, ?_, ?_, HV.out.snoc_chg HC.out HS.out HG2.out, (((Chg.refl _ W).alloc _).grown HG2.out (fun k e _ => .inr e)).setCell (fun _ => .inl rfl) _⟩
    · rw [if_pos hab]
      exact ⟨_, HV.out.snoc hs HG2.out HO2.out HA2.out⟩
    · exact ((HA.out.alloc _).grown HG2.out (fun e => (own_ne_blk HV.out.r HA.out (by decide)) e.symm)).far (fun e => HNE.out e.symm) _
  · have HV := keepf hV
    have HC := keepf hc
    have HA := keepf hA
    clear hV hc hA hS
    go_enter Try.func34, Try.ntmps34
    go_wp2_with fail
    go_end0
    exact ⟨rfl, by rw [if_neg (by omega)]; exact ⟨V, HV.out⟩, HA.out, HC.out, Chg.refl _ _⟩

/-- The value of the gap's closure. -/
abbrev gapV (O AT : Nat) : Value := .func (.func 34) #[] #[.pointer (some ⟨AT, 0, none⟩), .pointer (some ⟨O, 0, none⟩)]

def MissI (x1 : Int) (O AT : Nat) (w0 : World) (ys : List Sp) (W : World) : Prop :=
  OutIn w0 W O (mst x1 ys).1 ∧ Blk W AT 3 #[.int .i64 (mst x1 ys).2] ∧ Chg (fun i => i = O ∨ i = AT) w0 W

theorem mst_len (a : Int) : ∀ (n : Nat) (ys : List Sp), ys.length = n → (mst a ys).1.length ≤ n
  | 0, ys, h => by rw [List.eq_nil_of_length_eq_zero h]; simp [mst]
  | n + 1, ys, h => by
    obtain ⟨zs, z, rfl⟩ : ∃ zs z, ys = zs ++ [z] := ⟨ys.dropLast, ys.getLast (by intro e; subst e; simp at h), (List.dropLast_concat_getLast _).symm⟩
    have ih := mst_len a n zs (by simpa using h)
    rw [mst_snoc, mstep]
    simp only
    split
    · simp; omega
    · omega

set_option maxHeartbeats 1000000 in
theorem miss2_step (x1 : Int) (O AT GP : Nat) (w0 : World) (all : List Sp) (hn : all.length ≤ 100000000) (hG : Blk w0 GP 74 #[gapV O AT]) (hGO : GP ≠ O) (hGA : GP ≠ AT) (hAT : AT < w0.heap.size) :
    StepOf 38 #[.pointer (some ⟨GP, 0, none⟩), .pointer (some ⟨AT, 0, none⟩)] all (MissI x1 O AT w0) := by
  rintro ys ⟨y1, y2⟩ zs W hall ⟨⟨V, hV⟩, hA, hc⟩
  have hl : (mst x1 ys).1.length ≤ 100000000 := by
    have h1 := mst_len x1 _ ys rfl
    have h2 := congrArg List.length hall
    simp at h2
    omega
  have hst := mst_snoc x1 ys (y1, y2)
  obtain ⟨⟨out, a⟩, hs⟩ : ∃ s, mst x1 ys = s := ⟨_, rfl⟩
  rw [hs] at hV hA hl hst
  simp only at hV hA hl
  show Calls Try.prog 38 #[.agg #[.int .i64 y1, .int .i64 y2], .pointer (some ⟨GP, 0, none⟩), .pointer (some ⟨AT, 0, none⟩)] W _
  have hG1 := hG.chg hc (by omega)
  have g0 := hG1.cell 0
  simp at g0
  have hlg := hG1.lt
  have HG := keepf (gap_any w0 (fun i => i = O ∨ i = AT) O AT out a y1 V (W.alloc (.cells #[.int .i64 y1, .int .i64 y2] 55)) (hV.alloc _) (hA.alloc _) (hc.alloc _) (.inl rfl) hl)
  have HST := keepf hst
  have hbx : Blk (W.alloc (.cells #[.int .i64 y1, .int .i64 y2] 55)) W.heap.size 55 #[.int .i64 y1, .int .i64 y2] := Blk.new _ _ _
  have HBX := keepf hbx
  have hvn : V.ownBlock ≠ some W.heap.size := fun e => by have := own_lt hV.r e; omega
  have HVN := keepf hvn
  have HATL := keepf hAT
  have HOB := keepf hV.b.lt
  have HAL := keepf hA.lt
  have e36 : ∀ args w, (callFunc 34 args).run Try.prog w = .ok (.enter 34 args) w := enters_of Try.func34 (by kernel_rfl) rfl
  clear hV hA hc hG hGO hGA hG1 hs hst hall hbx hvn hAT
  go_enter Try.func38, Try.ntmps38
  go_wp2_with fail
  refine HG.out.mono ?_
  rintro e w2 ⟨rfl, hO2, hA2, hc2, hcb⟩
  have hb2 := HBX.out.chg hcb (by rintro (h | h); have := HOB.out; omega; exact HVN.out h)
  have b1 := hb2.cell 1
  have a0 := hA2.cell 0
  have f0 := hA2.frozen 0
  simp at b1 a0
  have HO2 := keepf hO2
  have HA2 := keepf hA2
  have HC2 := keepf hc2
  clear hO2 hA2 hc2 hcb hb2 g0
  go_wp2_with fail
  go_end0
  refine ⟨rfl, ?_, ?_, HC2.out.setCell (fun _ => .inr rfl) _⟩
  · rw [HST.out]
    obtain ⟨V2, hV2⟩ := HO2.out
    exact OutIn.chg (S := fun k => k = AT) ⟨V2, hV2⟩ (chg_set _ _ _ _) (fun e => Blk.ne_ hV2.b HA2.out (by decide) e) (fun i h1 h2 => by have := HATL.out; omega)
  · rw [HST.out]
    exact HA2.out.set_ 0 _

theorem three (w2 : World) (x1 : Int) : ∃ W3 : World, ((w2.alloc (.cells #[.slice none 0 0] 43)).alloc (.cells #[.int .i64 x1] 3)).alloc (.cells #[gapV w2.heap.size (w2.heap.size + 1)] 74) = W3 ∧
    Blk W3 w2.heap.size 43 #[.slice none 0 0] ∧ Blk W3 (w2.heap.size + 1) 3 #[.int .i64 x1] ∧ Blk W3 (w2.heap.size + 1 + 1) 74 #[gapV w2.heap.size (w2.heap.size + 1)] ∧ Chg NoS w2 W3 := by
  refine ⟨_, rfl, ((Blk.new _ _ _).alloc _).alloc _, ?_, ?_, (((Chg.refl _ _).alloc _).alloc _).alloc _⟩
  · have := Blk.new (w2.alloc (.cells #[.slice none 0 0] 43)) 3 #[.int .i64 x1]
    rw [World.size_alloc] at this
    exact this.alloc _
  · have := Blk.new ((w2.alloc (.cells #[.slice none 0 0] 43)).alloc (.cells #[.int .i64 x1] 3)) 74 #[gapV w2.heap.size (w2.heap.size + 1)]
    rw [World.size_alloc, World.size_alloc] at this
    exact this

def missF (x : Sp) (F : List Sp) : List Sp := if emptyB x then [] else missL x F

set_option maxHeartbeats 2000000 in
theorem missing_any (v : Option Addr) (F : List Sp) (x : Sp) (w : World) (h : SetV w v F) (hn : F.length ≤ 99999999) :
    Calls Try.prog 25 #[.pointer v, encS x] w (RowTo w (missF x F)) := by
  obtain ⟨x1, x2⟩ := x
  have H := keepf (h.no ((Chg.refl _ w).alloc (.cells #[.int .i64 x1, .int .i64 x2] 55)))
  have HFo := keepf h.form
  have hbx : Blk (w.alloc (.cells #[.int .i64 x1, .int .i64 x2] 55)) w.heap.size 55 #[.int .i64 x1, .int .i64 x2] := Blk.new _ _ _
  have HBX := keepf hbx
  have he1 := empty_any (x1, x2) (w.alloc (.cells #[.int .i64 x1, .int .i64 x2] 55))
  clear h hbx
  cases he : emptyB (x1, x2) with
  | true =>
    rw [he] at he1
    have HE1 := keepf he1
    have HEM := keepf he
    clear he he1
    go_enter Try.func25, Try.ntmps25
    go_wp2_with fail
    refine HE1.out.mono ?_
    rintro e w2 ⟨rfl, hc2⟩
    have HC2 := keepf hc2
    clear hc2
    go_wp2_with fail
    go_ret
    have e : missF (x1, x2) F = [] := by simp [missF, HEM.out]
    rw [e]
    exact ⟨none, 0, rfl, own_nil _ _ _ _, ((Chg.refl _ _).alloc _).then_ HC2.out, fun i h => by simp [Value.ownBlock] at h⟩
  | false =>
    rw [he] at he1
    have HE1 := keepf he1
    have HEM := keepf he
    clear he he1
    go_enter Try.func25, Try.ntmps25
    go_wp2_with fail
    refine HE1.out.mono ?_
    rintro e w2 ⟨rfl, hc2⟩
    have hb2 := HBX.out.chg hc2 (fun h => h)
    have b0 := hb2.cell 0
    have b1 := hb2.cell 1
    simp at b0 b1
    have hlt := hb2.lt
    have HC2 := keepf hc2
    have HB2 := keepf hb2
    clear hc2 hb2
    go_wp2_with fail
    obtain ⟨W3, hW, hO3, hA3, hG3, hc3⟩ := three w2 x1
    rw [hW]
    obtain ⟨O, hO⟩ : ∃ O, O = w2.heap.size := ⟨_, rfl⟩
    rw [← hO] at hO3 hA3 hG3 ⊢
    have b0' := (HB2.out.chg hc3 (fun h => h)).cell 0
    have b1' := (HB2.out.chg hc3 (fun h => h)).cell 1
    simp at b0' b1'
    have HO3 := keepf hO3
    have HA3 := keepf hA3
    have HG3 := keepf hG3
    have HC3 := keepf hc3
    have HOE := keepf hO
    have HLT := keepf hlt
    have H3 := keepf (((H.out.no HC2.out).no HC3.out).no (Chg.refl _ _).drew)
    clear hW hO3 hA3 hG3 hc3 hO hlt b0 b1
    first
      | (go_region_with (first
          | (go_at_call 35; refine (tree_any v F _ H3.out).mono ?_; rintro e w' ⟨t, o, rfl, ha, hf, rfl⟩; have HT := keepf ha; have HF := keepf hf; clear ha hf)
          | (go_at_call 36; refine (part_any (x1, x2) t o _ HT.out (by rw [HF.out]; exact HFo.out)).mono ?_; intro e w4 hm; obtain ⟨va, vm, vb, ta, tm, tb, rfl, hta, htm, htb, hfa, hfm, hfb, hc4⟩ := hm; have HTM := keepf htm; have HFM := keepf hfm; have HC4 := keepf (show Chg NoS W3 w4 from (Chg.refl _ W3).drew.then_ hc4); clear hta htm htb hfa hfm hfb hc4)))
      | fail "region"
    all_goals
      have hO4 := HO3.out.chg HC4.out (fun h => h)
      have hA4 := HA3.out.chg HC4.out (fun h => h)
      have hG4 := HG3.out.chg HC4.out (fun h => h)
      have hfm : flat tm = partM (x1, x2) F := by rw [HFM.out, HF.out]
      have hMl : (partM (x1, x2) F).length ≤ 99999999 := Nat.le_trans (Nat.le_trans (List.length_filter_le _ _) (List.length_filter_le _ _)) hn
      have e37 : ∀ args w, (callFunc 38 args).run Try.prog w = .ok (.enter 38 args) w := enters_of Try.func38 (by kernel_rfl) rfl
      have e36 : ∀ args w, (callFunc 34 args).run Try.prog w = .ok (.enter 34 args) w := enters_of Try.func34 (by kernel_rfl) rfl
      have HNN : NoNode (fun i => i = O ∨ i = O + 1) w4 := by
        rintro b cs (rfl | rfl) h
        · exact Blk.ne_ hO4 h (by decide) rfl
        · exact Blk.ne_ hA4 h (by decide) rfl
      have HE := keepf (each_any _ _ e37 (flat tm) (MissI x1 O (O + 1) w4) (fun i => i = O ∨ i = O + 1) w4 (fun _ _ h => h.2.2) HNN (miss2_step x1 O (O + 1) (O + 1 + 1) w4 (flat tm) (by rw [hfm]; omega) hG4 (by omega) (by omega) hA4.lt) tm vm w4 [] [] HTM.out (by simp) ⟨⟨_, hO4, own_nil _ _ _ _, fun i h => by simp [Value.ownBlock] at h⟩, hA4, Chg.refl _ _⟩)
      have HFm := keepf hfm
      have HG4 := keepf hG4
      have HMl := keepf hMl
      clear hO4 hA4 hG4 e37 HNN hfm hMl b0' b1'
      go_wp2_with fail
      refine HE.out.mono ?_
      rintro e w5 ⟨rfl, ⟨V, hV⟩, hA5, hc5⟩
      rw [List.nil_append, HFm.out] at hV hA5
      have hml := Nat.le_trans (mst_len x1 _ (partM (x1, x2) F) rfl) HMl.out
      have hmd : missF (x1, x2) F = mend (mst x1 (partM (x1, x2) F)) x2 := by simp [missF, HEM.out, missL]
      generalize mst x1 (partM (x1, x2) F) = s at hV hA5 hml hmd
      obtain ⟨out, a⟩ := s
      simp only at hV hA5 hml
      have hG5 := HG4.out.chg hc5 (by omega)
      have g0 := hG5.cell 0
      have hB5 := ((HB2.out.chg HC3.out (fun h => h)).chg HC4.out (fun h => h)).chg hc5 (by have := HOE.out; have := HLT.out; omega)
      have b1 := hB5.cell 1
      simp at g0 b1
      have HGap := keepf (gap_any w4 (fun i => i = O ∨ i = O + 1) O (O + 1) out a x2 V w5 hV hA5 hc5 (.inl rfl) (by omega))
      have HMD := keepf hmd
      clear hV hA5 hc5 hG5 hB5 hml hmd
      go_wp2_with fail
      refine HGap.out.mono ?_
      rintro e w6 ⟨rfl, ⟨V2, hV2⟩, _, hc6, _⟩
      have hout : (if a < x2 then out ++ [(a, x2)] else out) = missF (x1, x2) F := by rw [HMD.out]; rfl
      rw [hout] at hV2
      obtain ⟨A2, cap2, rfl, _⟩ := own_slice hV2.r
      have o0 := hV2.b.cell 0
      simp at o0
      have HV2 := keepf hV2
      have HC6 := keepf hc6
      clear hV2 hc6 hout g0 b1 e36
      go_wp2_with fail
      go_ret
      have k4 : Chg NoS w w4 := ((((Chg.refl NoS w).alloc _).then_ HC2.out).then_ HC3.out).then_ HC4.out
      have hlt4 := HLT.out
      have hoe := HOE.out
      exact ⟨A2, cap2, rfl, HV2.out.r, k4.trans HC6.out (fun i h1 h2 => by omega), fun i hi => Nat.le_trans k4.size (HV2.out.n i hi)⟩

end Go.Proofs.Ytnbjigopgbjneaa
