/- Contract of the program's Join. -/
import Derived.Test.YtmpbmmoncelpkaaJoinS
namespace Go.Proofs.Ytmpbmmoncelpkaa
open Go.RowKit
set_option linter.unusedVariables false

theorem src_two_dr {w : World} {u v : Value} {t : TypeId} {n k : Nat} (h : n = w.heap.size) : Src ((w.alloc (.cells #[u, v] t)).drewN k) 2 (some ⟨n, 0, none⟩) 1 1 [u, v] :=
  src_no (src_two_at h) ((Chg.refl _ _).drewN k)

theorem own_set2 {w : World} {e : TypeId} {size g n cap : Nat} {xs : List Value} (h : w.ownsRow 0 e size (.slice (some ⟨g, 0, none⟩) n cap) n xs) (k : Nat) (u : Value) :
    (w.setCell ⟨g, k, none⟩ u).ownsRow 0 e size (.slice (some ⟨g, 0, none⟩) n cap) n (xs.set k u) := by
  refine ⟨by simpa using h.1, ?_⟩
  rcases h.2 with ⟨h', h0⟩ | ⟨g', cap', cur, h', hb, hh, h1, h2, h3, h4⟩
  · simp at h'
  · simp only [Value.slice.injEq, Option.some.injEq, Addr.mk.injEq, and_true] at h'
    obtain ⟨rfl, _, rfl⟩ := h'
    refine .inr ⟨g, cap, cur.setIfInBounds k u, rfl, hb, Blk.set_ (w := w) hh k u, h1, h2, by simpa using h3, ?_⟩
    rw [← h4]
    simp [List.take_set]

theorem flat_set (o : List Sp) (z : Sp) (b : Int) : ((o ++ [z]).flatMap encC).set (o.length * 2 + 1) (.int .i64 b) = (o ++ [(z.1, b)]).flatMap encC := by
  have hl : (o.flatMap encC).length = o.length * 2 := flat_len _ 2 encC_len o
  rw [List.flatMap_append, List.flatMap_append, List.set_append_right _ _ (by omega), hl, show o.length * 2 + 1 - o.length * 2 = 1 from by omega]
  rfl

theorem flat_cell {w : World} {g cap n : Nat} {o : List Sp} {z : Sp} (h : w.ownsRow 0 34 2 (.slice (some ⟨g, 0, none⟩) n cap) n ((o ++ [z]).flatMap encC)) (hn : n = o.length + 1) : w.cell? ⟨g, o.length * 2 + 1, none⟩ = some (.int .i64 z.2) := by
  have hl : (o.flatMap encC).length = o.length * 2 := flat_len _ 2 encC_len o
  have := h.cellAt (o.length * 2 + 1) (by omega)
  rw [this, List.flatMap_append, List.getElem?_append_right (by omega), hl, show o.length * 2 + 1 - o.length * 2 = 1 from by omega]
  rfl
theorem own_blk {w : World} {e : TypeId} {size g n cap : Nat} {xs : List Value} (h : w.ownsRow 0 e size (.slice (some ⟨g, 0, none⟩) n cap) n xs) : ∃ cs, Blk w g e cs := by
  rcases h.2 with ⟨h', _⟩ | ⟨g', cap', cur, h', _, hh, _⟩
  · simp at h'
  · simp only [Value.slice.injEq, Option.some.injEq, Addr.mk.injEq, and_true] at h'
    obtain ⟨rfl, _⟩ := h'
    exact ⟨cur, hh⟩

/-- Behind the spans ys the row has what is made of them. -/
def JoinI (gap : Int) (O : Nat) (w0 : World) (ys : List Sp) (W : World) : Prop := OutIn w0 W O (joinL gap ys) ∧ Chg (fun i => i = O) w0 W

theorem OutAt.no {w0 W W' : World} {O : Nat} {out : List Sp} {V : Value} (h : OutAt w0 W O out V) (hc : Chg NoS W W') : OutAt w0 W' O out V :=
  ⟨h.b.chg hc (fun h => h), own_chg h.r hc (fun _ _ h => h), h.n⟩

/-- The last span of the row grows. -/
theorem OutAt.grow {w0 W : World} {O g cap n : Nat} {o : List Sp} {z : Sp} (h : OutAt w0 W O (o ++ [z]) (.slice (some ⟨g, 0, none⟩) n cap)) (hn : n = o.length + 1) (b : Int) :
    OutAt w0 (W.setCell ⟨g, o.length * 2 + 1, none⟩ (.int .i64 b)) O (o ++ [(z.1, b)]) (.slice (some ⟨g, 0, none⟩) n cap) := by
  have hne := h.ne
  have hr := h.r
  have e : (o ++ [z]).length = n := by simp [hn]
  have e2 : (o ++ [(z.1, b)]).length = n := by simp [hn]
  rw [e] at hr
  have h2 := own_set2 hr (o.length * 2 + 1) (.int .i64 b)
  rw [flat_set] at h2
  refine ⟨h.b.far (fun e => hne (by simp [Value.ownBlock, e])) _, ?_, h.n⟩
  rw [e2]
  exact h2

theorem OutAt.blk2 {w0 W Wg W2 : World} {O : Nat} {out : List Sp} {V : Value} (h : OutAt w0 W O out V) (hg : Wg.grownBy W2 V.ownBlock) (hc : Chg NoS W Wg) : Blk W2 O 32 #[V] :=
  (h.b.chg hc (fun h => h)).grown hg (fun e => h.ne e.symm)
theorem OutAt.snoc2 {w0 W Wg W2 : World} {O : Nat} {out : List Sp} {V V2 : Value} {y : Sp} (h : OutAt w0 W O out V) (hw : w0.heap.size ≤ W.heap.size) (hg : Wg.grownBy W2 V.ownBlock)
    (hO : W2.ownsRow 0 34 2 V2 (out.length + 1) (out.flatMap encC ++ encC y)) (hat : V2.ownBlock = V.ownBlock ∨ V2.ownBlock = some Wg.heap.size) (hc : Chg NoS W Wg) :
    OutAt w0 (W2.setCell ⟨O, 0, none⟩ V2) O (out ++ [y]) V2 := by
  have hb2 := h.blk2 hg hc
  refine ⟨hb2.set_ 0 V2, ?_, fun i hi => ?_⟩
  · have hne : V2.ownBlock ≠ some O := own_ne_blk hO hb2 (by decide)
    have := own_chg (S := fun k => k = O) hO (chg_set W2 O 0 V2) (fun i hi he => hne (by rw [hi, he]))
    simpa using this
  · rcases hat with e | e
    · exact h.n i (e ▸ hi)
    · rw [e] at hi
      injection hi with hi
      have := hc.size
      omega
theorem OutAt.snoc2_chg {S : Nat → Prop} {w0 W Wg W2 : World} {O : Nat} {out : List Sp} {V V2 : Value} (h : OutAt w0 W O out V) (hw : Chg S w0 W) (hS : S O) (hg : Wg.grownBy W2 V.ownBlock) (hc : Chg NoS W Wg) : Chg S w0 (W2.setCell ⟨O, 0, none⟩ V2) :=
  (((hw.then_ hc).grown hg (fun k e hk => by have := h.n k e; omega)).setCell (p := ⟨O, 0, none⟩) (fun _ => hS) _)

set_option maxHeartbeats 2000000 in
theorem join1_step (gap : Int) (O G : Nat) (w0 : World) (all : List Sp) (hF : Form all) (hn : all.length ≤ 99999999) (hG : Blk w0 G 3 #[.int .i64 gap]) (hGO : G ≠ O) :
    StepOf 38 #[.pointer (some ⟨O, 0, none⟩), .pointer (some ⟨G, 0, none⟩)] all (JoinI gap O w0) := by
  rintro ys ⟨y1, y2⟩ zs W hall ⟨⟨V, hV⟩, hc⟩
  have hyF : Form ys := by rw [hall] at hF; exact form_pre hF
  have hyok := hF.ok (y1, y2) (by rw [hall]; simp)
  simp only at hyok
  have hlen : (joinL gap ys).length ≤ 99999999 := by
    have h1 := joinL_len gap _ ys rfl
    have h2 := congrArg List.length hall
    simp at h2
    omega
  have hlast := (joinL_last gap _ ys rfl).2
  have hsn := joinL_snoc gap ys (y1, y2)
  obtain ⟨y10, y11, y12⟩ := hyok
  have hg0 := (hG.chg hc hGO).cell 0
  have hO0 := hV.b.cell 0
  simp at hg0 hO0
  have hglt := (hG.chg hc hGO).lt
  have hOlt := hV.b.lt
  show Calls Try.prog 38 #[.agg #[.int .i64 y1, .int .i64 y2], .pointer (some ⟨O, 0, none⟩), .pointer (some ⟨G, 0, none⟩)] W _
  obtain ⟨i0, hi, hz0, hz1, hz2⟩ := info_parts info_span
  rcases List.eq_nil_or_concat (joinL gap ys) with hnil | ⟨o, z, hcc⟩
  · rw [hnil] at hV hsn
    rw [jstep_new gap [] _ (fun z h => by simp at h)] at hsn
    obtain ⟨A, cap, rfl, _⟩ := own_slice hV.r
    simp only [List.length_nil] at hO0 hV
    have HL1 := keepf (show ([] : List Sp).length ≤ 99999999 by simp)
    have HV := keepf (hV.alloc (.cells #[.int .i64 y1, .int .i64 y2] 34))
    have HC := keepf (hc.alloc (.cells #[.int .i64 y1, .int .i64 y2] 34))
    have HSN := keepf hsn
    clear hV hc hall hF hG hlast hsn hnil hyF hlen
    go_enter Try.func38, Try.ntmps38
    go_wp2_with fail
    go_quiet (fail)
    go_wp2_with (first
      | (at_builtin; go_loud (refine wpList_append_src rfl (.tmp 28) (.tmp 30) 32 rfl 34 i0 (.agg #[.int .i64 0, .int .i64 0]) 2 16 Try.underlying32 hi hz0 hz1 hz2 rfl (by decide) (.slice A 0 cap) _ _ rfl (own_chg (S := NoS) HV.out.r (((Chg.refl _ _).drewN _).alloc _) (fun _ _ h => h)) _ _ _ (encC (y1, y2)) rfl (src_two_at (show W.heap.size + 1 = (W.alloc (.cells #[.int .i64 y1, .int .i64 y2] 34)).heap.size from (World.size_alloc _ _).symm)) (encC_one _) ?_ ?_ ?_); (unfold maxLen; have := HL1.out; omega); (have := HL1.out; omega); intro S2 w2 hown2 hgr hat; obtain ⟨A2, c2, rfl, hA2⟩ := own_slice hown2; have HB2 := keepf (HV.out.blk2 hgr (((Chg.refl _ _).drewN _).alloc _)); have d0 := HB2.out.cell 0; have f0 := HB2.out.frozen 0; simp at d0; have HG2 := keepf hgr; have HO2 := keepf hown2; have HA2 := keepf hat; clear hgr hown2 hat hA2))
    go_end0
    refine ⟨rfl, ?_, HV.out.snoc2_chg HC.out rfl HG2.out (((Chg.refl _ _).drewN _).alloc _)⟩
    rw [HSN.out]
    exact ⟨_, HV.out.snoc2 HC.out.size HG2.out HO2.out HA2.out (((Chg.refl _ _).drewN _).alloc _)⟩
  · rw [List.concat_eq_append] at hcc
    rw [hcc] at hV hsn hlen hlast
    obtain ⟨_, _, zb, hzb, _, hz2e⟩ := hlast z (by simp)
    have hzok := hyF.ok zb hzb
    rw [← hz2e] at hzok
    obtain ⟨z1, z2⟩ := z
    simp only at hzok
    obtain ⟨m, hm⟩ : ∃ m, m = o.length := ⟨_, rfl⟩
    have hl1 : (o ++ [(z1, z2)]).length = m + 1 := by simp [hm]
    obtain ⟨g, cap, hVf, _, _⟩ := own_form hV.r (by omega)
    subst hVf
    rw [hl1] at hV hO0 hlen
    have hr := hV.r
    rw [hl1] at hr
    have cz := flat_cell hr (by omega)
    simp only at cz
    rw [← hm] at cz
    have hz0' : 0 ≤ z2 := by omega
    have hz1' : z2 ≤ 9223372036854775807 := hzok.2.2
    obtain ⟨cs, hcs⟩ := own_blk hr
    have hglt2 := hcs.lt
    have fz := hcs.frozen (m * 2 + 1)
    have HV := keepf (hV.alloc (.cells #[.int .i64 y1, .int .i64 y2] 34))
    have HC := keepf (hc.alloc (.cells #[.int .i64 y1, .int .i64 y2] 34))
    have HM := keepf hm
    have HL1 := keepf hl1
    by_cases hgap : y1 - z2 ≤ gap
    · rw [jstep_on gap o (z1, z2) (y1, y2) hgap] at hsn
      have HSN := keepf hsn
      clear hV hc hall hF hG hlast hsn hcc hyF hr hcs hzok hzb hz2e hm hl1
      go_enter Try.func38, Try.ntmps38
      go_wp2_with fail
      go_quiet (fail)
      go_wp2_with fail
      go_end0
      have hm := HM.out
      subst hm
      refine ⟨rfl, ?_, (HC.out.drewN _).setCell (fun h => by have h' : g < w0.heap.size := h; have := HV.out.n g rfl; omega) _⟩
      rw [HSN.out]
      exact ⟨_, OutAt.grow (HV.out.no ((Chg.refl NoS _).drewN _)) rfl y2⟩
    · rw [jstep_new gap _ _ (fun y hy => by simp at hy; subst hy; simp only; omega)] at hsn
      have hgap' : gap < y1 - z2 := by omega
      have HSN := keepf hsn
      clear hV hc hall hF hG hlast hsn hcc hyF hr hcs hzok hzb hz2e hm hl1 hgap
      go_enter Try.func38, Try.ntmps38
      go_wp2_with fail
      go_quiet (fail)
      go_wp2_with (first
      | (at_builtin; go_loud (refine wpList_append_src rfl (.tmp 28) (.tmp 30) 32 rfl 34 i0 (.agg #[.int .i64 0, .int .i64 0]) 2 16 Try.underlying32 hi hz0 hz1 hz2 rfl (by decide) (.slice (some ⟨g, 0, none⟩) (m + 1) cap) _ _ rfl (own_chg (S := NoS) HV.out.r (((Chg.refl _ _).drewN _).alloc _) (fun _ _ h => h)) _ _ _ (encC (y1, y2)) rfl (src_two_at (show W.heap.size + 1 = (W.alloc (.cells #[.int .i64 y1, .int .i64 y2] 34)).heap.size from (World.size_alloc _ _).symm)) (encC_one _) ?_ ?_ ?_); (unfold maxLen; have := HL1.out; omega); (have := HL1.out; omega); intro S2 w2 hown2 hgr hat; obtain ⟨A2, c2, rfl, hA2⟩ := own_slice hown2; have HB2 := keepf (HV.out.blk2 hgr (((Chg.refl _ _).drewN _).alloc _)); have d0 := HB2.out.cell 0; have f0 := HB2.out.frozen 0; simp at d0; have HG2 := keepf hgr; have HO2 := keepf hown2; have HA2 := keepf hat; clear hgr hown2 hat hA2))
      go_end0
      refine ⟨rfl, ?_, HV.out.snoc2_chg HC.out rfl HG2.out (((Chg.refl _ _).drewN _).alloc _)⟩
      rw [HSN.out]
      have h := HV.out.snoc2 HC.out.size HG2.out HO2.out HA2.out (((Chg.refl _ _).drewN _).alloc _)
      rw [show (o ++ [(z1, z2)]).length = o.length + 1 from by simp] at h
      exact ⟨_, h⟩

theorem st_join (w : World) (gap : Int) : ∃ W : World, (w.alloc (.cells #[.int .i64 gap] 3)).alloc (.cells #[.pointer none] 38) = W ∧ SetAt W (w.heap.size + 1) [] ∧ Blk W w.heap.size 3 #[.int .i64 gap] ∧ Chg NoS w W := by
  refine ⟨_, rfl, ?_, (Blk.new _ _ _).alloc _, ((Chg.refl _ _).alloc _).alloc _⟩
  have := set_new (w.alloc (.cells #[.int .i64 gap] 3))
  rw [World.size_alloc] at this
  exact this

set_option maxHeartbeats 2000000 in
theorem join_any (gap : Int) (A : Option Addr) (len cap : Nat) (xs : List Sp) (w : World) (hl : xs.length = len) (hm : len ≤ 1000000) (hS : Src w 2 A len cap (xs.flatMap encC)) (hg : ∀ y ∈ xs, y.2 ≤ 9223372036854775807) :
    Calls Try.prog 24 #[.slice A len cap, .int .i64 gap] w (RowTo w (joinL gap (puts xs []))) := by
  have HS := keepf hS
  have HL := keepf hl
  have HG := keepf hg
  clear hS hl hg
  obtain ⟨W, hW, hset, hgb, hcw⟩ := st_join w gap
  have HW := keepf hW
  have HSET := keepf hset
  have HGB := keepf hgb
  have HCW := keepf hcw
  clear hW hset hgb hcw
  go_enter Try.func24, Try.ntmps24
  go_wp2_with fail
  rw [HW.out]
  go_loopw [11] (fun i wr => ∃ k : Nat, k ≤ len ∧ i = .int .i64 k ∧ SetAt wr (w.heap.size + 1) (puts (xs.take k) []) ∧ Blk wr w.heap.size 3 #[.int .i64 gap] ∧ Chg NoS w wr) (fun i _ => len - (intOf i).toNat)
  case atStart => exact ⟨0, Nat.zero_le _, rfl, HSET.out, HGB.out, HCW.out⟩
  case round =>
    obtain ⟨k, hk, rfl, hset, hgb, hcw⟩ := hrel
    have HT := keepf hset
    have HB := keepf hgb
    have HC := keepf hcw
    clear hset hgb hcw HSET HGB HCW HW
    by_cases hlt : k < len
    · obtain ⟨b, o, rfl, ⟨y1, y2⟩, hy, cy1, cy2⟩ := row_cells (src_no HS.out HC.out) HL.out hlt
      simp only at cy1 cy2
      have hy2 := HG.out _ (List.mem_of_getElem? hy)
      simp only at hy2
      have HY := keepf hy
      clear hy
      go_wp2_with fail
      refine (put_any (w.heap.size + 1) (y1, y2) _ _ (HT.out.no ((Chg.refl _ _).alloc _)) hy2).mono ?_
      rintro e w1 ⟨rfl, hs1, hc1⟩
      rw [← puts_take HY.out] at hs1
      have HS1 := keepf hs1
      have HB1 := keepf ((HB.out.alloc (.cells #[.int .i64 y1, .int .i64 y2] 34)).chg hc1 (by omega))
      have HC1 := keepf ((HC.out.alloc (.cells #[.int .i64 y1, .int .i64 y2] 34)).trans hc1 (fun i h1 h2 => by omega))
      clear hs1 hc1 cy1 cy2
      go_wp2_with fail
      go_roundw
      case rel => exact ⟨k + 1, by omega, by go_num, HS1.out, HB1.out, HC1.out⟩
      case measure => simp [intOf]; omega
    · obtain rfl : k = len := by omega
      have hst := HT.out
      rw [List.take_of_length_le (by rw [HL.out]; exact Nat.le_refl _)] at hst
      have hFl := puts_len xs [] Form.nil HG.out
      rw [HL.out] at hFl
      simp only [List.length_nil, Nat.zero_add] at hFl
      obtain ⟨F, hFe⟩ : ∃ F, puts xs [] = F := ⟨_, rfl⟩
      rw [hFe] at hst hFl
      have HFE := keepf hFe
      clear hFe
      have hF := hst.form
      have HF := keepf hF
      have HST := keepf (hst.no ((Chg.refl _ _).alloc (.cells #[.slice none 0 0] 32)))
      have hbO := Blk.new wr 32 #[.slice none 0 0]
      have hGO := HB.out.alloc (.cells #[.slice none 0 0] 32)
      have HBO := keepf hbO
      have HGO := keepf hGO
      have hglt := HB.out.lt
      have e38 : ∀ args w, (callFunc 38 args).run Try.prog w = .ok (.enter 38 args) w := enters_of Try.func38 (by kernel_rfl) rfl
      clear hst hF hbO hGO HT HS HL HG
      go_wp2_with fail
      refine (tree_any _ F _ HST.out.v).mono ?_
      rintro e w' ⟨t, o, rfl, ha, hf, rfl⟩
      have HE := keepf (each_any _ _ e38 (flat t) (JoinI gap wr.heap.size (wr.alloc (.cells #[.slice none 0 0] 32))) (fun i => i = wr.heap.size) (wr.alloc (.cells #[.slice none 0 0] 32)) (fun _ _ h => h.2) (noNode_of HBO.out (by decide)) (join1_step gap wr.heap.size w.heap.size _ (flat t) (by rw [hf]; exact HF.out) (by rw [hf]; omega) HGO.out (by omega)) t o _ [] [] ha (by simp) ⟨⟨_, HBO.out, own_nil _ _ _ _, fun i h => by simp [Value.ownBlock] at h⟩, Chg.refl _ _⟩)
      have HFl := keepf hf
      clear e38 ha hf
      go_wp2_with fail
      refine HE.out.mono ?_
      rintro e w2 ⟨rfl, ⟨V, hV⟩, hc⟩
      rw [List.nil_append, HFl.out] at hV
      obtain ⟨A2, c2, rfl, _⟩ := own_slice hV.r
      have c0 := hV.b.cell 0
      simp at c0
      have HV := keepf hV
      have HC2 := keepf hc
      clear hV hc
      go_wp2_with fail
      go_ret
      have hcs := HC.out.size
      rw [HFE.out]
      exact ⟨A2, c2, rfl, HV.out.r, (HC.out.alloc _).trans HC2.out (fun i h1 h2 => by omega), fun i hi => by have := HV.out.n i hi; simp at this; omega⟩
end Go.Proofs.Ytmpbmmoncelpkaa
