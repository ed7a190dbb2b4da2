/- Contracts of Clip and of both Joins. -/
import Derived.Test.YtmpbmmoncelpkaaSpansR
namespace Go.Proofs.Ytmpbmmoncelpkaa
open Go.RowKit
set_option linter.unusedVariables false

def clipB (x : Sp) (to : Int) : Sp := if emptyB (x.1, min x.2 to) then (0, 0) else (x.1, min x.2 to)

/-- A span is handed back; nothing that was there has changed. -/
def SpanTo (w : World) (y : Sp) (e : Ending) (w' : World) : Prop := e = .returned (.agg #[.int .i64 y.1, .int .i64 y.2]) ∧ Chg NoS w w'

set_option maxHeartbeats 1000000 in
theorem clip_any (x : Sp) (to : Int) (w : World) :
    Calls Try.prog 23 #[encS x, .int .i64 to] w (SpanTo w (clipB x to)) := by
  obtain ⟨x1, x2⟩ := x
  go_enter Try.func23, Try.ntmps23
  go_wp2_with fail
  · have hcl : clipB (x1, x2) to = if emptyB (x1, to) then (0, 0) else (x1, to) := by rw [clipB, show min x2 to = to from by omega]
    have hb := (Blk.new w 34 #[.int .i64 x1, .int .i64 to]).alloc (.cells #[.int .i64 0, .int .i64 0] 34)
    have hr := Blk.new (w.alloc (.cells #[.int .i64 x1, .int .i64 to] 34)) 34 #[.int .i64 0, .int .i64 0]
    rw [World.size_alloc] at hr
    have he1 := empty_any (x1, to) ((w.alloc (.cells #[.int .i64 x1, .int .i64 to] 34)).alloc (.cells #[.int .i64 0, .int .i64 0] 34))
    cases he : emptyB (x1, to) with
    | true =>
      rw [he] at hcl he1
      refine he1.mono ?_
      rintro e w2 ⟨rfl, hc2⟩
      have hr2 := hr.chg hc2 (fun h => h)
      have r0 := hr2.cell 0
      have r1 := hr2.cell 1
      have f0 := hr2.frozen 0
      have f1 := hr2.frozen 1
      simp at r0 r1
      have HCL := keepf hcl
      have HC := keepf ((((Chg.refl NoS w).alloc _).alloc _).then_ hc2)
      have HRR := keepf hr2
      clear hcl hb hr he1 he hc2 hr2
      go_wp2_with fail
      have q := (HRR.out.set_ 0 (.int .i64 0)).set_ 1 (.int .i64 0)
      have q0 := q.cell 0
      have q1 := q.cell 1
      simp at q0 q1
      refine bodyPost_ret (v := .agg #[.int .i64 0, .int .i64 0]) (by simp [results, Try.results23, go_sem, q0, q1]) rfl ⟨?_, ?_⟩
      · rw [HCL.out]; rfl
      · exact ((HC.out.setCell (p := ⟨w.heap.size + 1, 0, none⟩) (fun h => by have h' : w.heap.size + 1 < w.heap.size := h; omega) _).setCell (p := ⟨w.heap.size + 1, 1, none⟩) (fun h => by have h' : w.heap.size + 1 < w.heap.size := h; omega) _)
    | false =>
      rw [he] at hcl he1
      refine he1.mono ?_
      rintro e w2 ⟨rfl, hc2⟩
      have hr2 := hr.chg hc2 (fun h => h)
      have hb2 := hb.chg hc2 (fun h => h)
      have r0 := hr2.cell 0
      have r1 := hr2.cell 1
      have f0 := hr2.frozen 0
      have f1 := hr2.frozen 1
      have b0 := hb2.cell 0
      have b1 := hb2.cell 1
      simp at r0 r1 b0 b1
      have HCL := keepf hcl
      have HC := keepf ((((Chg.refl NoS w).alloc _).alloc _).then_ hc2)
      have HRR := keepf hr2
      clear hcl hb hr he1 he hc2 hr2 hb2
      go_wp2_with fail
      have q := (HRR.out.set_ 0 (.int .i64 x1)).set_ 1 (.int .i64 to)
      have q0 := q.cell 0
      have q1 := q.cell 1
      simp at q0 q1
      refine bodyPost_ret (v := .agg #[.int .i64 x1, .int .i64 to]) (by simp [results, Try.results23, go_sem, q0, q1]) rfl ⟨?_, ?_⟩
      · rw [HCL.out]; rfl
      · exact ((HC.out.setCell (p := ⟨w.heap.size + 1, 0, none⟩) (fun h => by have h' : w.heap.size + 1 < w.heap.size := h; omega) _).setCell (p := ⟨w.heap.size + 1, 1, none⟩) (fun h => by have h' : w.heap.size + 1 < w.heap.size := h; omega) _)
  · have hcl : clipB (x1, x2) to = if emptyB (x1, x2) then (0, 0) else (x1, x2) := by rw [clipB, show min x2 to = x2 from by omega]
    have hb := (Blk.new w 34 #[.int .i64 x1, .int .i64 x2]).alloc (.cells #[.int .i64 0, .int .i64 0] 34)
    have hr := Blk.new (w.alloc (.cells #[.int .i64 x1, .int .i64 x2] 34)) 34 #[.int .i64 0, .int .i64 0]
    rw [World.size_alloc] at hr
    have he1 := empty_any (x1, x2) ((w.alloc (.cells #[.int .i64 x1, .int .i64 x2] 34)).alloc (.cells #[.int .i64 0, .int .i64 0] 34))
    cases he : emptyB (x1, x2) with
    | true =>
      rw [he] at hcl he1
      refine he1.mono ?_
      rintro e w2 ⟨rfl, hc2⟩
      have hr2 := hr.chg hc2 (fun h => h)
      have r0 := hr2.cell 0
      have r1 := hr2.cell 1
      have f0 := hr2.frozen 0
      have f1 := hr2.frozen 1
      simp at r0 r1
      have HCL := keepf hcl
      have HC := keepf ((((Chg.refl NoS w).alloc _).alloc _).then_ hc2)
      have HRR := keepf hr2
      clear hcl hb hr he1 he hc2 hr2
      go_wp2_with fail
      have q := (HRR.out.set_ 0 (.int .i64 0)).set_ 1 (.int .i64 0)
      have q0 := q.cell 0
      have q1 := q.cell 1
      simp at q0 q1
      refine bodyPost_ret (v := .agg #[.int .i64 0, .int .i64 0]) (by simp [results, Try.results23, go_sem, q0, q1]) rfl ⟨?_, ?_⟩
      · rw [HCL.out]; rfl
      · exact ((HC.out.setCell (p := ⟨w.heap.size + 1, 0, none⟩) (fun h => by have h' : w.heap.size + 1 < w.heap.size := h; omega) _).setCell (p := ⟨w.heap.size + 1, 1, none⟩) (fun h => by have h' : w.heap.size + 1 < w.heap.size := h; omega) _)
    | false =>
      rw [he] at hcl he1
      refine he1.mono ?_
      rintro e w2 ⟨rfl, hc2⟩
      have hr2 := hr.chg hc2 (fun h => h)
      have hb2 := hb.chg hc2 (fun h => h)
      have r0 := hr2.cell 0
      have r1 := hr2.cell 1
      have f0 := hr2.frozen 0
      have f1 := hr2.frozen 1
      have b0 := hb2.cell 0
      have b1 := hb2.cell 1
      simp at r0 r1 b0 b1
      have HCL := keepf hcl
      have HC := keepf ((((Chg.refl NoS w).alloc _).alloc _).then_ hc2)
      have HRR := keepf hr2
      clear hcl hb hr he1 he hc2 hr2 hb2
      go_wp2_with fail
      have q := (HRR.out.set_ 0 (.int .i64 x1)).set_ 1 (.int .i64 x2)
      have q0 := q.cell 0
      have q1 := q.cell 1
      simp at q0 q1
      refine bodyPost_ret (v := .agg #[.int .i64 x1, .int .i64 x2]) (by simp [results, Try.results23, go_sem, q0, q1]) rfl ⟨?_, ?_⟩
      · rw [HCL.out]; rfl
      · exact ((HC.out.setCell (p := ⟨w.heap.size + 1, 0, none⟩) (fun h => by have h' : w.heap.size + 1 < w.heap.size := h; omega) _).setCell (p := ⟨w.heap.size + 1, 1, none⟩) (fun h => by have h' : w.heap.size + 1 < w.heap.size := h; omega) _)

/- Those that lie near are made one: the row's last span grows, or one is put behind it. -/
theorem jstep_new (gap : Int) (out : List Sp) (y : Sp) (h : ∀ z, out.getLast? = some z → gap < y.1 - z.2) : jstep gap out y = out ++ [y] := by
  unfold jstep
  rcases hl : out.getLast? with _ | z
  · rfl
  · have := h z hl
    simp only
    rw [if_neg (by omega)]
theorem jstep_on (gap : Int) (out : List Sp) (z y : Sp) (h : y.1 - z.2 ≤ gap) : jstep gap (out ++ [z]) y = out ++ [(z.1, y.2)] := by
  unfold jstep
  simp [h]

theorem jstep_len (gap : Int) (out : List Sp) (y : Sp) : (jstep gap out y).length ≤ out.length + 1 := by
  unfold jstep
  split
  · split
    · rename_i z hz _
      have : out ≠ [] := by intro e; subst e; simp at hz
      have hl := List.length_pos_iff.2 this
      simp <;> omega
    · simp
  · simp
theorem joinL_len (gap : Int) : ∀ (n : Nat) (F : List Sp), F.length = n → (joinL gap F).length ≤ n
  | 0, F, h => by rw [List.eq_nil_of_length_eq_zero h]; simp [joinL]
  | n + 1, F, h => by
    obtain ⟨zs, z, rfl⟩ : ∃ zs z, F = zs ++ [z] := ⟨F.dropLast, F.getLast (by intro e; subst e; simp at h), (List.dropLast_concat_getLast _).symm⟩
    have ih := joinL_len gap n zs (by simpa using h)
    rw [joinL_snoc]
    have := jstep_len gap (joinL gap zs) z
    omega

/-- The last span of what is made one ends where the last one does. -/
theorem joinL_last (gap : Int) : ∀ (n : Nat) (F : List Sp), F.length = n → (joinL gap F).getLast?.map (·.2) = F.getLast?.map (·.2) ∧ (∀ y ∈ joinL gap F, ∃ a ∈ F, ∃ b ∈ F, y.1 = a.1 ∧ y.2 = b.2)
  | 0, F, h => by rw [List.eq_nil_of_length_eq_zero h]; simp [joinL]
  | n + 1, F, h => by
    obtain ⟨zs, z, rfl⟩ : ∃ zs z, F = zs ++ [z] := ⟨F.dropLast, F.getLast (by intro e; subst e; simp at h), (List.dropLast_concat_getLast _).symm⟩
    obtain ⟨ih, ih2⟩ := joinL_last gap n zs (by simpa using h)
    rw [joinL_snoc]
    have hold : ∀ y ∈ joinL gap zs, ∃ a ∈ zs ++ [z], ∃ b ∈ zs ++ [z], y.1 = a.1 ∧ y.2 = b.2 := fun y hy => by
      obtain ⟨a, ha, b, hb, h1, h2⟩ := ih2 y hy
      exact ⟨a, List.mem_append.2 (.inl ha), b, List.mem_append.2 (.inl hb), h1, h2⟩
    rcases List.eq_nil_or_concat (joinL gap zs) with hn | ⟨out, l, hn⟩
    · rw [hn, jstep_new gap [] z (fun z h => by simp at h)]
      refine ⟨by simp, fun y hy => ?_⟩
      simp at hy
      subst hy
      exact ⟨y, by simp, y, by simp, rfl, rfl⟩
    · rw [List.concat_eq_append] at hn
      by_cases hg : z.1 - l.2 ≤ gap
      · rw [hn, jstep_on gap out l z hg]
        refine ⟨by simp, fun y hy => ?_⟩
        rcases List.mem_append.1 hy with hy | hy
        · exact hold y (by rw [hn]; exact List.mem_append.2 (.inl hy))
        · simp at hy
          subst hy
          obtain ⟨a, ha, _, _, h1, _⟩ := hold l (by rw [hn]; simp)
          exact ⟨a, ha, z, by simp, h1, rfl⟩
      · rw [hn, jstep_new gap _ z (fun y hy => by simp at hy; subst hy; omega)]
        refine ⟨by simp, fun y hy => ?_⟩
        rcases List.mem_append.1 hy with hy | hy
        · exact hold y (by rw [hn]; exact hy)
        · simp at hy
          subst hy
          exact ⟨y, by simp, y, by simp, rfl, rfl⟩

/-- A gap below 0 joins as few as 0 does, of spans in form. -/
theorem joinL_gap (gap : Int) : ∀ (n : Nat) (F : List Sp), F.length = n → Form F → joinL gap F = joinL (max gap 0) F
  | 0, F, h, _ => by rw [List.eq_nil_of_length_eq_zero h]; rfl
  | n + 1, F, h, hF => by
    obtain ⟨zs, z, rfl⟩ : ∃ zs z, F = zs ++ [z] := ⟨F.dropLast, F.getLast (by intro e; subst e; simp at h), (List.dropLast_concat_getLast _).symm⟩
    have ih := joinL_gap gap n zs (by simpa using h) (form_pre hF)
    have hl := (joinL_last gap n zs (by simpa using h)).1
    rw [joinL_snoc, joinL_snoc, ← ih]
    rcases List.eq_nil_or_concat (joinL gap zs) with hn | ⟨out, l, hn⟩
    · rw [hn]; rfl
    · rw [List.concat_eq_append] at hn
      rw [hn] at hl ⊢
      have hlt : l.2 < z.1 := by
        rcases List.eq_nil_or_concat zs with hz | ⟨zo, zl, hz⟩
        · subst hz; simp [joinL] at hn
        · rw [List.concat_eq_append] at hz
          subst hz
          simp at hl
          have := (List.pairwise_append.1 hF.up).2.2 zl (by simp) z (by simp)
          omega
      by_cases hg : z.1 - l.2 ≤ gap
      · rw [jstep_on gap out l z hg, jstep_on (max gap 0) out l z (by omega)]
      · rw [jstep_new gap _ z (fun y hy => by simp at hy; subst hy; omega), jstep_new (max gap 0) _ z (fun y hy => by simp at hy; subst hy; omega)]
end Go.Proofs.Ytmpbmmoncelpkaa
