/- 'SpanSets': for every input the statement's function returns true: whatever spans are put in, a set has, step by step, the spans that the document says, and tells what it has, and has not. Conditions: none. -/
import Derived.Test.YtmpbmmoncelpkaaSpansR
import Derived.Test.YtmpbmmoncelpkaaRows
import Derived.ChangeOld
import Derived.Lib.SmallJoins
import Derived.Laws.OwnMore
namespace Go.Proofs.Ytmpbmmoncelpkaa.sets
open Go.RowKit Go.ChangeShapes Go.WideShapes Go.ChangeAt
set_option linter.unusedVariables false

theorem own : ownKnob Try.prog.godebug = none := by kernel_rfl
theorem laidOut : laidOutB Try.prog = true := by kernel_rfl

theorem made_marks {w : World} {g N cap : Nat} (h : w.ownsRow 0 4 1 (.slice (some ⟨g, 0, none⟩) N cap) N (madeCells (Value.bool false).cells (N * 1)).toList) : Mk w (.slice (some ⟨g, 0, none⟩) N cap) N (fun _ => false) := by
  have e : (madeCells (Value.bool false).cells (N * 1)).toList = (List.range N).map fun _ => Value.bool false := by
    rw [show (Value.bool false).cells = #[.bool false] from rfl, toList_madeCells_one, Nat.mul_one]
    apply List.ext_getElem
    · simp
    · intro i h1 h2
      simp
  rw [e] at h
  exact h

/-- The set's numbers are those that are marked. -/
def Same (N : Nat) (f : Nat → Bool) (F : List Sp) : Prop := Form F ∧ ∀ n, Num F n ↔ Gm N f n

theorem same_nil (N : Nat) : Same N (fun _ => false) [] := ⟨Form.nil, fun n => ⟨fun h => absurd h (num_nil n), fun h => by have := h.2.2; cases this⟩⟩
theorem small_le {x : Sp} (h : smallB x = true) : -300 ≤ x.1 ∧ x.1 ≤ 300 ∧ -300 ≤ x.2 ∧ x.2 ≤ 300 := by simpa [smallB] using h
theorem mark_iff (x : Sp) (n : Int) (hn : 0 ≤ n) : markB x n.toNat = true ↔ emptyB x = false ∧ x.1 ≤ n ∧ n < x.2 := by
  simp [markB, emptyB]
  omega
theorem same_put {f : Nat → Bool} {F : List Sp} {x : Sp} (h : Same 301 f F) (hx : smallB x = true) : Same 301 (fun i => f i || markB x i) (putF x F) := by
  have hs := small_le hx
  refine ⟨putF_form h.1 (by omega), fun n => ?_⟩
  rw [putF_num h.1, h.2]
  constructor
  · rintro (h1 | h1)
    · exact ⟨h1.1, h1.2.1, by simp [h1.2.2]⟩
    · have he : 0 ≤ x.1 := by have := h1.1; simp [emptyB] at this; omega
      exact ⟨by omega, by omega, by simp [(mark_iff x n (by omega)).2 h1]⟩
  · rintro ⟨h1, h2, h3⟩
    simp only [Bool.or_eq_true] at h3
    rcases h3 with h3 | h3
    · exact .inl ⟨h1, h2, h3⟩
    · exact .inr ((mark_iff x n h1).1 h3)
theorem same_ext {N : Nat} {f : Nat → Bool} {F L : List Sp} (h : Same N f F) (hL : Form L ∧ (∀ n, Num L n ↔ Gm N f n) ∧ L.length ≤ N + 1) : decide (F = L) = true := by
  simp only [decide_eq_true_eq]
  exact form_ext h.1 hL.1 (fun n => (h.2 n).trans (hL.2.1 n).symm)

/- How many. -/
def cnt (f : Nat → Bool) (k : Nat) : Nat := ((List.range k).filter f).length
theorem cnt_succ (f : Nat → Bool) (k : Nat) : cnt f (k + 1) = cnt f k + if f k then 1 else 0 := by
  simp only [cnt, List.range_succ, List.filter_append, List.length_append]
  cases h : f k <;> simp [h]
theorem cnt_le (f : Nat → Bool) (k : Nat) : cnt f k ≤ k := by
  have := List.length_filter_le f (List.range k)
  simpa [cnt] using this
def clipS : List Sp → Int → Int
  | [], _ => 0
  | y :: l, k => (min y.2 k - min y.1 k) + clipS l k
theorem clip_zero : ∀ (F : List Sp), Form F → clipS F 0 = 0
  | [], _ => rfl
  | y :: l, h => by
    have := h.ok y (List.mem_cons_self ..)
    simp only [clipS, clip_zero l h.tail]
    omega
theorem clip_all (N : Int) : ∀ (F : List Sp), Form F → (∀ y ∈ F, y.2 ≤ N) → clipS F N = sumR F
  | [], _, _ => rfl
  | y :: l, h, hy => by
    have h1 := h.ok y (List.mem_cons_self ..)
    have h2 := hy y (List.mem_cons_self ..)
    simp only [clipS, sumR, clip_all N l h.tail (fun z hz => hy z (List.mem_cons_of_mem _ hz))]
    omega
theorem clip_no (k : Int) : ∀ (F : List Sp), Form F → ¬ Num F k → clipS F (k + 1) = clipS F k
  | [], _, _ => rfl
  | y :: l, h, hn => by
    have h1 := h.ok y (List.mem_cons_self ..)
    rw [num_cons] at hn
    have ih := clip_no k l h.tail (fun h => hn (.inr h))
    have : ¬ (y.1 ≤ k ∧ k < y.2) := fun h => hn (.inl h)
    simp only [clipS, ih]
    omega
theorem clip_yes (k : Int) : ∀ (F : List Sp), Form F → Num F k → clipS F (k + 1) = clipS F k + 1
  | [], _, hn => absurd hn (num_nil k)
  | y :: l, h, hn => by
    have h1 := h.ok y (List.mem_cons_self ..)
    rw [num_cons] at hn
    by_cases hy : y.1 ≤ k ∧ k < y.2
    · have hl : ¬ Num l k := fun ⟨z, hz, hz'⟩ => by have := h.head z hz; omega
      have ih := clip_no k l h.tail hl
      simp only [clipS, ih]
      omega
    · have ih := clip_yes k l h.tail (hn.resolve_left hy)
      simp only [clipS, ih]
      omega
theorem clip_cnt {N : Nat} {f : Nat → Bool} {F : List Sp} (h : Same N f F) : ∀ k : Nat, k ≤ N → clipS F k = cnt f k
  | 0, _ => by simpa [cnt] using clip_zero F h.1
  | k + 1, hk => by
    have ih := clip_cnt h k (by omega)
    rw [cnt_succ]
    have hk' : ((k + 1 : Nat) : Int) = (k : Int) + 1 := by omega
    rw [hk']
    cases hf : f k with
    | true =>
      rw [clip_yes k F h.1 ((h.2 k).2 ⟨by omega, by omega, by simpa using hf⟩), ih]
      simp
    | false =>
      rw [clip_no k F h.1 (fun hn => by have := ((h.2 k).1 hn).2.2; rw [Int.toNat_natCast, hf] at this; cases this), ih]
      simp
theorem same_size {N : Nat} {f : Nat → Bool} {F : List Sp} (h : Same N f F) : sumR F = (cnt f N : Int) := by
  rw [← clip_cnt h N (Nat.le_refl _), clip_all N F h.1]
  intro y hy
  have h1 := h.1.ok y hy
  have := ((h.2 (y.2 - 1)).1 ⟨y, hy, by omega, by omega⟩).2.1
  omega

/-- Whether each of the first k numbers that x has is marked. -/
def hasM (x : Sp) (f : Nat → Bool) (k : Nat) : Bool := (List.range k).all fun i => !(markB x i && !f i)
theorem hasM_succ (x : Sp) (f : Nat → Bool) (k : Nat) : hasM x f (k + 1) = (hasM x f k && !(markB x k && !f k)) := by simp [hasM, List.range_succ]
theorem same_has {f : Nat → Bool} {F : List Sp} {x : Sp} (h : Same 301 f F) (hx : smallB x = true) : hasB x F = hasM x f 301 := by
  have hs := small_le hx
  rw [Bool.eq_iff_iff, hasB_of h.1]
  unfold hasM
  simp only [List.all_eq_true, List.mem_range]
  constructor
  · intro h1 i hi
    cases hm : markB x i with
    | false => rfl
    | true =>
      have h2 := (mark_iff x i (by omega)).1 (by simpa using hm)
      have h3 := ((h.2 i).1 (h1 i h2.1 h2.2.1 h2.2.2)).2.2
      rw [Int.toNat_natCast] at h3
      simp [h3]
  · intro h1 n he hn1 hn2
    have he0 : 0 ≤ x.1 := by have := he; simp [emptyB] at this; omega
    have h2 := h1 n.toNat (by omega)
    have hm := (mark_iff x n (by omega)).2 ⟨he, hn1, hn2⟩
    rw [hm] at h2
    exact (h.2 n).2 ⟨by omega, by omega, by simpa using h2⟩

theorem upto_uniq {F : List Sp} (h : Form F) {a u : Int} (h1 : a ≤ u) (h2 : ∀ n, a ≤ n → n < u → Num F n) (h3 : ¬ Num F u) : uptoL F a = u := by
  obtain ⟨u1, u2, u3⟩ := upto_spec h a
  rcases Int.lt_trichotomy (uptoL F a) u with h4 | h4 | h4
  · exact absurd (h2 _ u1 h4) u3
  · exact h4
  · exact absurd (u2 _ h1 h4) h3

theorem same_miss {f : Nat → Bool} {F : List Sp} {x : Sp} (h : Same 301 f F) (hx : smallB x = true) : Same 301 (fun i => markB x i && !f i) (missF x F) := by
  have hs := small_le hx
  refine ⟨(missF_form h.1 (by omega)).1, fun n => ?_⟩
  rw [missF_num h.1, h.2]
  constructor
  · rintro ⟨h1, h2, h3, h4⟩
    have he0 : 0 ≤ x.1 := by have := h1; simp [emptyB] at this; omega
    refine ⟨by omega, by omega, ?_⟩
    have hm := (mark_iff x n (by omega)).2 ⟨h1, h2, h3⟩
    cases hf : f n.toNat with
    | false => simp [hm, hf]
    | true => exact absurd ⟨by omega, by omega, hf⟩ h4
  · rintro ⟨h1, h2, h3⟩
    simp only [Bool.and_eq_true, Bool.not_eq_true'] at h3
    have hm := (mark_iff x n h1).1 h3.1
    exact ⟨hm.1, hm.2.1, hm.2.2, fun h4 => by have := h4.2.2; rw [h3.2] at this; cases this⟩

/-- The set, its marks, and x in its box. -/
structure St (w wr : World) (x1 x2 : Int) (g c : Nat) (f : Nat → Bool) (F : List Sp) : Prop where
  s : SetAt wr (w.heap.size + 1) F
  m : Mk wr (.slice (some ⟨g, 0, none⟩) 301 c) 301 f
  b : Blk wr w.heap.size 34 #[.int .i64 x1, .int .i64 x2]
  c : Chg NoS w wr
  g : w.heap.size ≤ g
  e : Same 301 f F

theorem St.no {w wr w' : World} {x1 x2 : Int} {g c : Nat} {f : Nat → Bool} {F : List Sp} (h : St w wr x1 x2 g c f F) (hc : Chg NoS wr w') : St w w' x1 x2 g c f F :=
  ⟨h.s.no hc, h.m.no hc, h.b.chg hc (fun h => h), h.c.then_ hc, h.g, h.e⟩
theorem St.ne {w wr : World} {x1 x2 : Int} {g c : Nat} {f : Nat → Bool} {F : List Sp} (h : St w wr x1 x2 g c f F) : g ≠ w.heap.size + 1 ∧ g ≠ w.heap.size := by
  obtain ⟨cs, hcs⟩ := h.m.blk (by omega)
  obtain ⟨_, _, hb, _⟩ := h.s
  exact ⟨Blk.ne_ hcs hb (by decide), Blk.ne_ hcs h.b (by decide)⟩
/-- Behind Put: the set has the span's numbers too, the marks not yet. -/
theorem St.put {w wr w1 : World} {x1 x2 : Int} {g c : Nat} {f : Nat → Bool} {F : List Sp} {y : Sp} {e : Ending} (h : St w wr x1 x2 g c f F) (hy : smallB y = true) (hp : PutTo wr (w.heap.size + 1) (putF y F) e w1) :
    e = .returned (.tuple #[]) ∧ SetAt w1 (w.heap.size + 1) (putF y F) ∧ Mk w1 (.slice (some ⟨g, 0, none⟩) 301 c) 301 f ∧ Blk w1 w.heap.size 34 #[.int .i64 x1, .int .i64 x2] ∧ Chg NoS w w1 := by
  obtain ⟨he, hs, hc⟩ := hp
  have hne := h.ne
  exact ⟨he, hs, h.m.chg hc (fun i hi hi2 => by simp [Value.ownBlock] at hi; omega), h.b.chg hc (by omega), h.c.trans hc (fun i h1 h2 => by omega)⟩

/-- A mark of another row is set. -/
theorem St.far {w wr : World} {x1 x2 : Int} {g c g5 : Nat} {f : Nat → Bool} {F : List Sp} (h : St w wr x1 x2 g c f F) (h1 : g < g5) (h2 : w.heap.size + 1 < g5) {cs : Array Value} (hcs : Blk wr g5 4 cs) (q : Nat) (u : Value) : St w (wr.setCell ⟨g5, q, none⟩ u) x1 x2 g c f F := by
  have hc := chg_set wr g5 q u
  refine ⟨h.s.chg hc (by omega) (noNode_of hcs (by decide)), h.m.chg hc (fun i hi hi2 => by simp [Value.ownBlock] at hi; omega), h.b.chg hc (by omega), h.c.setCell (fun hh => by have h' : g5 < w.heap.size := hh; omega) _, h.g, h.e⟩

theorem len_put (y : Sp) (F : List Sp) (k : Nat) (h : Form F) (hl : F.length ≤ k) : (putF y F).length ≤ k + 1 := Nat.le_trans (putF_len y F h) (by omega)

set_option maxHeartbeats 4000000 in
set_option maxRecDepth 100000 in
theorem walk (A : Option Addr) (len cap : Nat) (xs : List Sp) (x : Sp) (w : World) (hl : xs.length = len) (hm : len ≤ maxLen) (hS : Src w 2 A len cap (xs.flatMap encC)) (hg : ∀ p ∈ xs, goodS p)
    (hx1 : -9223372036854775808 ≤ x.1 ∧ x.1 ≤ 9223372036854775807) (hx2 : -9223372036854775808 ≤ x.2 ∧ x.2 ≤ 9223372036854775807) :
    Calls Try.prog 4 #[.slice A len cap, encS x] w fun e w' => e = .returned (.bool true) ∧ Below w.heap.size w w' := by
  obtain ⟨x1, x2⟩ := x
  unfold maxLen at hm
  clear hx1 hx2 hg
  have HS := keepf hS
  have HL := keepf hl
  clear hS hl
  have hbx : Blk (w.alloc (.cells #[.int .i64 x1, .int .i64 x2] 34)) w.heap.size 34 #[.int .i64 x1, .int .i64 x2] := Blk.new _ _ _
  have hs0 := set_new (w.alloc (.cells #[.int .i64 x1, .int .i64 x2] 34))
  rw [World.size_alloc] at hs0
  have HBX := keepf (hbx.alloc (.cells #[.pointer none] 38))
  have HS0 := keepf hs0
  have HC0 := keepf (((Chg.refl NoS w).alloc (.cells #[.int .i64 x1, .int .i64 x2] 34)).alloc (.cells #[.pointer none] 38))
  clear hbx hs0
  obtain ⟨i0, hi, hz0, hz1, hz2⟩ := info_parts info_bool
  go_enter Try.func4, Try.ntmps4
  go_wp2_with (first
    | (at_make; go_loud (refine wpList_make_full _ rfl (.const (.int .i64 301)) (.const (.int .i64 301)) 39 rfl 0 4 i0 (.bool false) 1 Try.underlying39 hi hz0 hz1 .i64 .i64 301 301 301 rfl rfl rfl rfl (by rw [hz2]; decide) (by unfold maxLen; decide) (Nat.zero_le _) ?_); intro w2 hown2 hgr; simp only [World.size_alloc] at hown2 ⊢; have HM2 := keepf (made_marks hown2); have hbx2 : Blk w2 w.heap.size 34 #[.int .i64 x1, .int .i64 x2] := HBX.out.grown hgr (by simp); have b0 := hbx2.cell 0; have b1 := hbx2.cell 1; simp at b0 b1; have HBX2 := keepf hbx2; have HCG := keepf (show Chg NoS _ w2 from (Chg.refl NoS _).grown hgr (fun _ e _ => by cases e)); clear hown2 hgr hbx2))
  refine (small_any (x1, x2) _).mono ?_
  rintro e w3 ⟨rfl, hc3⟩
  have hst3 : St w w3 x1 x2 (w.heap.size + 1 + 1) 301 (fun _ => false) [] := ⟨(HS0.out.no HCG.out).no hc3, HM2.out.no hc3, HBX2.out.chg hc3 (fun h => h), (HC0.out.then_ HCG.out).then_ hc3, by omega, same_nil _⟩
  have HST3 := keepf hst3
  clear hst3 hc3 HS0 HM2 HBX2 HCG HC0 b0 b1 HBX
  cases hsm : smallB (x1, x2) with
  | false =>
    clear hsm
    go_wp2_with fail
    refine (works_any _).mono ?_
    rintro e w9 ⟨rfl, hc9⟩
    have HC9 := keepf (HST3.out.c.then_ hc9)
    clear hc9
    go_wp2_with fail
    go_ret
    exact ⟨rfl, HC9.out.no_below⟩
  | true =>
    have HSM := keepf hsm
    clear hsm
    go_wp2_with fail
    refine (works_any _).mono ?_
    rintro e w4 ⟨rfl, hc4⟩
    have HST4 := keepf (HST3.out.no hc4)
    clear hc4 HST3
    go_wp2_with fail
    go_loopw [6, 7] (fun v i wr => ∃ (k g c : Nat) (f : Nat → Bool) (F : List Sp), k ≤ len ∧ k ≤ 40 ∧ i = .int .i64 k ∧ v = .slice (some ⟨g, 0, none⟩) 301 c ∧ St w wr x1 x2 g c f F ∧ F.length ≤ k) (fun _ i _ => len - (intOf i).toNat)
    case atStart => exact ⟨0, _, 301, _, [], Nat.zero_le _, Nat.zero_le _, rfl, rfl, HST4.out, Nat.zero_le _⟩
    case round =>
      obtain ⟨k, g, c, f, F, hk, hk40, rfl, rfl, hst, hFl⟩ := hrel
      have HT := keepf hst
      clear hst HST4
      by_cases hlt : k < len ∧ k < 40
      · obtain ⟨hlt1, hlt2⟩ := hlt
        obtain ⟨b, o, rfl, ⟨y1, y2⟩, hy, cy1, cy2⟩ := row_cells (src_no HS.out HT.out.c) HL.out hlt1
        simp only at cy1 cy2
        have CY1 := keepf (cy1)
        have CY2 := keepf (cy2)
        clear hy
        go_wp2_with fail
        refine (small_any (y1, y2) _).mono ?_
        rintro e w5 ⟨rfl, hc5⟩
        have HT5 := keepf (HT.out.no hc5)
        have e1 := (hc5.cell (p := ⟨b, o + k * 2, none⟩) (by exact cell_lt CY1.out) (fun h => h)).trans CY1.out
        have e2 := (hc5.cell (p := ⟨b, o + k * 2 + 1, none⟩) (by exact cell_lt CY2.out) (fun h => h)).trans CY2.out
        clear hc5 cy1 cy2 CY1 CY2 HT
        cases hys : smallB (y1, y2) with
        | false =>
          clear hys
          go_wp2_with fail
          refine (works_any _).mono ?_
          rintro e w9 ⟨rfl, hc9⟩
          have HC9 := keepf (HT5.out.c.then_ hc9)
          clear hc9
          go_wp2_with fail
          go_ret
          exact ⟨rfl, HC9.out.no_below⟩
        | true =>
          have hyl := small_le hys
          simp only at hyl
          have HYS := keepf hys
          have E1 := keepf e1
          have E2 := keepf e2
          clear hys
          go_wp2_with fail
          refine (put_any (w.heap.size + 1) (y1, y2) F _ HT5.out.s (by simp only; omega)).mono ?_
          intro e w6 hp
          obtain ⟨rfl, hs6, hm6, hb6, hc6⟩ := HT5.out.put HYS.out hp
          have hg6 := HT5.out.g
          have he6 := same_put HT5.out.e HYS.out
          have hFl6 := len_put (y1, y2) F k HT5.out.e.1 hFl
          have hbs : b ≠ w.heap.size + 1 := by
            rintro rfl
            obtain ⟨_, oo, hbb, _⟩ := HT5.out.s
            have h1 := hbb.cell (o + k * 2)
            rw [E1.out] at h1
            rcases Nat.eq_zero_or_pos (o + k * 2) with h0 | h0
            · rw [h0] at h1; simp at h1
            · rw [Array.getElem?_eq_none (by simp; omega)] at h1; cases h1
          have d1 := (hp.2.2.cell (p := ⟨b, o + k * 2, none⟩) (by exact cell_lt E1.out) hbs).trans E1.out
          have d2 := (hp.2.2.cell (p := ⟨b, o + k * 2 + 1, none⟩) (by exact cell_lt E2.out) hbs).trans E2.out
          have HS6 := keepf hs6
          have HM6 := keepf hm6
          have HB6 := keepf hb6
          have HC6 := keepf hc6
          have HG6 := keepf hg6
          have HE6 := keepf he6
          clear hp hs6 hm6 hb6 hc6 hg6 he6 hbs e1 e2 E1 E2 HT5
          go_wp2_with fail
          refine (refPut_any g 301 c f (y1, y2) _ HM6.out (by omega) (by omega)).mono ?_
          rintro e w7 ⟨g7, c7, rfl, hm7, hc7, hg7⟩
          have hst7 : St w w7 x1 x2 g7 c7 (fun i => f i || markB (y1, y2) i) (putF (y1, y2) F) := ⟨HS6.out.no hc7, hm7, HB6.out.chg hc7 (fun h => h), HC6.out.then_ hc7, Nat.le_trans HC6.out.size hg7, HE6.out⟩
          generalize (fun i => f i || markB (y1, y2) i) = f7 at hst7
          generalize putF (y1, y2) F = F7 at hst7 hFl6
          have HT7 := keepf hst7
          clear hm7 hc7 hg7 hst7 HS6 HM6 HB6 HC6 HG6 HE6 d1 d2
          go_wp2_with fail
          refine (all_any _ F7 _ HT7.out.s.v (by omega)).mono ?_
          rintro e w8 ⟨A8, c8, rfl, hown8, hc8, _⟩
          have HO8 := keepf hown8
          have HT8 := keepf (HT7.out.no hc8)
          clear hown8 hc8 HT7
          go_wp2_with fail
          refine (spans_any g7 301 c7 f7 _ HT8.out.m (by omega) (by omega)).mono ?_
          rintro e w9 ⟨L, hL, A9, c9, rfl, hown9, hc9, _⟩
          have HL9 := keepf hL
          have HO9 := keepf hown9
          have HR8 := keepf (src_no (src_own HO8.out) hc9)
          have HT9 := keepf (HT8.out.no hc9)
          have hLl := hL.2.2
          clear hL hown9 hc9 HO8 HT8
          go_wp2_with fail
          refine (same_any A8 A9 _ _ c8 c9 F7 L _ HR8.out (src_own HO9.out) rfl rfl (by unfold maxLen; omega) (by unfold maxLen; omega)).mono ?_
          rw [same_ext HT9.out.e HL9.out]
          rintro e w10 ⟨rfl, hc10⟩
          have HT10 := keepf (HT9.out.no hc10)
          clear hc10 HT9 HL9 HO9 HR8
          go_wp2_with fail
          go_roundw
          case rel => exact ⟨k + 1, g7, c7, f7, F7, by omega, by omega, by go_num, rfl, HT10.out, hFl6⟩
          case measure => simp [intOf]; omega
      · have hcase : k = len ∨ (k < len ∧ k = 40) := by omega
        have hFl40 : F.length ≤ 40 := by omega
        clear hlt HS HL hFl
        rcases hcase with rfl | ⟨hk1, rfl⟩
        all_goals
          have hgw := HT.out.m.blk (by omega)
          obtain ⟨cs, hcs⟩ := hgw
          have hglt := hcs.lt
          have hslt := HT.out.s.lt
          have HT0 := keepf HT.out
          clear hcs
          go_wp2_with (first
            | (at_make; go_loud (refine wpList_make_full _ rfl (.tmp 61) (.tmp 61) 39 rfl 0 4 i0 (.bool false) 1 Try.underlying39 hi hz0 hz1 .i64 .i64 301 301 301 rfl rfl rfl rfl (by rw [hz2]; decide) (by unfold maxLen; decide) (Nat.zero_le _) ?_); intro w5 hown5 hgr; have HM5 := keepf (made_marks hown5); have HT5 := keepf (HT0.out.no (show Chg NoS _ w5 from (Chg.refl NoS _).grown hgr (fun _ e _ => by cases e))); clear hown5 hgr))
          obtain ⟨g5, hg5⟩ : ∃ g5, g5 = wr.heap.size := ⟨_, rfl⟩
          rw [← hg5] at HM5 ⊢
          have hg5a : g < g5 := by omega
          have hg5b : w.heap.size + 1 < g5 := by omega
          clear hg5 hglt hslt HT HT0
          go_loopw [8, 9, 11] (fun n h i wz => ∃ q : Nat, q ≤ 301 ∧ i = .int .i64 q ∧ n = .int .i64 (cnt f q) ∧ h = .bool (hasM (x1, x2) f q) ∧ St w wz x1 x2 g c f F ∧ Mk wz (.slice (some ⟨g5, 0, none⟩) 301 301) 301 (fun i => decide (i < q) && (markB (x1, x2) i && !f i))) (fun _ _ i _ => 301 - (intOf i).toNat)
          case atStart => exact ⟨0, Nat.zero_le _, rfl, rfl, rfl, HT5.out, HM5.out.congr (fun i _ => by simp)⟩
          case round =>
            obtain ⟨q, hq, rfl, rfl, rfl, hst, hm5⟩ := hrel
            have HT := keepf hst
            have HM := keepf hm5
            have b0 := hst.b.cell 0
            have b1 := hst.b.cell 1
            simp at b0 b1
            clear hst hm5 HT5 HM5
            by_cases hlt : q < 301
            · have c0 := HT.out.m.cell hlt
              obtain ⟨cs5, hcs5⟩ := HM.out.blk (by omega)
              have f0 := hcs5.frozen q
              have m0 := HM.out.cell hlt
              have hcnt := cnt_succ f q
              have hcl := cnt_le f q
              have hhas := hasM_succ (x1, x2) f q
              have hset : ∀ i, i < 301 → (if i = q then (markB (x1, x2) q && !f q) else (decide (i < q) && (markB (x1, x2) i && !f i))) = (decide (i < q + 1) && (markB (x1, x2) i && !f i)) := fun i _ => by
                by_cases e : i = q
                · subst e; simp
                · rw [if_neg e, show decide (i < q + 1) = decide (i < q) from by simp; omega]
              have hcase : (markB (x1, x2) q = true ∧ 0 ≤ x1 ∧ x1 ≤ (q : Int) ∧ (q : Int) < x2) ∨ (markB (x1, x2) q = false ∧ decide (0 ≤ x1) = false) ∨ (markB (x1, x2) q = false ∧ 0 ≤ x1 ∧ decide (x1 ≤ (q : Int)) = false) ∨ (markB (x1, x2) q = false ∧ 0 ≤ x1 ∧ x1 ≤ (q : Int) ∧ decide ((q : Int) < x2) = false) := by
                simp [markB]
                omega
              generalize (decide (q < q) && (markB (x1, x2) q && !f q)) = v0 at m0
              generalize f q = fv at c0 hcnt hhas hset
              generalize hmk : markB (x1, x2) q = mv at hhas hset hcase
              generalize hasM (x1, x2) f q = hv at hhas ⊢
              generalize cnt f q = cn at hcnt hcl ⊢
              have HCN := keepf hcnt
              have HHS := keepf hhas
              have HSET := keepf hset
              have HCS5 := keepf hcs5
              clear hcnt hhas hset hcs5 hmk
              rcases hcase with ⟨rfl, x11, x12, x13⟩ | ⟨rfl, x11⟩ | ⟨rfl, x11, x12⟩ | ⟨rfl, x11, x12, x13⟩
              all_goals
                cases fv
                all_goals
                  cases hv
                  all_goals
                    go_wp2_with fail
                    go_roundw
                    case rel => exact ⟨q + 1, by omega, by go_num, by first | (rw [HCN.out]; rfl) | (rw [HCN.out]; simp), by rw [HHS.out]; rfl, HT.out.far hg5a hg5b HCS5.out q _, (HM.out.set_ q _).congr HSET.out⟩
                    case measure => simp [intOf]; omega
            · obtain rfl : q = 301 := by omega
              have hsz := same_size HT.out.e
              have hhas := same_has HT.out.e HSM.out
              have hms := same_miss HT.out.e HSM.out
              have hm5 := HM.out.congr (g := fun i => markB (x1, x2) i && !f i) (fun i hi => by simp [hi])
              have hx300 := (small_le HSM.out).2.1
              have hxlo := (small_le HSM.out).1
              simp only at hx300 hxlo
              generalize cnt f 301 = cn at hsz ⊢
              generalize hasM (x1, x2) f 301 = hv at hhas ⊢
              generalize (fun i => markB (x1, x2) i && !f i) = fm at hms hm5
              clear HM
              have HM := keepf hm5
              have HSZ := keepf hsz
              have HHAS := keepf hhas
              have HMS := keepf hms
              clear hsz hhas hms hm5 hlt hq
              go_wp2_with fail
              go_loop [13] (fun up => ∃ u : Int, up = .int .i64 u ∧ x1 ≤ u ∧ u ≤ 301 ∧ Hid (∀ n, x1 ≤ n → n < u → Gm 301 f n)) (fun up => (301 - intOf up).toNat)
              case atStart => exact ⟨x1, rfl, Int.le_refl _, by omega, fun n h1 h2 => by omega⟩
              case round =>
                obtain ⟨u, rfl, hu1, hu2, HU⟩ := hrel
                by_cases h0 : 0 ≤ u
                · by_cases h3 : u < 301
                  · obtain ⟨k, rfl⟩ := Int.eq_ofNat_of_zero_le h0
                    have ck := HT.out.m.cell (show k < 301 by omega)
                    cases hf : f k with
                    | true =>
                      rw [hf] at ck
                      have HF := keepf hf
                      clear hf
                      go_wp2_with fail
                      go_round
                      case rel =>
                        refine ⟨(k : Int) + 1, rfl, by omega, by omega, fun n h1 h2 => ?_⟩
                        by_cases e : n = (k : Int)
                        · subst e; exact ⟨by omega, by omega, by simpa using HF.out⟩
                        · exact HU.out n h1 (by omega)
                      case measure => simp [intOf]; omega
                    | false =>
                      rw [hf] at ck
                      have hup : uptoL F x1 = (k : Int) := upto_uniq HT.out.e.1 hu1 (fun n h1 h2 => (HT.out.e.2 n).2 (HU.out n h1 h2)) (fun hn => by have := ((HT.out.e.2 _).1 hn).2.2; rw [Int.toNat_natCast, hf] at this; cases this)
                      have HUP := keepf hup
                      clear hf hup
                      have hsize := size_any _ F _ HT.out.s.v
                      rw [HSZ.out] at hsize
                      have HSIZE := keepf hsize
                      clear hsize
                      go_wp2_with fail
                      refine HSIZE.out.mono ?_
                      rintro e w11 ⟨rfl, hc11⟩
                      have HT11 := keepf (HT.out.no hc11)
                      have HM11 := keepf (HM.out.no hc11)
                      have hhas := has_any _ F (x1, x2) w11 HT11.out.s.v
                      rw [HHAS.out] at hhas
                      have HHAS2 := keepf hhas
                      have e0 := HT11.out.b.cell 0
                      have e1 := HT11.out.b.cell 1
                      simp at e0 e1
                      clear hc11 hhas
                      go_wp2_with fail
                      refine HHAS2.out.mono ?_
                      rintro e w12 ⟨rfl, hc12⟩
                      have HT12 := keepf (HT11.out.no hc12)
                      have HM12 := keepf (HM11.out.no hc12)
                      have hupx := upto_any _ F x1 w12 HT12.out.s.v
                      rw [HUP.out] at hupx
                      have HUPX := keepf hupx
                      have e2 := HT12.out.b.cell 0
                      have e3 := HT12.out.b.cell 1
                      simp at e2 e3
                      clear hc12 hupx e0 e1
                      go_wp2_with fail
                      refine HUPX.out.mono ?_
                      rintro e w13 ⟨rfl, hc13⟩
                      have HT13 := keepf (HT12.out.no hc13)
                      have HM13 := keepf (HM12.out.no hc13)
                      have e4 := HT13.out.b.cell 0
                      have e5 := HT13.out.b.cell 1
                      simp at e4 e5
                      clear hc13 e2 e3
                      go_wp2_with fail
                      refine (missing_any _ F (x1, x2) _ HT13.out.s.v (by omega)).mono ?_
                      rintro e w14 ⟨A14, c14, rfl, hown14, hc14, _⟩
                      have HO14 := keepf hown14
                      have HM14 := keepf (HM13.out.no hc14)
                      have HC14 := keepf (HT13.out.c.then_ hc14)
                      clear hown14 hc14 e4 e5
                      go_wp2_with fail
                      refine (spans_any g5 301 301 _ _ HM14.out (by omega) (by omega)).mono ?_
                      rintro e w15 ⟨L, hL, A15, c15, rfl, hown15, hc15, _⟩
                      have HL15 := keepf hL
                      have HO15 := keepf hown15
                      have HR14 := keepf (src_no (src_own HO14.out) hc15)
                      have HC15 := keepf (HC14.out.then_ hc15)
                      have hLl := hL.2.2
                      have hMl := missF_len (x1, x2) F
                      clear hL hown15 hc15
                      go_wp2_with fail
                      refine (same_any A14 A15 _ _ c14 c15 (missF (x1, x2) F) L _ HR14.out (src_own HO15.out) rfl rfl (by unfold maxLen; omega) (by unfold maxLen; omega)).mono ?_
                      rw [same_ext HMS.out HL15.out]
                      rintro e w16 ⟨rfl, hc16⟩
                      have HC16 := keepf (HC15.out.then_ hc16)
                      clear hc16
                      cases hv
                      all_goals
                        go_wp2_with fail
                        go_ret
                        exact ⟨rfl, HC16.out.no_below⟩
                  · have d0 : decide (u < 301) = false := by simpa using h3
                    have hup : uptoL F x1 = u := upto_uniq HT.out.e.1 hu1 (fun n h1 h2 => (HT.out.e.2 n).2 (HU.out n h1 h2)) (fun hn => by have := ((HT.out.e.2 _).1 hn).2.1; omega)
                    have HUP := keepf hup
                    clear h3 hup
                    have hsize := size_any _ F _ HT.out.s.v
                    rw [HSZ.out] at hsize
                    have HSIZE := keepf hsize
                    clear hsize
                    go_wp2_with fail
                    refine HSIZE.out.mono ?_
                    rintro e w11 ⟨rfl, hc11⟩
                    have HT11 := keepf (HT.out.no hc11)
                    have HM11 := keepf (HM.out.no hc11)
                    have hhas := has_any _ F (x1, x2) w11 HT11.out.s.v
                    rw [HHAS.out] at hhas
                    have HHAS2 := keepf hhas
                    have e0 := HT11.out.b.cell 0
                    have e1 := HT11.out.b.cell 1
                    simp at e0 e1
                    clear hc11 hhas
                    go_wp2_with fail
                    refine HHAS2.out.mono ?_
                    rintro e w12 ⟨rfl, hc12⟩
                    have HT12 := keepf (HT11.out.no hc12)
                    have HM12 := keepf (HM11.out.no hc12)
                    have hupx := upto_any _ F x1 w12 HT12.out.s.v
                    rw [HUP.out] at hupx
                    have HUPX := keepf hupx
                    have e2 := HT12.out.b.cell 0
                    have e3 := HT12.out.b.cell 1
                    simp at e2 e3
                    clear hc12 hupx e0 e1
                    go_wp2_with fail
                    refine HUPX.out.mono ?_
                    rintro e w13 ⟨rfl, hc13⟩
                    have HT13 := keepf (HT12.out.no hc13)
                    have HM13 := keepf (HM12.out.no hc13)
                    have e4 := HT13.out.b.cell 0
                    have e5 := HT13.out.b.cell 1
                    simp at e4 e5
                    clear hc13 e2 e3
                    go_wp2_with fail
                    refine (missing_any _ F (x1, x2) _ HT13.out.s.v (by omega)).mono ?_
                    rintro e w14 ⟨A14, c14, rfl, hown14, hc14, _⟩
                    have HO14 := keepf hown14
                    have HM14 := keepf (HM13.out.no hc14)
                    have HC14 := keepf (HT13.out.c.then_ hc14)
                    clear hown14 hc14 e4 e5
                    go_wp2_with fail
                    refine (spans_any g5 301 301 _ _ HM14.out (by omega) (by omega)).mono ?_
                    rintro e w15 ⟨L, hL, A15, c15, rfl, hown15, hc15, _⟩
                    have HL15 := keepf hL
                    have HO15 := keepf hown15
                    have HR14 := keepf (src_no (src_own HO14.out) hc15)
                    have HC15 := keepf (HC14.out.then_ hc15)
                    have hLl := hL.2.2
                    have hMl := missF_len (x1, x2) F
                    clear hL hown15 hc15
                    go_wp2_with fail
                    refine (same_any A14 A15 _ _ c14 c15 (missF (x1, x2) F) L _ HR14.out (src_own HO15.out) rfl rfl (by unfold maxLen; omega) (by unfold maxLen; omega)).mono ?_
                    rw [same_ext HMS.out HL15.out]
                    rintro e w16 ⟨rfl, hc16⟩
                    have HC16 := keepf (HC15.out.then_ hc16)
                    clear hc16
                    cases hv
                    all_goals
                      go_wp2_with fail
                      go_ret
                      exact ⟨rfl, HC16.out.no_below⟩
                · have d0 : decide (0 ≤ u) = false := by simpa using h0
                  have hup : uptoL F x1 = u := upto_uniq HT.out.e.1 hu1 (fun n h1 h2 => (HT.out.e.2 n).2 (HU.out n h1 h2)) (fun hn => by have := ((HT.out.e.2 _).1 hn).1; omega)
                  have HUP := keepf hup
                  clear h0 hup
                  have hsize := size_any _ F _ HT.out.s.v
                  rw [HSZ.out] at hsize
                  have HSIZE := keepf hsize
                  clear hsize
                  go_wp2_with fail
                  refine HSIZE.out.mono ?_
                  rintro e w11 ⟨rfl, hc11⟩
                  have HT11 := keepf (HT.out.no hc11)
                  have HM11 := keepf (HM.out.no hc11)
                  have hhas := has_any _ F (x1, x2) w11 HT11.out.s.v
                  rw [HHAS.out] at hhas
                  have HHAS2 := keepf hhas
                  have e0 := HT11.out.b.cell 0
                  have e1 := HT11.out.b.cell 1
                  simp at e0 e1
                  clear hc11 hhas
                  go_wp2_with fail
                  refine HHAS2.out.mono ?_
                  rintro e w12 ⟨rfl, hc12⟩
                  have HT12 := keepf (HT11.out.no hc12)
                  have HM12 := keepf (HM11.out.no hc12)
                  have hupx := upto_any _ F x1 w12 HT12.out.s.v
                  rw [HUP.out] at hupx
                  have HUPX := keepf hupx
                  have e2 := HT12.out.b.cell 0
                  have e3 := HT12.out.b.cell 1
                  simp at e2 e3
                  clear hc12 hupx e0 e1
                  go_wp2_with fail
                  refine HUPX.out.mono ?_
                  rintro e w13 ⟨rfl, hc13⟩
                  have HT13 := keepf (HT12.out.no hc13)
                  have HM13 := keepf (HM12.out.no hc13)
                  have e4 := HT13.out.b.cell 0
                  have e5 := HT13.out.b.cell 1
                  simp at e4 e5
                  clear hc13 e2 e3
                  go_wp2_with fail
                  refine (missing_any _ F (x1, x2) _ HT13.out.s.v (by omega)).mono ?_
                  rintro e w14 ⟨A14, c14, rfl, hown14, hc14, _⟩
                  have HO14 := keepf hown14
                  have HM14 := keepf (HM13.out.no hc14)
                  have HC14 := keepf (HT13.out.c.then_ hc14)
                  clear hown14 hc14 e4 e5
                  go_wp2_with fail
                  refine (spans_any g5 301 301 _ _ HM14.out (by omega) (by omega)).mono ?_
                  rintro e w15 ⟨L, hL, A15, c15, rfl, hown15, hc15, _⟩
                  have HL15 := keepf hL
                  have HO15 := keepf hown15
                  have HR14 := keepf (src_no (src_own HO14.out) hc15)
                  have HC15 := keepf (HC14.out.then_ hc15)
                  have hLl := hL.2.2
                  have hMl := missF_len (x1, x2) F
                  clear hL hown15 hc15
                  go_wp2_with fail
                  refine (same_any A14 A15 _ _ c14 c15 (missF (x1, x2) F) L _ HR14.out (src_own HO15.out) rfl rfl (by unfold maxLen; omega) (by unfold maxLen; omega)).mono ?_
                  rw [same_ext HMS.out HL15.out]
                  rintro e w16 ⟨rfl, hc16⟩
                  have HC16 := keepf (HC15.out.then_ hc16)
                  clear hc16
                  cases hv
                  all_goals
                    go_wp2_with fail
                    go_ret
                    exact ⟨rfl, HC16.out.no_below⟩

set_option maxRecDepth 100000 in
theorem lifted (os : Os) (started : os.Started) (H : Type) (enc : TypeId × Value → H) :
    ReturnsInHanded {} Try.checked os 4 .any (Rows.spanSetsSpec.pre6 enc Try.prog Try.f4 Rows.spanSetsRow.domain false) (Rows.spanSetsSpec.post enc Try.prog Try.f4 false true false false) := by
  refine returnsInHanded_of_change (C := Try.checked) own started (by kernel_rfl) Try.func4
    (ChangeSpec.witness6 (enc := enc) (C := Try.checked) false ⟨#[], #[.slice none 0 0, .agg #[.int .i64 0, .int .i64 0]], []⟩ 8 (by kernel_rfl) (by kernel_rfl) (by kernel_rfl) (by kernel_rfl)) ?_
  intro W base args ds gs before hval0 hW hcnd _
  have hval : ∀ (j : Nat) t v, Try.f4.params[j]? = some t → args[j]? = some v → Value.okWide Try.prog W .any base t v := hval0
  have hW' := hW
  obtain ⟨p, q, hA0, hV, rfl, hfz, hnd⟩ := hW
  have hA : DataW.TrodAll enc Try.prog W 0 (fun _ => true) true Try.f4.params.toList args.toList ds p := hA0
  rw [Try.params4] at hA hval
  obtain ⟨v0, vs0, d0, ds0, p0, q0, hargs, rfl, rfl, h0, r0⟩ := trodAll_cons hA
  obtain ⟨v1, vs1, d1, ds1, p1, q1, rfl, rfl, rfl, h1, r1⟩ := trodAll_cons r0
  obtain ⟨rfl, rfl, rfl⟩ := trodAll_nil r1
  obtain rfl : args = #[v0, v1] := by cases args; simp_all
  obtain ⟨rfl, rfl⟩ := trodVars_none hV
  obtain ⟨a0, len0, cap0, rfl⟩ := okWide_slice Try.underlying32 (hval 0 32 v0 rfl rfl)
  have k0 := h0
  have lt0 : ∀ x ∈ p0, x.block < W.heap.size := by obtain ⟨m, hm⟩ := k0; exact DataW.trod_lt m _ _ _ hm
  obtain ⟨hm0, xs0, hl0, hS0, hg0⟩ : len0 ≤ maxLen ∧ ∃ xs : List Sp, xs.length = len0 ∧ Src W 2 a0 len0 cap0 (xs.flatMap encC) ∧ ∀ b ∈ xs, goodS b := by
    obtain ⟨fuel, hf⟩ := h0
    exact open_rows encC goodS 2 Try.underlying32 (by kernel_rfl) (fun _ => rfl) (fun n cs y h _ => span_el h) (by simpa [Value.cells] using hf)
  have k1 := h1
  have lt1 : ∀ x ∈ p1, x.block < W.heap.size := by obtain ⟨m, hm⟩ := k1; exact DataW.trod_lt m _ _ _ hm
  obtain ⟨cu1, cv1, y01, y11, m1, rfl, _, _, hy01, hy11⟩ := Go.Joins.open_agg2 Try.underlying34 (by kernel_rfl) (by kernel_rfl) (hval 1 34 v1 rfl rfl) h1
  obtain ⟨za1, ea1, ga1⟩ := el_int Try.underlying3 hy01
  obtain ⟨zb1, eb1, gb1⟩ := el_int Try.underlying3 hy11
  simp only [List.cons.injEq, and_true] at ea1 eb1
  subst ea1 eb1
  clear hA0 hval0
  refine (walk a0 len0 cap0 xs0 (za1, zb1) W hl0 hm0 hS0 hg0 (bounds_i64 ga1) (bounds_i64 gb1)).mono fun e W' ⟨he, bel⟩ => ?_
  subst he
  exact ⟨_, rfl, _, _, _, [], _, [], hW', trodAll_mk1 (shut_bool Try.underlying4 _), (trodAll_cons_mk (Below.trod laidOut (by kernel_rfl) (of_decide_eq_true (by kernel_rfl)) k0 bel lt0) (trodAll_cons_mk (Below.trod laidOut (by kernel_rfl) (of_decide_eq_true (by kernel_rfl)) k1 bel lt1) trodAll_mk0)), rfl, bel.frame _, fun h => by cases h⟩

theorem over : Rows.spanSetsRow.holds Try.pinned (OpenSpec.ofChange Rows.spanSetsSpec) :=
  OpenClaim.holds_of_wide 4 Try.f4 rfl rfl rfl rfl rfl rfl rfl ⟨rfl, rfl, rfl, rfl, rfl⟩ rfl rfl rfl rfl rfl (by kernel_rfl) Try.func4 (by kernel_rfl)
    (of_decide_eq_true (by kernel_rfl)) (by unfold Func.isWrapper; first | (rw [if_pos (by decide +kernel)]; kernel_rfl) | (rw [if_neg (by decide +kernel)]; exact ⟨rfl, rfl⟩))
    (fun os started H enc _ => lifted os started H enc)

theorem proved : Rows.SpanSetsSaid := over
#print axioms proved
end Go.Proofs.Ytmpbmmoncelpkaa.sets
