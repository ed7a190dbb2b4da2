/- Merged by program: QTok VDi3 VSoM VSwp VSyD VSIn. -/
import Derived.Test.YtaababegolfjeaaG06
import Derived.Test.YtaababegolfjeaaG07
import Derived.Test.YtaababegolfjeaaG08
import Derived.Test.YtaababegolfjeaaG14
import Derived.WalkKit
import Derived.StillTailTactics
import Derived.BigQuiet
import Derived.BigRegion
import Derived.Shelf.Abstract
/- parse.token: the token that stands from a place on, where one must (written by mkqtok.py). -/
namespace Go.Proofs.Ytaababegolfjeaa
open Go.RowKit
set_option linter.unusedVariables false
set_option linter.unusedSimpArgs false

/-- The token that must be there. -/
def mustO (r : Int × Tkn) : Int × Tkn := if r.1 = 0 ∧ r.2.kind = 0 then (10, noT 0) else r

set_option maxHeartbeats 4000000 in
set_option maxRecDepth 100000 in
theorem qtok_any (bs : List Nat) (A : Option Addr) (c : Nat) (p : Int) (last : Bool) (w : World) (hS : Src w 1 A bs.length c (lcells bs)) (hl : bs.length ≤ 90000) (hc : bs.length ≤ c) (hb : ∀ x ∈ bs, x < 256) :
    Calls Try.prog 9 #[.slice A bs.length c, .int .i64 p, .bool last] w (NxTo w (mustO (nextA bs p last))) := by
  have HNX := keepf (fun W (hW : Chg NoS w W) => pnext_any bs A c p last W (Src.below (w0 := w) hS hW) hl hc hb)
  obtain ⟨n, hn⟩ : ∃ n, n = bs.length := ⟨_, rfl⟩
  obtain ⟨R, hR⟩ : ∃ R, R = nextA bs p last := ⟨_, rfl⟩
  rw [← hR, ← hn] at HNX
  rw [← hR, ← hn]
  obtain ⟨er, t⟩ := R
  obtain ⟨tk, tf, tt_, tvk, tvn, tvs, ts⟩ := t
  unfold NxTo tknV at HNX ⊢
  simp only [] at HNX
  have HZ0 := keepf (fun (r : Int × Tkn) (h : mustO (er, ⟨tk, tf, tt_, tvk, tvn, tvs, ts⟩) = r) => h)
  obtain ⟨S6, hS6⟩ : ∃ S6, S6 = sb tvs := ⟨_, rfl⟩
  obtain ⟨S7, hS7⟩ : ∃ S7, S7 = sb ts := ⟨_, rfl⟩
  rw [← hS6, ← hS7] at HNX
  have HS6 := keepf hS6
  have HS7 := keepf hS7
  have HB0 := keepf (Blk.new w 37 #[.int .i64 0, .int .i64 0, .int .i64 0, .int .i64 0, .int .i64 0, .string ⟨#[]⟩, .slice none 0 0, .string ⟨#[]⟩])
  have HC0 := keepf ((Chg.refl NoS w).alloc (.cells #[.int .i64 0, .int .i64 0, .int .i64 0, .int .i64 0, .int .i64 0, .string ⟨#[]⟩, .slice none 0 0, .string ⟨#[]⟩] 37))
  clear hS hb hR hn hS6 hS7 hl hc
  by_cases he : er = 0
  · subst he
    by_cases hk : tk = 0
    · subst hk
      have HZ := keepf (HZ0.out (10, noT 0) (if_pos ⟨rfl, rfl⟩))
      clear HZ0
      go_enter Try.func9, Try.ntmps9
      go_upto_region 2 with (go_at_call 18; refine (HNX.out _ HC0.out).mono ?_; rintro e w3 ⟨rfl, hc3⟩; have HC3 := keepf hc3; clear hc3)
      have HB6 := keepf ((HB0.out.chg HC3.out (fun e => e)).alloc (.cells #[.int .i64 0, .int .i64 (tf : Nat), .int .i64 (tt_ : Nat), .int .i64 (tvk : Nat), .int .i64 tvn, .string S6, .slice none 0 0, .string S7] 37))
      have HB8 := keepf (Blk.new w3 37 #[.int .i64 0, .int .i64 (tf : Nat), .int .i64 (tt_ : Nat), .int .i64 (tvk : Nat), .int .i64 tvn, .string S6, .slice none 0 0, .string S7])
      have HC4 := keepf ((HC0.out.trans HC3.out (fun _ _ e => e)).alloc (.cells #[.int .i64 0, .int .i64 (tf : Nat), .int .i64 (tt_ : Nat), .int .i64 (tvk : Nat), .int .i64 tvn, .string S6, .slice none 0 0, .string S7] 37))
      obtain ⟨W4, hW4⟩ : ∃ W4, W4 = w3.alloc (.cells #[.int .i64 0, .int .i64 (tf : Nat), .int .i64 (tt_ : Nat), .int .i64 (tvk : Nat), .int .i64 tvn, .string S6, .slice none 0 0, .string S7] 37) := ⟨_, rfl⟩
      obtain ⟨g8, hg8⟩ : ∃ g8, g8 = w3.heap.size := ⟨_, rfl⟩
      rw [← hW4] at HB6 HB8 HC4 ⊢
      rw [← hg8] at HB8 ⊢
      obtain ⟨g6, hg6⟩ : ∃ g6, g6 = w.heap.size := ⟨_, rfl⟩
      rw [← hg6] at HB6 ⊢
      have hge6 : w.heap.size ≤ g6 := by omega
      obtain ⟨q0, q1, q2, q3, q4, q5, q6, q7, y0, y1, y2, y3, y4, y5, y6, y7⟩ := HB8.out.cl8
      obtain ⟨r0, r1, r2, r3, r4, r5, r6, r7, z0, z1, z2, z3, z4, z5, z6, z7⟩ := HB6.out.cl8
      clear hW4 hg6 hg8 HB0 HC0 HC3 HB6 HB8 HNX
      go_wp2_with fail
      refine bodyPost_ret (v := .tuple #[.agg #[.int .i64 0, .int .i64 0, .int .i64 0, .int .i64 0, .int .i64 0, .string ⟨#[]⟩, .slice none 0 0, .string ⟨#[]⟩], .int .i64 10]) (by simp [results, Try.results9, go_sem, r0, r1, r2, r3, r4, r5, r6, r7]) rfl ?_
      refine ⟨by rw [HZ.out]; rfl, ?_⟩
      exact Chg.newc hge6 (Chg.newc hge6 (Chg.newc hge6 (Chg.newc hge6 (Chg.newc hge6 (Chg.newc hge6 (Chg.newc hge6 (Chg.newc hge6 HC4.out)))))))
    · have HZ := keepf (HZ0.out _ (if_neg (fun h => hk h.2)))
      have e1 : ((tk : Int) == 0) = false := by simp; omega
      have e2 : (tk == 0) = false := by simp; omega
      clear HZ0 hk
      go_enter Try.func9, Try.ntmps9
      go_upto_region 2 with (go_at_call 18; refine (HNX.out _ HC0.out).mono ?_; rintro e w3 ⟨rfl, hc3⟩; have HC3 := keepf hc3; clear hc3)
      have HB6 := keepf ((HB0.out.chg HC3.out (fun e => e)).alloc (.cells #[.int .i64 (tk : Nat), .int .i64 (tf : Nat), .int .i64 (tt_ : Nat), .int .i64 (tvk : Nat), .int .i64 tvn, .string S6, .slice none 0 0, .string S7] 37))
      have HB8 := keepf (Blk.new w3 37 #[.int .i64 (tk : Nat), .int .i64 (tf : Nat), .int .i64 (tt_ : Nat), .int .i64 (tvk : Nat), .int .i64 tvn, .string S6, .slice none 0 0, .string S7])
      have HC4 := keepf ((HC0.out.trans HC3.out (fun _ _ e => e)).alloc (.cells #[.int .i64 (tk : Nat), .int .i64 (tf : Nat), .int .i64 (tt_ : Nat), .int .i64 (tvk : Nat), .int .i64 tvn, .string S6, .slice none 0 0, .string S7] 37))
      obtain ⟨W4, hW4⟩ : ∃ W4, W4 = w3.alloc (.cells #[.int .i64 (tk : Nat), .int .i64 (tf : Nat), .int .i64 (tt_ : Nat), .int .i64 (tvk : Nat), .int .i64 tvn, .string S6, .slice none 0 0, .string S7] 37) := ⟨_, rfl⟩
      obtain ⟨g8, hg8⟩ : ∃ g8, g8 = w3.heap.size := ⟨_, rfl⟩
      rw [← hW4] at HB6 HB8 HC4 ⊢
      rw [← hg8] at HB8 ⊢
      obtain ⟨g6, hg6⟩ : ∃ g6, g6 = w.heap.size := ⟨_, rfl⟩
      rw [← hg6] at HB6 ⊢
      have hge6 : w.heap.size ≤ g6 := by omega
      obtain ⟨q0, q1, q2, q3, q4, q5, q6, q7, y0, y1, y2, y3, y4, y5, y6, y7⟩ := HB8.out.cl8
      obtain ⟨r0, r1, r2, r3, r4, r5, r6, r7, z0, z1, z2, z3, z4, z5, z6, z7⟩ := HB6.out.cl8
      clear hW4 hg6 hg8 HB0 HC0 HC3 HB6 HB8 HNX
      go_wp2_with fail
      refine bodyPost_ret (v := .tuple #[.agg #[.int .i64 (tk : Nat), .int .i64 (tf : Nat), .int .i64 (tt_ : Nat), .int .i64 (tvk : Nat), .int .i64 tvn, .string S6, .slice none 0 0, .string S7], .int .i64 0]) (by simp [results, Try.results9, go_sem, r0, r1, r2, r3, r4, r5, r6, r7]) rfl ?_
      refine ⟨by rw [HZ.out]; rw [HS6.out, HS7.out], ?_⟩
      exact Chg.newc hge6 (Chg.newc hge6 (Chg.newc hge6 (Chg.newc hge6 (Chg.newc hge6 (Chg.newc hge6 (Chg.newc hge6 (Chg.newc hge6 HC4.out)))))))
  · have HZ := keepf (HZ0.out _ (if_neg (fun h => he h.1)))
    have e1 : (er == 0) = false := by simpa using he
    clear HZ0 he
    go_enter Try.func9, Try.ntmps9
    go_upto_region 2 with (go_at_call 18; refine (HNX.out _ HC0.out).mono ?_; rintro e w3 ⟨rfl, hc3⟩; have HC3 := keepf hc3; clear hc3)
    have HB6 := keepf ((HB0.out.chg HC3.out (fun e => e)).alloc (.cells #[.int .i64 (tk : Nat), .int .i64 (tf : Nat), .int .i64 (tt_ : Nat), .int .i64 (tvk : Nat), .int .i64 tvn, .string S6, .slice none 0 0, .string S7] 37))
    have HB8 := keepf (Blk.new w3 37 #[.int .i64 (tk : Nat), .int .i64 (tf : Nat), .int .i64 (tt_ : Nat), .int .i64 (tvk : Nat), .int .i64 tvn, .string S6, .slice none 0 0, .string S7])
    have HC4 := keepf ((HC0.out.trans HC3.out (fun _ _ e => e)).alloc (.cells #[.int .i64 (tk : Nat), .int .i64 (tf : Nat), .int .i64 (tt_ : Nat), .int .i64 (tvk : Nat), .int .i64 tvn, .string S6, .slice none 0 0, .string S7] 37))
    obtain ⟨W4, hW4⟩ : ∃ W4, W4 = w3.alloc (.cells #[.int .i64 (tk : Nat), .int .i64 (tf : Nat), .int .i64 (tt_ : Nat), .int .i64 (tvk : Nat), .int .i64 tvn, .string S6, .slice none 0 0, .string S7] 37) := ⟨_, rfl⟩
    obtain ⟨g8, hg8⟩ : ∃ g8, g8 = w3.heap.size := ⟨_, rfl⟩
    rw [← hW4] at HB6 HB8 HC4 ⊢
    rw [← hg8] at HB8 ⊢
    obtain ⟨g6, hg6⟩ : ∃ g6, g6 = w.heap.size := ⟨_, rfl⟩
    rw [← hg6] at HB6 ⊢
    have hge6 : w.heap.size ≤ g6 := by omega
    obtain ⟨q0, q1, q2, q3, q4, q5, q6, q7, y0, y1, y2, y3, y4, y5, y6, y7⟩ := HB8.out.cl8
    obtain ⟨r0, r1, r2, r3, r4, r5, r6, r7, z0, z1, z2, z3, z4, z5, z6, z7⟩ := HB6.out.cl8
    clear hW4 hg6 hg8 HB0 HC0 HC3 HB6 HB8 HNX
    go_wp2_with fail
    refine bodyPost_ret (v := .tuple #[.agg #[.int .i64 (tk : Nat), .int .i64 (tf : Nat), .int .i64 (tt_ : Nat), .int .i64 (tvk : Nat), .int .i64 tvn, .string S6, .slice none 0 0, .string S7], .int .i64 er]) (by simp [results, Try.results9, go_sem, r0, r1, r2, r3, r4, r5, r6, r7]) rfl ?_
    refine ⟨by rw [HZ.out]; rw [HS6.out, HS7.out], ?_⟩
    exact Chg.newc hge6 (Chg.newc hge6 (Chg.newc hge6 (Chg.newc hge6 (Chg.newc hge6 (Chg.newc hge6 (Chg.newc hge6 (Chg.newc hge6 HC4.out)))))))

end Go.Proofs.Ytaababegolfjeaa

/- The program's DictOf of less than two values; and of any at most 40. -/
namespace Go.Proofs.Ytaababegolfjeaa
open Go.RowKit
set_option linter.unusedVariables false
set_option linter.unusedSimpArgs false

set_option maxHeartbeats 4000000 in
set_option maxRecDepth 100000 in
theorem dictOf_none (A : Option Addr) (len cap : Nat) (w : World) (hA : A = none → len = 0 ∧ cap = 0) (h1 : len ≤ 1) :
    Calls Try.prog 26 #[.slice A len cap] w (TreeTo w (.mk 7 0 ⟨#[]⟩ [])) := by
  have t1 : (len : Int).tdiv 2 = 0 := by rw [Int.tdiv_eq_ediv_of_nonneg (by omega)]; omega
  have t2 : (len : Int) / 2 = 0 := by omega
  have j1 : (0 : Int) ≤ cap := by omega
  have HCK := keepf (fun W => chunkV_any W A 0 cap)
  have HSN := keepf (fun (A1 : Option Addr) (c1 : Nat) (W : World) => sortP_none A1 c1 (.func (.func 43) #[] #[]) W)
  have HC1 := keepf ((Chg.refl NoS w).alloc (.cells #[.int .i64 0, .int .i64 0, .string ⟨#[]⟩, .slice none 0 0] 27))
  have HO := keepf (⟨Blk.new w 27 #[.int .i64 0, .int .i64 0, .string ⟨#[]⟩, .slice none 0 0], Nat.le_refl _⟩ : PB w _ _ _)
  have hbs := (Blk.new (w.alloc (.cells #[.int .i64 0, .int .i64 0, .string ⟨#[]⟩, .slice none 0 0] 27)) 25 #[.slice A 0 cap]).alloc (.cells #[.int .i64 2] 3)
  have hbn := Blk.new ((w.alloc (.cells #[.int .i64 0, .int .i64 0, .string ⟨#[]⟩, .slice none 0 0] 27)).alloc (.cells #[.slice A 0 cap] 25)) 3 #[.int .i64 2]
  simp only [World.size_alloc] at hbs hbn
  have HCC := keepf (collect_any 0 _ _ 0 0 cap A _ (by omega) (fun h => absurd h (by omega)) (by omega) (hbs.cell 0) (hbn.cell 0))
  clear hbs hbn
  cases A with
  | none =>
    obtain ⟨rfl, rfl⟩ := hA rfl
    go_enter Try.func26, Try.ntmps26
    go_upto_region 5 with (first
      | (go_at_call 41; refine (HCK.out _).mono ?_; rintro e w3 ⟨rfl, rfl⟩)
      | (go_at_call 40; refine HCC.out.mono ?_; rintro e w4 ⟨v, rfl, hrow, hb4⟩; obtain ⟨A1, c1, rfl, _⟩ := own_slice hrow; have HC4 := keepf (((HC1.out.alloc _).alloc _).trans (Chg.of_below (S := NoS) hb4) (fun _ _ e => e)); have HO4 := keepf (((HO.out.alloc _).alloc _).call (Chg.of_below (S := NoS) hb4)); clear hrow hb4)
      | (go_at_call 42; refine (HSN.out _ _ _).mono ?_; rintro e w5 ⟨rfl, h5⟩; subst h5))
    have HX : Hid (Bx w (w5.alloc (.cells #[.int .i64 7, .int .i64 0, .string ⟨#[]⟩, .slice none 0 0] 27)) w5.heap.size w.heap.size #[.int .i64 7, .int .i64 0, .string ⟨#[]⟩, .slice none 0 0] #[.int .i64 0, .int .i64 0, .string ⟨#[]⟩, .slice none 0 0] [] [] 0 none 0) :=
      ⟨⟨Blk.new _ _ _, HC4.out.size⟩, ⟨HO4.out.blk.alloc _, HO4.out.new⟩, GV.start (HC4.out.alloc _), fun e => (by cases e), fun e => (by cases e), fun e => by have := HO4.out.blk.lt; omega⟩
    go_loopw [20] (fun v wr => v = .int .i64 0 ∧ wr = w5.alloc (.cells #[.int .i64 7, .int .i64 0, .string ⟨#[]⟩, .slice none 0 0] 27)) (fun _ _ => 0)
    case atStart => exact ⟨rfl, rfl⟩
    case round =>
      obtain ⟨rfl, hwr⟩ := hrel
      rw [← hwr] at HX
      obtain ⟨g4, hg4⟩ : ∃ g, g = w5.heap.size := ⟨_, rfl⟩
      rw [← hg4] at HX ⊢
      clear hwr hg4
      have q0 := HX.out.b.blk.cell 0
      have q1 := HX.out.b.blk.cell 1
      have q2 := HX.out.b.blk.cell 2
      have q3 := HX.out.b.blk.cell 3
      have z0 := HX.out.o.blk.frozen 0
      have z1 := HX.out.o.blk.frozen 1
      have z2 := HX.out.o.blk.frozen 2
      have z3 := HX.out.o.blk.frozen 3
      have y0 := HX.out.o.blk.cell 0
      have y1 := HX.out.o.blk.cell 1
      have y2 := HX.out.o.blk.cell 2
      have y3 := HX.out.o.blk.cell 3
      simp at q0 q1 q2 q3 y0 y1 y2 y3
      go_wp2_with fail
      try simp only [Exit.noGoto_ret]
      clear y0 y1 y2 y3
      obtain ⟨hb, hvv, hcc⟩ := HX.out.fin (k := 7) (n := 0) (s := ⟨#[]⟩) rfl (by unfold maxLen; omega) (by decide) (by decide) (by decide) _ rfl
      have r0 := hb.blk.cell 0
      have r1 := hb.blk.cell 1
      have r2 := hb.blk.cell 2
      have r3 := hb.blk.cell 3
      simp at r0 r1 r2 r3
      refine bodyPost_ret (v := .agg #[.int .i64 7, .int .i64 0, .string ⟨#[]⟩, .slice none 0 0]) (by simp [results, Try.results26, go_sem, r0, r1, r2, r3]) rfl ?_
      exact ⟨⟨7, 0, ⟨#[]⟩, none, 0, 0⟩, rfl, hvv, hcc⟩
  | some ad =>
    go_enter Try.func26, Try.ntmps26
    go_upto_region 5 with (first
      | (go_at_call 41; refine (HCK.out _).mono ?_; rintro e w3 ⟨rfl, rfl⟩)
      | (go_at_call 40; refine HCC.out.mono ?_; rintro e w4 ⟨v, rfl, hrow, hb4⟩; obtain ⟨A1, c1, rfl, _⟩ := own_slice hrow; have HC4 := keepf (((HC1.out.alloc _).alloc _).trans (Chg.of_below (S := NoS) hb4) (fun _ _ e => e)); have HO4 := keepf (((HO.out.alloc _).alloc _).call (Chg.of_below (S := NoS) hb4)); clear hrow hb4)
      | (go_at_call 42; refine (HSN.out _ _ _).mono ?_; rintro e w5 ⟨rfl, h5⟩; subst h5))
    have HX : Hid (Bx w (w5.alloc (.cells #[.int .i64 7, .int .i64 0, .string ⟨#[]⟩, .slice none 0 0] 27)) w5.heap.size w.heap.size #[.int .i64 7, .int .i64 0, .string ⟨#[]⟩, .slice none 0 0] #[.int .i64 0, .int .i64 0, .string ⟨#[]⟩, .slice none 0 0] [] [] 0 none 0) :=
      ⟨⟨Blk.new _ _ _, HC4.out.size⟩, ⟨HO4.out.blk.alloc _, HO4.out.new⟩, GV.start (HC4.out.alloc _), fun e => (by cases e), fun e => (by cases e), fun e => by have := HO4.out.blk.lt; omega⟩
    go_loopw [20] (fun v wr => v = .int .i64 0 ∧ wr = w5.alloc (.cells #[.int .i64 7, .int .i64 0, .string ⟨#[]⟩, .slice none 0 0] 27)) (fun _ _ => 0)
    case atStart => exact ⟨rfl, rfl⟩
    case round =>
      obtain ⟨rfl, hwr⟩ := hrel
      rw [← hwr] at HX
      obtain ⟨g4, hg4⟩ : ∃ g, g = w5.heap.size := ⟨_, rfl⟩
      rw [← hg4] at HX ⊢
      clear hwr hg4
      have q0 := HX.out.b.blk.cell 0
      have q1 := HX.out.b.blk.cell 1
      have q2 := HX.out.b.blk.cell 2
      have q3 := HX.out.b.blk.cell 3
      have z0 := HX.out.o.blk.frozen 0
      have z1 := HX.out.o.blk.frozen 1
      have z2 := HX.out.o.blk.frozen 2
      have z3 := HX.out.o.blk.frozen 3
      have y0 := HX.out.o.blk.cell 0
      have y1 := HX.out.o.blk.cell 1
      have y2 := HX.out.o.blk.cell 2
      have y3 := HX.out.o.blk.cell 3
      simp at q0 q1 q2 q3 y0 y1 y2 y3
      go_wp2_with fail
      try simp only [Exit.noGoto_ret]
      clear y0 y1 y2 y3
      obtain ⟨hb, hvv, hcc⟩ := HX.out.fin (k := 7) (n := 0) (s := ⟨#[]⟩) rfl (by unfold maxLen; omega) (by decide) (by decide) (by decide) _ rfl
      have r0 := hb.blk.cell 0
      have r1 := hb.blk.cell 1
      have r2 := hb.blk.cell 2
      have r3 := hb.blk.cell 3
      simp at r0 r1 r2 r3
      refine bodyPost_ret (v := .agg #[.int .i64 7, .int .i64 0, .string ⟨#[]⟩, .slice none 0 0]) (by simp [results, Try.results26, go_sem, r0, r1, r2, r3]) rfl ?_
      exact ⟨⟨7, 0, ⟨#[]⟩, none, 0, 0⟩, rfl, hvv, hcc⟩

theorem dictT_short {l : List VT} (h : l.length ≤ 1) : dictT l = [] := by
  unfold dictT
  rw [show l.length / 2 = 0 by omega]
  rfl

theorem dictOf_any (l : List VT) (A : Option Addr) (len cap : Nat) (w : World) (hl : l.length = len) (hr : RowIs w A 0 l) (hA : A = none → len = 0 ∧ cap = 0) (hcap : len ≤ cap) (h40 : len ≤ 40) (hks : ∀ t ∈ l, t.str.size ≤ maxLen) :
    Calls Try.prog 26 #[.slice A len cap] w (TreeTo w (.mk 7 0 ⟨#[]⟩ (dictT l))) := by
  by_cases h : len ≤ 1
  · rw [dictT_short (by omega)]
    exact dictOf_none A len cap w hA h
  · obtain ⟨b, off, rfl⟩ : ∃ b off, A = some ⟨b, off, none⟩ := by
      cases hll : l with
      | nil => rw [hll] at hl; simp at hl; omega
      | cons t0 l0 => rw [hll] at hr; exact hr.start
    exact dictOf_some l b off len cap w hl hr hcap h40 (by omega) hks

end Go.Proofs.Ytaababegolfjeaa

/- Rows of which two places are exchanged: plain mathematics, no program. -/
namespace Go.Proofs.Ytaababegolfjeaa.PS
set_option linter.unusedVariables false

def swapD (d : List Int) (i j : Nat) : List Int := (d.set i (d.getD j 0)).set j (d.getD i 0)

theorem swapD_len (d : List Int) (i j : Nat) : (swapD d i j).length = d.length := by simp [swapD]

theorem swapD_get (d : List Int) (i j k : Nat) (hi : i < d.length) (hj : j < d.length) : (swapD d i j).getD k 0 = if k = j then d.getD i 0 else if k = i then d.getD j 0 else d.getD k 0 := by
  unfold swapD
  simp only [List.getD_eq_getElem?_getD, List.getElem?_set, List.length_set]
  by_cases h1 : k = j
  · subst h1; simp [hj]
  · rw [if_neg (fun e => h1 e.symm), if_neg h1]
    by_cases h2 : k = i
    · subst h2; simp [hi]
    · rw [if_neg (fun e => h2 e.symm), if_neg h2]

theorem swapD_perm (d : List Int) (i j : Nat) (hi : i < d.length) (hj : j < d.length) : (swapD d i j).Perm d := by
  have e1 : d.getD i 0 = d[i] := by simp [List.getD_eq_getElem?_getD, hi]
  have e2 : d.getD j 0 = d[j] := by simp [List.getD_eq_getElem?_getD, hj]
  have e3 : swapD d i j = (d.set i d[j]).set j d[i] := by unfold swapD; rw [e1, e2]
  rw [e3, List.perm_iff_count]
  intro a
  rw [List.count_set (by simpa using hj), List.count_set hi]
  have h1 : 0 < d.count d[i] := List.count_pos_iff.2 (List.getElem_mem hi)
  have h2 : 0 < d.count d[j] := List.count_pos_iff.2 (List.getElem_mem hj)
  by_cases hij : i = j
  · subst hij
    simp only [List.getElem_set_self]
    by_cases ha : d[i] = a
    · subst ha; simp
    · simp [ha]
  · rw [List.getElem_set_ne hij]
    by_cases ha : d[i] = a
    · by_cases hb : d[j] = a
      · subst ha; simp [hb]
      · subst ha; simp [hb]
    · by_cases hb : d[j] = a
      · subst hb; simp [ha]
      · simp [ha, hb]

/-- What an exchange leaves. -/
structure Same (d d' : List Int) (a b : Nat) : Prop where
  len : d'.length = d.length
  perm : d'.Perm d
  out : ∀ i, ¬ (a ≤ i ∧ i < b) → d'.getD i 0 = d.getD i 0
  src : ∀ i, a ≤ i → i < b → ∃ j, a ≤ j ∧ j < b ∧ d'.getD i 0 = d.getD j 0

theorem Same.refl (d : List Int) (a b : Nat) : Same d d a b := ⟨rfl, List.Perm.refl _, fun _ _ => rfl, fun i h1 h2 => ⟨i, h1, h2, rfl⟩⟩

theorem Same.trans {d e f : List Int} {a b : Nat} (h : Same d e a b) (k : Same e f a b) : Same d f a b := ⟨k.len.trans h.len, k.perm.trans h.perm, fun i hi => (k.out i hi).trans (h.out i hi), fun i h1 h2 => by
  obtain ⟨j, j1, j2, j3⟩ := k.src i h1 h2
  obtain ⟨q, q1, q2, q3⟩ := h.src j j1 j2
  exact ⟨q, q1, q2, j3.trans q3⟩⟩

theorem Same.wide {d e : List Int} {a b a' b' : Nat} (h : Same d e a b) (h1 : a' ≤ a) (h2 : b ≤ b') : Same d e a' b' := ⟨h.len, h.perm, fun i hi => h.out i (by omega), fun i h3 h4 => by
  by_cases hi : a ≤ i ∧ i < b
  · obtain ⟨j, j1, j2, j3⟩ := h.src i hi.1 hi.2
    exact ⟨j, by omega, by omega, j3⟩
  · exact ⟨i, h3, h4, h.out i hi⟩⟩

theorem Same.swap (d : List Int) (a b i j : Nat) (hb : b ≤ d.length) (hi : a ≤ i ∧ i < b) (hj : a ≤ j ∧ j < b) : Same d (swapD d i j) a b :=
  ⟨swapD_len d i j, swapD_perm d i j (by omega) (by omega), fun k hk => by
    rw [swapD_get d i j k (by omega) (by omega), if_neg (by omega), if_neg (by omega)], fun k h1 h2 => by
    rw [swapD_get d i j k (by omega) (by omega)]
    by_cases h3 : k = j
    · exact ⟨i, hi.1, hi.2, by rw [if_pos h3]⟩
    · by_cases h4 : k = i
      · exact ⟨j, hj.1, hj.2, by rw [if_neg h3, if_pos h4]⟩
      · exact ⟨k, h1, h2, by rw [if_neg h3, if_neg h4]⟩⟩

/-- Sorted by a key, from a to b. -/
def Sorted (key : Int → Int) (d : List Int) (a b : Nat) : Prop := ∀ i j, a ≤ i → i < j → j < b → key (d.getD i 0) ≤ key (d.getD j 0)

theorem Sorted.part {key : Int → Int} {d : List Int} {a b a' b' : Nat} (h : Sorted key d a b) (h1 : a ≤ a') (h2 : b' ≤ b) : Sorted key d a' b' := fun i j hi hij hj => h i j (by omega) hij (by omega)

theorem Sorted.le {key : Int → Int} {d : List Int} {a b i j : Nat} (h : Sorted key d a b) (hi : a ≤ i) (hij : i ≤ j) (hj : j < b) : key (d.getD i 0) ≤ key (d.getD j 0) := by
  rcases Nat.eq_or_lt_of_le hij with e | e
  · subst e; exact Int.le_refl _
  · exact h i j hi e hj

theorem Sorted.congr {key : Int → Int} {d e : List Int} {a b : Nat} (h : Sorted key d a b) (he : ∀ i, a ≤ i → i < b → e.getD i 0 = d.getD i 0) : Sorted key e a b := fun i j hi hij hj => by
  rw [he i hi (by omega), he j (by omega) hj]
  exact h i j hi hij hj

theorem ins_left {key : Int → Int} {d d' : List Int} {a b i : Nat} (h1 : a + 1 ≤ i) (h2 : i ≤ b) (f1 : ∀ q, a ≤ q → q + 1 < i → d'.getD q 0 = d.getD (q + 1) 0) (f2 : d'.getD (i - 1) 0 = d.getD a 0) (f3 : ∀ q, i ≤ q → q < b → d'.getD q 0 = d.getD q 0)
    (k1 : ∀ k, a < k → k < i → key (d.getD k 0) ≤ key (d.getD a 0)) (k2 : ∀ k, i ≤ k → k < b → key (d.getD a 0) ≤ key (d.getD k 0)) (hs : Sorted key d (a + 1) b) : Sorted key d' a b := by
  intro p q hp hpq hq
  by_cases c1 : p + 1 < i
  · rw [f1 p hp c1]
    by_cases c2 : q + 1 < i
    · rw [f1 q (by omega) c2]; exact hs.le (by omega) (by omega) (by omega)
    · by_cases c3 : q + 1 = i
      · rw [show q = i - 1 from by omega, f2]; exact k1 _ (by omega) (by omega)
      · rw [f3 q (by omega) hq]
        exact Int.le_trans (k1 (p + 1) (by omega) (by omega)) (k2 q (by omega) hq)
  · by_cases c3 : p + 1 = i
    · rw [show p = i - 1 from by omega, f2, f3 q (by omega) hq]; exact k2 q (by omega) hq
    · rw [f3 p (by omega) (by omega), f3 q (by omega) hq]; exact hs.le (by omega) (by omega) hq

theorem ins_right {key : Int → Int} {d d' : List Int} {a m i : Nat} (h1 : a ≤ i) (h2 : i ≤ m) (f1 : ∀ q, i < q → q ≤ m → d'.getD q 0 = d.getD (q - 1) 0) (f2 : d'.getD i 0 = d.getD m 0) (f3 : ∀ q, a ≤ q → q < i → d'.getD q 0 = d.getD q 0)
    (k1 : ∀ k, a ≤ k → k < i → key (d.getD k 0) ≤ key (d.getD m 0)) (k2 : ∀ k, i ≤ k → k < m → key (d.getD m 0) ≤ key (d.getD k 0)) (hs : Sorted key d a m) : Sorted key d' a (m + 1) := by
  intro p q hp hpq hq
  by_cases c1 : p < i
  · rw [f3 p hp c1]
    by_cases c2 : q < i
    · rw [f3 q (by omega) c2]; exact hs.le hp (by omega) (by omega)
    · by_cases c3 : q = i
      · rw [c3, f2]; exact k1 p hp c1
      · rw [f1 q (by omega) (by omega)]
        exact hs.le hp (by omega) (by omega)
  · by_cases c3 : p = i
    · rw [c3, f2, f1 q (by omega) (by omega)]; exact k2 _ (by omega) (by omega)
    · rw [f1 p (by omega) (by omega), f1 q (by omega) (by omega)]; exact hs.le (by omega) (by omega) (by omega)

/-- Behind the rotation both halves are two rows each, and the first half is below the second. -/
theorem sym_main {key : Int → Int} {d d1 : List Int} {a m b s e mid : Nat} (h1 : a ≤ s) (h2 : s ≤ m) (h3 : m ≤ e) (h4 : e ≤ b) (hmid : mid + m = s + e) (s1 : Sorted key d a m) (s2 : Sorted key d m b)
    (x1 : ∀ x y, a ≤ x → x < s → e ≤ y → y < b → key (d.getD x 0) ≤ key (d.getD y 0)) (x2 : ∀ x y, s ≤ x → x < m → m ≤ y → y < e → key (d.getD y 0) ≤ key (d.getD x 0))
    (f : ∀ k, s ≤ k → k < e → d1.getD k 0 = if k < mid then d.getD (m + (k - s)) 0 else d.getD (k - (e - m)) 0) (fo : ∀ k, ¬ (s ≤ k ∧ k < e) → d1.getD k 0 = d.getD k 0) :
    Sorted key d1 a s ∧ Sorted key d1 s mid ∧ Sorted key d1 mid e ∧ Sorted key d1 e b ∧ ∀ x y, a ≤ x → x < mid → mid ≤ y → y < b → key (d1.getD x 0) ≤ key (d1.getD y 0) := by
  refine ⟨(s1.part (Nat.le_refl _) h2).congr (fun i _ hi => fo i (by omega)), ?_, ?_, (s2.part h3 (Nat.le_refl _)).congr (fun i hi _ => fo i (by omega)), ?_⟩
  · intro i j hi hij hj
    rw [f i hi (by omega), f j (by omega) (by omega), if_pos (by omega), if_pos hj]
    exact s2.le (by omega) (by omega) (by omega)
  · intro i j hi hij hj
    rw [f i (by omega) (by omega), f j (by omega) hj, if_neg (by omega), if_neg (by omega)]
    exact s1.le (by omega) (by omega) (by omega)
  · intro x y hx hxm hy hyb
    by_cases c1 : x < s
    · rw [fo x (by omega)]
      by_cases c2 : y < e
      · rw [f y (by omega) c2, if_neg (by omega)]; exact s1.le hx (by omega) (by omega)
      · rw [fo y (by omega)]; exact x1 x y hx c1 (by omega) hyb
    · rw [f x (by omega) (by omega), if_pos hxm]
      by_cases c2 : y < e
      · rw [f y (by omega) c2, if_neg (by omega)]; exact x2 _ _ (by omega) (by omega) (by omega) (by omega)
      · rw [fo y (by omega)]; exact s2.le (by omega) (by omega) hyb

theorem sym_end {key : Int → Int} {d1 d2 d3 : List Int} {a mid b : Nat} (h : Same d1 d2 a mid) (k : Same d2 d3 mid b) (hs : Sorted key d2 a mid) (ks : Sorted key d3 mid b)
    (hx : ∀ x y, a ≤ x → x < mid → mid ≤ y → y < b → key (d1.getD x 0) ≤ key (d1.getD y 0)) : Sorted key d3 a b := by
  intro p q hp hpq hq
  by_cases c1 : q < mid
  · rw [k.out p (by omega), k.out q (by omega)]; exact hs p q hp hpq c1
  · by_cases c2 : p < mid
    · obtain ⟨x, x1, x2, x3⟩ := h.src p hp c2
      obtain ⟨y, y1, y2, y3⟩ := k.src q (by omega) hq
      rw [k.out p (by omega), x3, y3, h.out y (by omega)]
      exact hx x y x1 x2 y1 y2
    · exact ks p q (by omega) hpq hq

/-- Two keys as one: equal ones are told apart by what has them. -/
def kk (key : Int → Int) (N : Int) (x : Int) : Int := key x * N + x

theorem kk_lt {key : Int → Int} {N x y : Int} (hx : 0 ≤ x ∧ x < N) (hy : 0 ≤ y ∧ y < N) : kk key N x < kk key N y ↔ key x < key y ∨ (key x = key y ∧ x < y) := by
  have h1 : ∀ {a b : Int}, a < b → a * N + N ≤ b * N := fun {a b} h => by
    have := Int.mul_le_mul_of_nonneg_right (show a + 1 ≤ b from h) (show 0 ≤ N by omega)
    rw [Int.add_mul, Int.one_mul] at this
    exact this
  unfold kk
  constructor
  · intro h
    rcases Int.lt_trichotomy (key x) (key y) with h2 | h2 | h2
    · exact .inl h2
    · rw [h2] at h; exact .inr ⟨h2, by omega⟩
    · have := h1 h2; omega
  · rintro (h | ⟨h, h2⟩)
    · have := h1 h; omega
    · rw [h]; omega

theorem kk_le {key : Int → Int} {N x y : Int} (hx : 0 ≤ x ∧ x < N) (hy : 0 ≤ y ∧ y < N) (h : kk key N x ≤ kk key N y) : key x ≤ key y ∧ (key x = key y → x ≤ y) := by
  have h1 := mt (kk_lt (key := key) hy hx).2 (by omega)
  exact ⟨by omega, fun e => by omega⟩

/-- Of equal keys what is less stands ahead. -/
def InTurn (key : Int → Int) (d : List Int) : Prop := ∀ p q, p < q → q < d.length → key (d.getD p 0) = key (d.getD q 0) → d.getD p 0 ≤ d.getD q 0

theorem InTurn.part {key : Int → Int} {d d' : List Int} {a b : Nat} (h : InTurn key d) (hs : Same d d' a b) (hb : b ≤ d.length) (hq : ∀ p q, a ≤ p → p < q → q < b → key (d'.getD p 0) = key (d'.getD q 0) → d'.getD p 0 ≤ d'.getD q 0) : InTurn key d' := by
  intro p q hpq hq2 he
  have hlen := hs.len
  by_cases hp : a ≤ p ∧ p < b
  · by_cases hq3 : q < b
    · exact hq p q hp.1 hpq hq3 he
    · obtain ⟨p', h1, h2, h3⟩ := hs.src p hp.1 hp.2
      rw [h3, hs.out q (by omega)] at he ⊢
      exact h p' q (by omega) (by omega) he
  · by_cases hq3 : a ≤ q ∧ q < b
    · obtain ⟨q', h1, h2, h3⟩ := hs.src q hq3.1 hq3.2
      rw [hs.out p hp, h3] at he ⊢
      exact h p q' (by omega) (by omega) he
    · rw [hs.out p hp, hs.out q hq3] at he ⊢
      exact h p q hpq (by omega) he

theorem InTurn.same {key0 key : Int → Int} {N : Int} {d d' : List Int} {a b : Nat} (hk : key = kk key0 N) (h : InTurn key0 d) (hs : Same d d' a b) (hb : b ≤ d.length) (hg : ∀ i, i < d'.length → 0 ≤ d'.getD i 0 ∧ d'.getD i 0 < N) (hq : Sorted key d' a b) : InTurn key0 d' := by
  subst hk
  have hlen := hs.len
  exact h.part hs hb fun p q h1 h2 h3 he => (kk_le (hg p (by omega)) (hg q (by omega)) (hq p q h1 h2 h3)).2 he

theorem sym_st {key0 key : Int → Int} {N : Int} {d d1 : List Int} {a m b s e mid : Nat} (hk : key = kk key0 N) (h1 : a ≤ s) (h2 : s ≤ m) (h3 : m ≤ e) (h4 : e ≤ b) (hmid : mid + m = s + e) (hb : b ≤ d.length) (hst : InTurn key0 d) (hs : Same d d1 a b) (hg : ∀ i, i < d1.length → 0 ≤ d1.getD i 0 ∧ d1.getD i 0 < N)
    (hm : Sorted key d1 a s ∧ Sorted key d1 s mid ∧ Sorted key d1 mid e ∧ Sorted key d1 e b ∧ ∀ x y, a ≤ x → x < mid → mid ≤ y → y < b → key (d1.getD x 0) ≤ key (d1.getD y 0))
    (f : ∀ k, s ≤ k → k < e → d1.getD k 0 = if k < mid then d.getD (m + (k - s)) 0 else d.getD (k - (e - m)) 0) (fo : ∀ k, ¬ (s ≤ k ∧ k < e) → d1.getD k 0 = d.getD k 0) : InTurn key0 d1 := by
  subst hk
  obtain ⟨m1, m2, m3, m4, m5⟩ := hm
  have hlen := hs.len
  refine hst.part hs hb fun p q hp hpq hq he => ?_
  have hle : kk key0 N (d1.getD p 0) ≤ kk key0 N (d1.getD q 0) → d1.getD p 0 ≤ d1.getD q 0 := fun h => (kk_le (hg p (by omega)) (hg q (by omega)) h).2 he
  by_cases c1 : p < mid
  · by_cases c2 : mid ≤ q
    · exact hle (m5 p q hp c1 c2 hq)
    · by_cases c3 : q < s
      · exact hle (m1 p q hp hpq c3)
      · by_cases c4 : s ≤ p
        · exact hle (m2 p q c4 hpq (by omega))
        · rw [fo p (by omega), f q (by omega) (by omega), if_pos (by omega)] at he ⊢
          exact hst _ _ (by omega) (by omega) he
  · by_cases c3 : q < e
    · exact hle (m3 p q (by omega) hpq c3)
    · by_cases c4 : e ≤ p
      · exact hle (m4 p q c4 hpq hq)
      · rw [f p (by omega) (by omega), if_neg c1, fo q (by omega)] at he ⊢
        exact hst _ _ (by omega) (by omega) he

end Go.Proofs.Ytaababegolfjeaa.PS

/- What swapRange does to a row of integers. -/
namespace Go.Proofs.Ytaababegolfjeaa.PS
open Go.RowKit
set_option linter.unusedVariables false
set_option linter.unusedSimpArgs false

/-- Where what an integer tells begins: two values. -/
class PAd where
  ad : Int → Addr

def icells [PAd] (d : List Int) : List Value := d.map fun x => .slice (some (PAd.ad x)) 2 2

/-- A row of pairs of the call's own. -/
def Row [PAd] (w : World) (g cap : Nat) (d : List Int) : Prop := w.ownsRow 0 25 1 (.slice (some ⟨g, 0, none⟩) d.length cap) d.length (icells d)

theorem Row.chg [PAd] {w w' : World} {g cap : Nat} {d : List Int} {K : Nat → Prop} (h : Row w g cap d) (hc : Chg K w w') (hk : ¬ K g) : Row w' g cap d := own_chg h hc (fun i hi => by
  simp [Value.ownBlock] at hi
  subst hi
  exact hk)

theorem Row.drewN [PAd] {w : World} {g cap : Nat} {d : List Int} (h : Row w g cap d) (n : Nat) : Row (w.drewN n) g cap d := own_drewN h n

theorem Row.drew [PAd] {w : World} {g cap : Nat} {d : List Int} (h : Row w g cap d) : Row w.drew g cap d := own_drew h

theorem Row.cell [PAd] {w : World} {g cap : Nat} {d : List Int} (h : Row w g cap d) (i : Nat) (hi : i < d.length) : w.cell? ⟨g, i, none⟩ = some (.slice (some (PAd.ad (d.getD i 0))) 2 2) := by
  have h1 := World.ownsRow.cellAt h i (by omega)
  rw [h1]
  simp [icells, List.getD_eq_getElem?_getD, hi]

theorem Row.set [PAd] {w : World} {g cap : Nat} {d : List Int} (h : Row w g cap d) (i : Nat) (x : Int) : Row (w.setCell ⟨g, i, none⟩ (.slice (some (PAd.ad x)) 2 2)) g cap (d.set i x) := by
  have h1 := (World.ownsRow.stored h i (.slice (some (PAd.ad x)) 2 2)).1
  have e : (icells d).set i (.slice (some (PAd.ad x)) 2 2) = icells (d.set i x) := by simp [icells, List.map_set]
  rw [e] at h1
  unfold Row
  rw [List.length_set]
  exact h1

theorem Row.frozen [PAd] {w : World} {g cap : Nat} {d : List Int} (h : Row w g cap d) (i : Nat) : w.frozen? ⟨g, i, none⟩ = false := World.ownsRow.frozenAt h i

theorem Row.swap [PAd] {w : World} {g cap : Nat} {d : List Int} (h : Row w g cap d) (i j : Nat) : Row ((w.setCell ⟨g, i, none⟩ (.slice (some (PAd.ad (d.getD j 0))) 2 2)).setCell ⟨g, j, none⟩ (.slice (some (PAd.ad (d.getD i 0))) 2 2)) g cap (swapD d i j) := (h.set i _).set j _

/-- Behind a function that exchanges places from a to b. -/
def SortTo [PAd] (w : World) (g cap : Nat) (d : List Int) (a b : Nat) (R : List Int → Prop) (e : Ending) (w' : World) : Prop :=
  e = .returned (.tuple #[]) ∧ ∃ d', Row w' g cap d' ∧ Same d d' a b ∧ R d' ∧ Chg (fun i => i = g) w w'

set_option maxHeartbeats 2000000 in
set_option maxRecDepth 100000 in
theorem swapRange_any [PAd] (g cap a b n : Nat) (f : Value) (d : List Int) (w : World) (hR : Row w g cap d) (hab : a + n ≤ b) (hb : b + n ≤ d.length) (hL : d.length ≤ 1000000) :
    Calls Try.prog 89 #[.slice (some ⟨g, 0, none⟩) d.length cap, .int .i64 a, .int .i64 b, .int .i64 n, f] w
      (SortTo w g cap d a (b + n) (fun d' => ∀ k, d'.getD k 0 = if a ≤ k ∧ k < a + n then d.getD (b + (k - a)) 0 else if b ≤ k ∧ k < b + n then d.getD (a + (k - b)) 0 else d.getD k 0)) := by
  have HR := keepf hR
  clear hR
  obtain ⟨N, hN⟩ : ∃ N, N = d.length := ⟨_, rfl⟩
  have HN := keepf hN
  rw [← hN] at hb hL ⊢
  clear hN
  go_enter Try.func89, Try.ntmps89
  go_wp2_with fail
  go_loopw [10] (fun i wr => ∃ k : Nat, ∃ d1 : List Int, k ≤ n ∧ i = .int .i64 k ∧ d1.length = N ∧ Row wr g cap d1 ∧ Hid (Same d d1 a (b + n)) ∧ Hid (∀ q, d1.getD q 0 = if a ≤ q ∧ q < a + k then d.getD (b + (q - a)) 0 else if b ≤ q ∧ q < b + k then d.getD (a + (q - b)) 0 else d.getD q 0) ∧ Chg (fun i => i = g) w wr) (fun i _ => n - (intOf i).toNat)
  case atStart => exact ⟨0, d, Nat.zero_le _, rfl, HN.out.symm, HR.out, Same.refl _ _ _, fun q => by rw [if_neg (by omega), if_neg (by omega)], Chg.refl _ _⟩
  case round =>
    obtain ⟨k, d1, hk, rfl, hl1, hRw, hSm, hQ, hch⟩ := hrel
    have HRw := keepf hRw
    have HCh := keepf hch
    clear hRw hch HR
    by_cases hlt : k < n
    · have c1 := HRw.out.cell (a + k) (by omega)
      have c2 := HRw.out.cell (b + k) (by omega)
      have f1 := HRw.out.frozen (a + k)
      have f2 := HRw.out.frozen (b + k)
      obtain ⟨x, hx⟩ : ∃ x, x = d1.getD (a + k) 0 := ⟨_, rfl⟩
      obtain ⟨y, hy⟩ : ∃ y, y = d1.getD (b + k) 0 := ⟨_, rfl⟩
      rw [← hx] at c1
      rw [← hy] at c2
      have HX := keepf hx
      have HY := keepf hy
      clear hx hy
      have e1 : IntKind.i64.wrap ((a : Int) + k) = (a : Int) + k := by rw [IntKind.wrap_i64]; omega
      have e2 : IntKind.i64.wrap ((b : Int) + k) = (b : Int) + k := by rw [IntKind.wrap_i64]; omega
      have b1 : (a : Int) + k < N := by omega
      have b2 : (b : Int) + k < N := by omega
      have b3 : 0 ≤ (a : Int) + k := by omega
      have b4 : 0 ≤ (b : Int) + k := by omega
      have t1 : ((a : Int) + k).toNat = a + k := by omega
      have t2 : ((b : Int) + k).toNat = b + k := by omega
      go_upto_region 3 with fail
      go_region
      go_wp2_with fail
      go_roundw
      case rel =>
        have hsw := HRw.out.swap (a + k) (b + k)
        rw [← HX.out, ← HY.out] at hsw
        refine ⟨k + 1, swapD d1 (a + k) (b + k), by omega, by go_num, by rw [swapD_len]; exact hl1, hsw.drew, hSm.out.trans (Same.swap d1 a (b + n) (a + k) (b + k) (by omega) (by omega) (by omega)), ?_, ((HCh.out.setCell (p := ⟨g, a + k, none⟩) (fun _ => rfl) _).setCell (p := ⟨g, b + k, none⟩) (fun _ => rfl) _).drew⟩
        intro q
        rw [swapD_get d1 _ _ q (by omega) (by omega)]
        have hq0 := hQ.out
        by_cases h1 : q = b + k
        · subst h1
          rw [if_pos rfl, if_neg (show ¬ (a ≤ b + k ∧ b + k < a + (k + 1)) by omega), if_pos (show b ≤ b + k ∧ b + k < b + (k + 1) by omega), hq0, if_neg (show ¬ (a ≤ a + k ∧ a + k < a + k) by omega), if_neg (show ¬ (b ≤ a + k ∧ a + k < b + k) by omega)]
          congr 1; omega
        · rw [if_neg h1]
          by_cases h2 : q = a + k
          · subst h2
            rw [if_pos rfl, if_pos (show a ≤ a + k ∧ a + k < a + (k + 1) by omega), hq0, if_neg (show ¬ (a ≤ b + k ∧ b + k < a + k) by omega), if_neg (show ¬ (b ≤ b + k ∧ b + k < b + k) by omega)]
            congr 1; omega
          · rw [if_neg h2, hq0]
            by_cases h3 : a ≤ q ∧ q < a + k
            · rw [if_pos h3, if_pos (show a ≤ q ∧ q < a + (k + 1) by omega)]
            · rw [if_neg h3, if_neg (show ¬ (a ≤ q ∧ q < a + (k + 1)) by omega)]
              by_cases h4 : b ≤ q ∧ q < b + k
              · rw [if_pos h4, if_pos (show b ≤ q ∧ q < b + (k + 1) by omega)]
              · rw [if_neg h4, if_neg (show ¬ (b ≤ q ∧ q < b + (k + 1)) by omega)]
      case measure => simp [intOf]; omega
    · obtain rfl : n = k := by omega
      go_wp2_with fail
      go_end0
      exact ⟨rfl, d1, HRw.out, hSm.out, hQ.out, HCh.out⟩

set_option maxHeartbeats 2000000 in
set_option maxRecDepth 100000 in
theorem rotate_any [PAd] (g cap a m b : Nat) (f : Value) (d : List Int) (w : World) (hR : Row w g cap d) (ham : a < m) (hmb : m < b) (hb : b ≤ d.length) (hL : d.length ≤ 1000000) :
    Calls Try.prog 84 #[.slice (some ⟨g, 0, none⟩) d.length cap, .int .i64 a, .int .i64 m, .int .i64 b, f] w
      (SortTo w g cap d a b (fun d' => ∀ k, a ≤ k → k < b → d'.getD k 0 = if k < a + (b - m) then d.getD (m + (k - a)) 0 else d.getD (k - (b - m)) 0)) := by
  have HR := keepf hR
  clear hR
  obtain ⟨N, hN⟩ : ∃ N, N = d.length := ⟨_, rfl⟩
  have HN := keepf hN
  rw [← hN] at hb hL ⊢
  clear hN
  have HSW : Hid (∀ (W : World) (d1 : List Int) (a' b' n' : Nat), d1.length = N → Row W g cap d1 → a' + n' ≤ b' → b' + n' ≤ N →
      Calls Try.prog 89 #[.slice (some ⟨g, 0, none⟩) N cap, .int .i64 a', .int .i64 b', .int .i64 n', f] W
      (SortTo W g cap d1 a' (b' + n') (fun d' => ∀ k, d'.getD k 0 = if a' ≤ k ∧ k < a' + n' then d1.getD (b' + (k - a')) 0 else if b' ≤ k ∧ k < b' + n' then d1.getD (a' + (k - b')) 0 else d1.getD k 0))) := by
    intro W d1 a' b' n' h1 h2 h3 h4
    subst h1
    exact swapRange_any g cap a' b' n' f d1 W h2 h3 h4 hL
  obtain ⟨T, hT⟩ : ∃ T : Nat → Int, ∀ k, T k = if k < a + (b - m) then d.getD (m + (k - a)) 0 else d.getD (k - (b - m)) 0 := ⟨_, fun _ => rfl⟩
  have HT := keepf hT
  clear hT
  go_enter Try.func84, Try.ntmps84
  go_wp2_with fail
  go_loopw [10, 11] (fun vi vj wr => ∃ i j : Nat, ∃ d1 : List Int, 0 < i ∧ 0 < j ∧ i ≤ m - a ∧ j ≤ b - m ∧ vi = .int .i64 i ∧ vj = .int .i64 j ∧ d1.length = N ∧ Row wr g cap d1 ∧ Hid (Same d d1 a b) ∧
      Hid ((∀ k, a ≤ k → k < b → ¬ (m - i ≤ k ∧ k < m + j) → d1.getD k 0 = T k) ∧ (∀ y, y < j → T (m - i + y) = d1.getD (m + y) 0) ∧ (∀ x, x < i → T (m - i + j + x) = d1.getD (m - i + x) 0)) ∧ Chg (fun i => i = g) w wr) (fun vi vj _ => (intOf vi).toNat + (intOf vj).toNat)
  case atStart =>
    refine ⟨m - a, b - m, d, by omega, by omega, by omega, by omega, by go_num, by go_num, HN.out.symm, HR.out, Same.refl _ _ _, ⟨fun k h1 h2 h3 => absurd ⟨by omega, by omega⟩ h3, fun y hy => ?_, fun x hx => ?_⟩, Chg.refl _ _⟩
    · rw [HT.out, if_pos (by omega)]; congr 1; omega
    · rw [HT.out, if_neg (by omega)]; congr 1; omega
  case round =>
    obtain ⟨i, j, d1, hi0, hj0, hi, hj, rfl, rfl, hl1, hRw, hSm, hQ, hch⟩ := hrel
    have HRw := keepf hRw
    have HCh := keepf hch
    clear hRw hch HR
    have emi : ((m : Int) - i) = ((m - i : Nat) : Int) := by omega
    have HMI := keepf emi
    clear emi
    by_cases hij : i = j
    · subst hij
      go_wp2_with (go_at_call 89; rw [HMI.out]; refine (HSW.out _ d1 (m - i) m i hl1 HRw.out (by omega) (by omega)).mono ?_; rintro e w3 ⟨rfl, d3, hr3, hs3, hq3, hc3⟩; have HR3 := keepf hr3; have HS3 := keepf hs3; have HQ3 := keepf hq3; have HC3 := keepf hc3; clear hr3 hs3 hq3 hc3)
      go_end0
      refine ⟨rfl, d3, HR3.out, hSm.out.trans (HS3.out.wide (by omega) (by omega)), fun k h1 h2 => ?_, HCh.out.trans HC3.out (fun _ _ h => h)⟩
      obtain ⟨hA, hB, hC⟩ := hQ.out
      rw [← HT.out, HQ3.out]
      by_cases h3 : m - i ≤ k ∧ k < m - i + i
      · rw [if_pos h3, ← hB _ (by omega)]; congr 1; omega
      · rw [if_neg h3]
        by_cases h4 : m ≤ k ∧ k < m + i
        · rw [if_pos h4, ← hC _ (by omega)]; congr 1; omega
        · rw [if_neg h4]; exact hA k h1 h2 (by omega)
    · by_cases hlt : j < i
      · have hlt' : (j : Int) < i := by omega
        have hne' : ¬ ((i : Int) = (j : Int)) := by omega
        go_wp2_with (go_at_call 89; rw [HMI.out]; refine (HSW.out _ d1 (m - i) m j hl1 HRw.out (by omega) (by omega)).mono ?_; rintro e w3 ⟨rfl, d3, hr3, hs3, hq3, hc3⟩; have HR3 := keepf hr3; have HS3 := keepf hs3; have HQ3 := keepf hq3; have HC3 := keepf hc3; clear hr3 hs3 hq3 hc3)
        go_roundw
        case rel =>
          refine ⟨i - j, j, d3, by omega, by omega, by omega, by omega, by go_num, rfl, by rw [HS3.out.len]; exact hl1, HR3.out, hSm.out.trans (HS3.out.wide (by omega) (by omega)), ?_, HCh.out.trans HC3.out (fun _ _ h => h)⟩
          obtain ⟨hA, hB, hC⟩ := hQ.out
          refine ⟨fun k h1 h2 h3 => ?_, fun y hy => ?_, fun x hx => ?_⟩
          · rw [HQ3.out]
            by_cases h4 : m - i ≤ k ∧ k < m - i + j
            · rw [if_pos h4, ← hB _ (by omega)]; congr 1; omega
            · rw [if_neg h4, if_neg (show ¬ (m ≤ k ∧ k < m + j) by omega)]; exact hA k h1 h2 (by omega)
          · rw [HQ3.out, if_neg (show ¬ (m - i ≤ m + y ∧ m + y < m - i + j) by omega), if_pos (show m ≤ m + y ∧ m + y < m + j by omega), show m - i + (m + y - m) = m - i + y from by omega, ← hC y (by omega)]
            congr 1; omega
          · rw [HQ3.out, if_neg (show ¬ (m - i ≤ m - (i - j) + x ∧ m - (i - j) + x < m - i + j) by omega), if_neg (show ¬ (m ≤ m - (i - j) + x ∧ m - (i - j) + x < m + j) by omega), show m - (i - j) + x = m - i + (j + x) from by omega, ← hC (j + x) (by omega)]
            congr 1; omega
        case measure => simp [intOf]; omega
      · have hlt' : decide ((j : Int) < i) = false := by simp; omega
        have hne' : ¬ ((i : Int) = (j : Int)) := by omega
        have emj : ((m : Int) + j - i) = ((m + j - i : Nat) : Int) := by omega
        have HMJ := keepf emj
        clear emj
        go_wp2_with (go_at_call 89; rw [HMI.out, HMJ.out]; refine (HSW.out _ d1 (m - i) (m + j - i) i hl1 HRw.out (by omega) (by omega)).mono ?_; rintro e w3 ⟨rfl, d3, hr3, hs3, hq3, hc3⟩; have HR3 := keepf hr3; have HS3 := keepf hs3; have HQ3 := keepf hq3; have HC3 := keepf hc3; clear hr3 hs3 hq3 hc3)
        go_roundw
        case rel =>
          refine ⟨i, j - i, d3, by omega, by omega, by omega, by omega, rfl, by go_num, by rw [HS3.out.len]; exact hl1, HR3.out, hSm.out.trans (HS3.out.wide (by omega) (by omega)), ?_, HCh.out.trans HC3.out (fun _ _ h => h)⟩
          obtain ⟨hA, hB, hC⟩ := hQ.out
          refine ⟨fun k h1 h2 h3 => ?_, fun y hy => ?_, fun x hx => ?_⟩
          · rw [HQ3.out, if_neg (show ¬ (m - i ≤ k ∧ k < m - i + i) by omega)]
            by_cases h4 : m + j - i ≤ k ∧ k < m + j - i + i
            · rw [if_pos h4, ← hC _ (by omega)]; congr 1; omega
            · rw [if_neg h4]; exact hA k h1 h2 (by omega)
          · rw [HQ3.out, if_neg (show ¬ (m - i ≤ m + y ∧ m + y < m - i + i) by omega), if_neg (show ¬ (m + j - i ≤ m + y ∧ m + y < m + j - i + i) by omega), ← hB y (by omega)]
          · rw [HQ3.out, if_pos (show m - i ≤ m - i + x ∧ m - i + x < m - i + i by omega), show m + j - i + (m - i + x - (m - i)) = m + (j - i + x) from by omega, ← hB (j - i + x) (by omega)]
            congr 1; omega
        case measure => simp [intOf]; omega

end Go.Proofs.Ytaababegolfjeaa.PS

/- Comparisons by a key, as a function value makes them. -/
namespace Go.Proofs.Ytaababegolfjeaa.PS
open Go.RowKit
set_option linter.unusedVariables false

def cmpv (a b : Int) : Int := if a < b then -1 else if b < a then 1 else 0

theorem cmpv_lt (a b : Int) : decide (cmpv a b < 0) = decide (a < b) := by
  unfold cmpv
  by_cases h : a < b
  · simp [h]
  · rw [if_neg h]
    by_cases h2 : b < a
    · simp [h2, h]
    · simp [h2, h]

/-- The function value compares by a key; it changes nothing. -/
def CmpOf [PAd] (g : Nat) (lb : Array Value) (key : Int → Int) (N : Int) (blk : Nat) (w0 : World) : Prop :=
  ∀ (x y : Int) (W : World), 0 ≤ x → x < N → 0 ≤ y → y < N → Chg (fun i => i = blk) w0 W → Calls Try.prog g (#[.slice (some (PAd.ad x)) 2 2, .slice (some (PAd.ad y)) 2 2] ++ lb) W fun e w' => e = .returned (.int .i64 (cmpv (key x) (key y))) ∧ ∃ m, w' = W.drewN m

def Good (N : Int) (d : List Int) : Prop := ∀ x ∈ d, 0 ≤ x ∧ x < N

theorem Good.get {N : Int} {d : List Int} (h : Good N d) (i : Nat) (hi : i < d.length) : 0 ≤ d.getD i 0 ∧ d.getD i 0 < N := by
  have e : d.getD i 0 = d[i] := by simp [List.getD_eq_getElem?_getD, hi]
  rw [e]
  exact h _ (List.getElem_mem hi)

theorem Good.same {N : Int} {d d' : List Int} {a b : Nat} (h : Good N d) (k : Same d d' a b) : Good N d' := fun x hx => h x (k.perm.mem_iff.1 hx)

theorem drewN_drewN (w : World) (m n : Nat) : (w.drewN m).drewN n = w.drewN (m + n) := by simp [World.drewN, Nat.add_assoc]

theorem quiet_draw {P : Program} {f : FuncId} {args : Array Value} {w : World} {n : Nat} {v : Value}
    (h : Calls P f args (w.drewN n) fun e w' => e = .returned v ∧ ∃ m, w' = (w.drewN n).drewN m) : Calls P f args (w.drewN n) fun e w'' => e = .returned v ∧ ∃ m, w'' = w.drewN m :=
  h.mono fun _ _ ⟨he, m, hm⟩ => ⟨he, n + m, by rw [hm, drewN_drewN]⟩

/-- A later one is below an earlier one by both keys, or by neither. -/
theorem cmp_cross {key0 key : Int → Int} {N : Int} {d : List Int} {i j : Nat} (hk : key = kk key0 N) (hst : InTurn key0 d) (hg : Good N d) (hji : j < i) (hi : i < d.length) :
    decide (cmpv (key0 (d.getD i 0)) (key0 (d.getD j 0)) < 0) = decide (key (d.getD i 0) < key (d.getD j 0)) := by
  subst hk
  rw [cmpv_lt]
  have h1 := kk_lt (key := key0) (hg.get i hi) (hg.get j (by omega))
  have h2 := hst j i hji hi
  rw [decide_eq_decide, h1]
  omega

end Go.Proofs.Ytaababegolfjeaa.PS

/- What insertionSort does to a row of integers. -/
namespace Go.Proofs.Ytaababegolfjeaa.PS
open Go.RowKit
set_option linter.unusedVariables false
set_option linter.unusedSimpArgs false

/-- One more is put in its place: the rows below j and from j on are in order, but for the place j itself. -/
def Hole (key : Int → Int) (d : List Int) (a i j : Nat) : Prop :=
  (∀ p q, a ≤ p → p < q → q < i + 1 → p ≠ j → q ≠ j → key (d.getD p 0) ≤ key (d.getD q 0)) ∧ (∀ q, j < q → q < i + 1 → key (d.getD j 0) ≤ key (d.getD q 0))

theorem hole_start {key : Int → Int} {d : List Int} {a i : Nat} (h : Sorted key d a i) : Hole key d a i i :=
  ⟨fun p q hp hpq hq h1 h2 => h p q hp hpq (by omega), fun q h1 h2 => absurd h1 (by omega)⟩

theorem hole_done {key : Int → Int} {d : List Int} {a i j : Nat} (h : Hole key d a i j) (haj : a ≤ j) (hji : j ≤ i) (hl : j = a ∨ key (d.getD (j - 1) 0) ≤ key (d.getD j 0)) : Sorted key d a (i + 1) := by
  intro p q hp hpq hq
  by_cases h1 : p = j
  · subst h1; exact h.2 q hpq hq
  · by_cases h2 : q = j
    · subst h2
      rcases hl with h3 | h3
      · omega
      · by_cases h4 : p = q - 1
        · subst h4; exact h3
        · exact Int.le_trans (h.1 p (q - 1) hp (by omega) (by omega) h1 (by omega)) h3
    · exact h.1 p q hp hpq hq h1 h2

theorem hole_step {key : Int → Int} {d : List Int} {a i j : Nat} (h : Hole key d a i (j + 1)) (haj : a ≤ j) (hji : j + 1 ≤ i) (hi : i < d.length) (hlt : key (d.getD (j + 1) 0) < key (d.getD j 0)) : Hole key (swapD d (j + 1) j) a i j := by
  have g := fun k => swapD_get d (j + 1) j k (by omega) (by omega)
  refine ⟨fun p q hp hpq hq h1 h2 => ?_, fun q h1 h2 => ?_⟩
  · rw [g p, g q, if_neg h1, if_neg h2]
    by_cases h3 : p = j + 1
    · subst h3
      rw [if_pos rfl, if_neg (by omega)]
      exact h.1 j q haj (by omega) hq (by omega) (by omega)
    · rw [if_neg h3]
      by_cases h4 : q = j + 1
      · subst h4
        rw [if_pos rfl]
        exact h.1 p j hp (by omega) (by omega) h3 (by omega)
      · rw [if_neg h4]
        exact h.1 p q hp hpq hq h3 h4
  · rw [g j, g q, if_pos rfl, if_neg (by omega)]
    by_cases h4 : q = j + 1
    · subst h4; rw [if_pos rfl]; omega
    · rw [if_neg h4]
      exact h.2 q (by omega) h2

set_option maxHeartbeats 4000000 in
set_option maxRecDepth 100000 in
theorem ins_any [PAd] (g : Nat) (lb : Array Value) (eg : ∀ args w, (callFunc g args).run Try.prog w = .ok (.enter g args) w) (key0 key : Int → Int) (NN : Int) (hkk : key = kk key0 NN) (gs cap : Nat) (w0 : World) (hcmp : CmpOf g lb key0 NN gs w0)
    (a b : Nat) (d : List Int) (w : World) (hab : a ≤ b) (hb : b ≤ d.length) (hL : d.length ≤ 1000000) (hR : Row w gs cap d) (hG : Good NN d) (hst : InTurn key0 d) (hch : Chg (fun i => i = gs) w0 w) :
    Calls Try.prog 72 #[.slice (some ⟨gs, 0, none⟩) d.length cap, .int .i64 a, .int .i64 b, .func (.func g) #[] lb] w (SortTo w gs cap d a b (fun d' => Sorted key d' a b)) := by
  have HR := keepf hR
  have HG := keepf hG
  have HCH := keepf hch
  have HST := keepf hst
  have HKK := keepf hkk
  clear hR hG hch hst
  obtain ⟨N, hN⟩ : ∃ N, N = d.length := ⟨_, rfl⟩
  have HN := keepf hN
  rw [← hN] at hb hL ⊢
  clear hN
  go_enter Try.func72, Try.ntmps72
  go_wp2_with fail
  go_loopw [8] (fun v wr => ∃ i : Nat, ∃ d1 : List Int, a + 1 ≤ i ∧ i ≤ b + 1 ∧ v = .int .i64 i ∧ d1.length = N ∧ Row wr gs cap d1 ∧ Hid (Same d d1 a b) ∧ Hid ((∀ e, e ≤ i → e ≤ b → Sorted key d1 a e) ∧ InTurn key0 d1) ∧ Chg (fun i => i = gs) w wr) (fun v _ => b + 1 - (intOf v).toNat)
  case atStart => exact ⟨a + 1, d, by omega, by omega, by go_num, HN.out.symm, HR.out, Same.refl _ _ _, ⟨fun e h1 h2 p q h3 h4 h5 => absurd h4 (by omega), HST.out⟩, Chg.refl _ _⟩
  case round =>
    obtain ⟨i, d1, hi1, hi2, rfl, hl1, hRw, hSm, hSo, hc⟩ := hrel
    have HRw := keepf hRw
    have HCw := keepf hc
    clear hRw hc
    by_cases hlt : i < b
    · go_wp2_with fail
      go_loopw [9] (fun v wr2 => ∃ j : Nat, ∃ d2 : List Int, a ≤ j ∧ j ≤ i ∧ v = .int .i64 j ∧ d2.length = N ∧ Row wr2 gs cap d2 ∧ Hid (Same d d2 a b) ∧ Hid (Hole key d2 a i j ∧ Same d1 d2 a (i + 1) ∧ d2.getD j 0 = d1.getD i 0 ∧ ∀ p, p < j → d2.getD p 0 = d1.getD p 0) ∧ Chg (fun i => i = gs) w wr2) (fun v _ => (intOf v).toNat)
      case atStart => exact ⟨i, d1, by omega, by omega, rfl, hl1, HRw.out, hSm.out, ⟨hole_start (hSo.out.1 i (Nat.le_refl _) (by omega)), Same.refl _ _ _, rfl, fun _ _ => rfl⟩, HCw.out⟩
      case round =>
        obtain ⟨j, d2, hj1, hj2, rfl, hl2, hR2, hS2, hH, hc2⟩ := hrel
        have HR2 := keepf hR2
        have HC2 := keepf hc2
        clear hR2 hc2
        by_cases hja : a < j
        · obtain ⟨j', hj'⟩ : ∃ j', j = j' + 1 := ⟨j - 1, by omega⟩
          have e1 : ((j : Int) - 1) = (j' : Int) := by omega
          have k1 := HR2.out.cell j (by omega)
          have k2 := HR2.out.cell j' (by omega)
          have f1 := HR2.out.frozen j
          have f2 := HR2.out.frozen j'
          have g2 := HG.out.same hS2.out
          have hcl := keepf (fun n => quiet_draw (n := n) (hcmp (d2.getD j 0) (d2.getD j' 0) (wr.drewN n) (g2.get j (by omega)).1 (g2.get j (by omega)).2 (g2.get j' (by omega)).1 (g2.get j' (by omega)).2 ((HCH.out.trans HC2.out (fun _ _ h => h)).drewN n)))
          have hja' : (a : Int) < j := by omega
          have b1 : (j : Int) < N := by omega
          have b2 : (j' : Int) < N := by omega
          obtain ⟨x, hx⟩ : ∃ x, x = d2.getD j 0 := ⟨_, rfl⟩
          obtain ⟨y, hy⟩ : ∃ y, y = d2.getD j' 0 := ⟨_, rfl⟩
          rw [← hx] at k1 hcl
          rw [← hy] at k2 hcl
          have hcv := cmp_cross HKK.out hSo.out.2 (HG.out.same hSm.out) (show j' < i by omega) (by omega)
          rw [← hH.out.2.2.1, ← hH.out.2.2.2 j' (by omega), ← hx, ← hy] at hcv
          have HX := keepf hx
          have HY := keepf hy
          have HJ := keepf hj'
          clear hx hy hj' g2
          obtain ⟨cv, hcv0⟩ : ∃ cv, cv = cmpv (key0 x) (key0 y) := ⟨_, rfl⟩
          rw [← hcv0] at hcl hcv
          clear hcv0
          by_cases hxy : key x < key y
          · have hd : decide (cv < 0) = true := by rw [hcv]; simpa using hxy
            have HXY := keepf hxy
            clear hcv hxy
            go_upto_region 4 with fail
            go_quiet ((go_at_fn g; exact hcl.out _))
            go_upto_region 6 with fail
            have hR3 := HR2.out.drewN nq
            have hC3 := HC2.out.drewN nq
            have k1' := hR3.cell j (by omega)
            have k2' := hR3.cell j' (by omega)
            have f1' := hR3.frozen j
            have f2' := hR3.frozen j'
            rw [← HX.out] at k1'
            rw [← HY.out] at k2'
            clear k1 k2 f1 f2
            generalize wr.drewN nq = wq at *
            have HR3 := keepf hR3
            have HC3 := keepf hC3
            clear hR3 hC3
            go_region
            go_wp2_with fail
            go_roundw
            case rel =>
              have hkk := HJ.out
              subst hkk
              have hsw := HR3.out.swap (j' + 1) j'
              rw [← HX.out, ← HY.out] at hsw
              refine ⟨j', swapD d2 (j' + 1) j', by omega, by omega, by go_num, by rw [swapD_len]; exact hl2, hsw.drew, hS2.out.trans (Same.swap d2 a b (j' + 1) j' (by omega) (by omega) (by omega)), ⟨hole_step hH.out.1 (by omega) hj2 (by omega) (by have := HXY.out; rw [HX.out, HY.out] at this; exact this), hH.out.2.1.trans (Same.swap d2 a (i + 1) (j' + 1) j' (by omega) (by omega) (by omega)), by rw [swapD_get d2 _ _ _ (by omega) (by omega), if_pos rfl]; exact hH.out.2.2.1, fun p hp => by rw [swapD_get d2 _ _ p (by omega) (by omega), if_neg (by omega), if_neg (by omega)]; exact hH.out.2.2.2 p (by omega)⟩, ((HC3.out.setCell (p := ⟨gs, j' + 1, none⟩) (fun _ => rfl) _).setCell (p := ⟨gs, j', none⟩) (fun _ => rfl) _).drew⟩
            case measure => simp [intOf]; have := HJ.out; omega
          · have hd : decide (cv < 0) = false := by rw [hcv]; simpa using hxy
            have HXY := keepf hxy
            clear hcv hxy
            go_upto_region 4 with fail
            go_quiet ((go_at_fn g; exact hcl.out _))
            go_wp2_with fail
            go_roundw
            case rel =>
              have hso := hole_done hH.out.1 hj1 hj2 (.inr (by have h4 := HXY.out; rw [HX.out, HY.out] at h4; rw [show j - 1 = j' from by have := HJ.out; omega]; omega))
              exact ⟨i + 1, d2, by omega, by omega, by go_num, hl2, HR2.out.drewN nq, hS2.out, ⟨fun e h1 h2 => hso.part (Nat.le_refl _) h1, hSo.out.2.same HKK.out hH.out.2.1 (by omega) (HG.out.same hS2.out).get hso⟩, HC2.out.drewN nq⟩
            case measure => simp [intOf]; omega
        · have hja' : decide ((a : Int) < j) = false := by simp; omega
          have HAJ := keepf (show j = a by omega)
          go_upto_region 4 with fail
          go_quiet (fail)
          go_wp2_with fail
          go_roundw
          case rel =>
            have hso := hole_done hH.out.1 hj1 hj2 (.inl HAJ.out)
            exact ⟨i + 1, d2, by omega, by omega, by go_num, hl2, HR2.out.drewN nq, hS2.out, ⟨fun e h1 h2 => hso.part (Nat.le_refl _) h1, hSo.out.2.same HKK.out hH.out.2.1 (by omega) (HG.out.same hS2.out).get hso⟩, HC2.out.drewN nq⟩
          case measure => simp [intOf]; omega
    · go_wp2_with fail
      go_end0
      exact ⟨rfl, d1, HRw.out, hSm.out, hSo.out.1 b (by omega) (Nat.le_refl _), HCw.out⟩

end Go.Proofs.Ytaababegolfjeaa.PS

