/- Lengths of lengths; the codes that a block tells ahead of its symbols. -/
import Derived.Test.YtbdnhhhagpgibaaLensP
namespace Go.Proofs.Ytbdnhhhagpgibaa
open Go.RowKit
set_option linter.unusedVariables false
set_option linter.unusedSimpArgs false

/-- A row of integers of the call's own, in block g. -/
def RowI (w : World) (g cap : Nat) (d : List Int) : Prop := w.ownsRow 0 3 1 (.slice (some ⟨g, 0, none⟩) d.length cap) d.length (icells d)
theorem RowI.chg {w w' : World} {g cap : Nat} {d : List Int} {K : Nat → Prop} (h : RowI w g cap d) (hc : Chg K w w') (hk : ¬ K g) : RowI w' g cap d := own_chg h hc (fun i hi => by
  simp [Value.ownBlock] at hi
  subst hi
  exact hk)
theorem RowI.set {w : World} {g cap : Nat} {d : List Int} (h : RowI w g cap d) (i : Nat) (x : Int) : RowI (w.setCell ⟨g, i, none⟩ (.int .i64 x)) g cap (d.set i x) := by
  have h1 := (World.ownsRow.stored h i (.int .i64 x)).1
  have e : (icells d).set i (.int .i64 x) = icells (d.set i x) := by simp [icells, List.map_set]
  rw [e] at h1
  unfold RowI
  rw [List.length_set]
  exact h1
theorem RowI.frozen {w : World} {g cap : Nat} {d : List Int} (h : RowI w g cap d) (i : Nat) : w.frozen? ⟨g, i, none⟩ = false := World.ownsRow.frozenAt h i
theorem RowI.cell {w : World} {g cap : Nat} {d : List Int} (h : RowI w g cap d) (i : Nat) (hi : i < d.length) : w.cell? ⟨g, i, none⟩ = some (.int .i64 (d.getD i 0)) := by
  have h1 := World.ownsRow.cellAt h i (by omega)
  rw [h1]
  simp [icells, List.getD_eq_getElem?_getD, hi]

def orderCells : Array Value := (order.map fun n => Value.int .i64 (n : Nat)).toArray
set_option maxRecDepth 100000 in
theorem order_any (w : World) : Calls Try.prog 17 #[] w fun e w' => e = .returned (.slice (some ⟨w.heap.size, 0, none⟩) 19 19) ∧ w' = w.alloc (.cells orderCells 3) := by
  go_enter Try.func17, Try.ntmps17
  go_wp2
  go_ret
  exact ⟨rfl, rfl⟩

/-- Behind lengthCodes. -/
def GotK (w : World) (g gr : Nat) (bs : List Nat) (a : Nat) (S : Value) (most : Nat) (out : List Nat) (So fx : Value) (K : Nat) (e : Ending) (w' : World) : Prop :=
  ∃ b : Nat, Pk w' g gr bs b S most out So fx ∧ Mv g gr w So w' So ∧ a ≤ b ∧
    ((∃ (t : Nat) (l : List Int), e = .returned (.tuple #[.pointer (some ⟨t, 0, none⟩), .int .i64 0]) ∧ May l ∧ Tb w' t l ∧ ∀ n ns last, Leads bs most ⟨a, out, .kinds (order.take K) (List.replicate 19 0) n ns last⟩ ⟨b, out, .lens l [] n ns last⟩) ∨
      (∃ k : Int, (k = 10 ∨ k = 13) ∧ e = .returned (.tuple #[.pointer none, .int .i64 k]) ∧ ∀ n ns last, Runs bs most ⟨a, out, .kinds (order.take K) (List.replicate 19 0) n ns last⟩ (.err k)))

set_option maxHeartbeats 2000000 in
set_option maxRecDepth 100000 in
theorem plengthCodes (w : World) (g gr a most K : Nat) (bs out : List Nat) (S So fx : Value) (hP : Pk w g gr bs a S most out So fx) (hK : K ≤ 19) :
    Calls Try.prog 53 #[.pointer (some ⟨g, 0, none⟩), .int .i64 K] w (GotK w g gr bs a S most out So fx K) := by
  have HP := keepf hP
  obtain ⟨i0, hi, hz0, hz1, hz2⟩ := info_parts info_i64
  clear hP
  go_enter Try.func53, Try.ntmps53
  go_wp2_with (first
    | (at_make; go_loud (refine wpList_make_full _ rfl (.const (.int .i64 19)) (.const (.int .i64 19)) 32 rfl 0 3 i0 (.int .i64 0) 1 Try.underlying32 hi hz0 hz1 .i64 .i64 _ _ 19 rfl rfl rfl rfl (by rw [hz2]; omega) (by unfold maxLen; omega) (Nat.zero_le _) ?_); intro w2 hown2 hgr; have HO2 := keepf hown2; have HG2 := keepf hgr; clear hown2 hgr)
    | (go_at_call 17; refine (order_any _).mono ?_; rintro e w3 ⟨rfl, rfl⟩))
  have hz : (madeCells (Value.int .i64 0).cells (19 * 1)).toList = icells (List.replicate 19 0) := by
    rw [Nat.mul_one]
    exact (toList_madeCells_one _ _).trans (by simp [icells])
  have hrow2 : RowI w2 w.heap.size 19 (List.replicate 19 0) := by
    show w2.ownsRow _ _ _ (.slice _ (List.replicate 19 (0 : Int)).length _) (List.replicate 19 (0 : Int)).length _
    rw [List.length_replicate, ← hz]
    exact HO2.out
  have hc2 : Chg NoS w w2 := (Chg.refl NoS w).grown HG2.out (fun _ e _ => by cases e)
  have hlt2 : w.heap.size < w2.heap.size := own_lt HO2.out rfl
  obtain ⟨gl, hgl⟩ : ∃ gl, gl = w.heap.size := ⟨_, rfl⟩
  obtain ⟨go, hgo⟩ : ∃ go, go = w2.heap.size := ⟨_, rfl⟩
  have hb3 := Blk.new w2 3 orderCells
  have hc3 : Chg NoS w2 (w2.alloc (.cells orderCells 3)) := (Chg.refl NoS w2).alloc _
  have hlo : gl ≠ go := by omega
  generalize w2.alloc (.cells orderCells 3) = w3 at *
  rw [← hgl] at hrow2 ⊢
  rw [← hgo] at hb3 ⊢
  have HR3 := keepf (hrow2.chg hc3 (fun h => h))
  have HB3 := keepf hb3
  have HC3 := keepf (hc2.trans hc3 (fun _ _ h => h))
  have HLO := keepf hlo
  have HGL := keepf hgl
  have HGO := keepf (show w.heap.size ≤ go by omega)
  clear hz hrow2 hc2 hlt2 hgl hgo hb3 hc3 hlo HO2 HG2
  go_loopw [16] (fun vi wr => ∃ (i b : Nat) (l : List Int), i ≤ K ∧ vi = .int .i64 i ∧ Hid (l.length = 19) ∧ Hid (RowI wr gl 19 l) ∧ Hid (Blk wr go 3 orderCells) ∧ Hid (Pk wr g gr bs b S most out So fx) ∧ Hid (Mv g gr w So wr So) ∧ Hid (a ≤ b) ∧ Hid (∀ z ∈ l, 0 ≤ z ∧ z ≤ 7) ∧ Hid (∀ n ns last, Leads bs most ⟨a, out, .kinds (order.take K) (List.replicate 19 0) n ns last⟩ ⟨b, out, .kinds ((order.take K).drop i) l n ns last⟩)) (fun vi _ => K - (intOf vi).toNat)
  case atStart => exact ⟨0, a, _, Nat.zero_le _, rfl, List.length_replicate, HR3.out, HB3.out, HP.out.news HC3.out, (Mv.refl _ _ _ _).news HC3.out, Nat.le_refl a, fun z hz => (by rw [List.eq_of_mem_replicate hz]; omega), fun n ns last => Leads.refl _⟩
  case round =>
    obtain ⟨i, b, l, hiK, rfl, H19, HRl, HBo, HPi, HMi, HAB, HZ, HL⟩ := hrel
    by_cases hlt : i < K
    · have c0 := HPi.out.c0
      obtain ⟨s, hs⟩ : ∃ s, s = order.getD i 0 := ⟨_, rfl⟩
      have hol : order.length = 19 := rfl
      have hs19 : s < 19 := by
        rw [hs]
        have : ∀ k : Nat, k < 19 → order.getD k 0 < 19 := by decide
        exact this i (by omega)
      have hdrop : (order.take K).drop i = s :: (order.take K).drop (i + 1) := by
        rw [List.drop_eq_getElem_cons (by rw [List.length_take]; omega)]
        congr 1
        rw [hs, List.getElem_take, List.getD_eq_getElem?_getD, List.getElem?_eq_getElem (by omega)]
        rfl
      have hco : wr.cell? ⟨go, i, none⟩ = some (.int .i64 (s : Nat)) := by
        rw [HBo.out.cell, hs]
        simp [orderCells, List.getD_eq_getElem?_getD, show i < order.length by omega]
      have HDR := keepf hdrop
      have HGT := keepf (pget wr g gr b 3 most bs out S So fx HPi.out (by omega))
      have i19 : (i : Int) < 19 := by omega
      clear hs hol hdrop
      go_upto_region 6 with (go_at_call 31; refine HGT.out.mono ?_; rintro e w4 ⟨x, b4, k, rfl, hP4, hm4, hx, hk⟩; have HP4 := keepf hP4; have HMM4 := keepf hm4; have HM4 := keepf (HMi.out.trans hm4); have HK := keepf hk; clear hP4 hm4 hk)
      have hx8 : x < 8 := by simpa using hx
      clear hx c0 HGT
      have hstep : ∀ n ns last, Step bs most ⟨b, out, .kinds ((order.take K).drop i) l n ns last⟩ (if 8 * bs.length < b + 3 then .inr (.err 10) else .inl ⟨b + 3, out, .kinds ((order.take K).drop (i + 1)) (l.set s (numAt false bs b 3 : Nat)) n ns last⟩) := fun n ns last => .kinds (by rw [HDR.out]; rfl)
      have HST := keepf hstep
      clear hstep
      rcases HK.out with ⟨rfl, rfl, hle, hxe⟩ | ⟨rfl, rfl, rfl, hlt4⟩
      · have hlead : ∀ n ns last, Leads bs most ⟨a, out, .kinds (order.take K) (List.replicate 19 0) n ns last⟩ ⟨b + 3, out, .kinds ((order.take K).drop (i + 1)) (l.set s (x : Nat)) n ns last⟩ := fun n ns last => (HL.out n ns last).then (by have := HST.out n ns last; rw [if_neg (by omega), ← hxe] at this; exact this)
        have HL4 := keepf hlead
        have hrow4 : RowI w4 gl 19 l := HRl.out.chg HMM4.out.1 (HPi.out.no_own HRl.out (by decide) (by decide) (by decide) gl rfl)
        have HB4 := keepf (HBo.out.chg HMM4.out.1 (HPi.out.no_blk HBo.out (by decide) (by decide) (by decide)))
        have f4 := hrow4.frozen s
        have c4 := hrow4.cell s (by have := H19.out; omega)
        have HR4 := keepf hrow4
        have hset : Chg (fun i => i = gl) w4 (w4.setCell ⟨gl, s, none⟩ (.int .i64 (x : Nat))) := (Chg.refl (fun i => i = gl) w4).setCell (p := ⟨gl, s, none⟩) (fun _ => rfl) _
        have HSet := keepf hset
        have hio : IntsOnly w4 (fun i => i = gl) := fun i t cs hb ht e => by
          subst e
          exact own_ne_blk hrow4 hb (fun h => ht h.symm) rfl
        have HIO := keepf hio
        clear hlead hrow4 hset hio hle hxe HST HK HPi HMi HRl HBo HL HMM4 hco
        go_wp2_with fail
        go_roundw
        case rel =>
          refine ⟨i + 1, b + 3, l.set s (x : Nat), by omega, by go_num, ?_, HR4.out.set s (x : Nat), HB4.out.chg HSet.out (fun e => HLO.out e.symm), HP4.out.ints HSet.out HIO.out, HM4.out.fresh HSet.out (fun i hi e => by have := HGL.out; omega), (by show a ≤ _; have := HAB.out; omega), ?_, HL4.out⟩
          · show (l.set s _).length = 19
            rw [List.length_set]
            exact H19.out
          · intro z hz
            rcases List.mem_or_eq_of_mem_set hz with h | h
            · exact HZ.out z h
            · rw [h]; omega
        case measure => simp [intOf]; omega
      · have hrun : ∀ n ns last, Runs bs most ⟨a, out, .kinds (order.take K) (List.replicate 19 0) n ns last⟩ (.err 10) := fun n ns last => (HL.out n ns last).stop (by have := HST.out n ns last; rw [if_pos (by omega)] at this; exact this)
        have HRu := keepf hrun
        clear hrun HST HK
        go_wp2_with fail
        go_ret2
        exact ⟨_, HP4.out, HM4.out, HAB.out, .inr ⟨10, .inl rfl, rfl, HRu.out⟩⟩
    · obtain rfl : K = i := by omega
      have hsrc : Src wr 1 (some ⟨gl, 0, none⟩) l.length 19 (icells l) := src_own HRl.out
      have hib : in64 l := fun z hz => by have := HZ.out z hz; omega
      have hdn : (order.take K).drop K = [] := List.drop_eq_nil_of_le (by rw [List.length_take]; omega)
      by_cases hM : May l
      · have HN := keepf (new_ok l (some ⟨gl, 0, none⟩) 19 wr hM hib hsrc)
        have hlead : ∀ n ns last, Leads bs most ⟨a, out, .kinds (order.take K) (List.replicate 19 0) n ns last⟩ ⟨b, out, .lens l [] n ns last⟩ := fun n ns last => (HL.out n ns last).then (.kinds (by rw [hdn]; unfold stKinds; rw [if_pos hM]))
        have HL4 := keepf hlead
        have HMy := keepf hM
        rw [H19.out] at HN
        clear hlead hM hsrc hib hdn
        go_wp2_with (go_at_call 61; refine HN.out.mono ?_; rintro e w5 ⟨t, rfl, ht5, hc5, hg5⟩; have HT5 := keepf ht5; have HC5 := keepf hc5; clear ht5 hc5 hg5)
        go_ret2
        exact ⟨b, HPi.out.news HC5.out, HMi.out.news HC5.out, HAB.out, .inl ⟨t, l, rfl, HMy.out, HT5.out, HL4.out⟩⟩
      · have HN := keepf (new_no l (some ⟨gl, 0, none⟩) 19 wr hM (by have := H19.out; omega) hib hsrc)
        have hrun : ∀ n ns last, Runs bs most ⟨a, out, .kinds (order.take K) (List.replicate 19 0) n ns last⟩ (.err 13) := fun n ns last => (HL.out n ns last).stop (.kinds (by rw [hdn]; unfold stKinds; rw [if_neg hM]))
        have HRu := keepf hrun
        rw [H19.out] at HN
        clear hrun hM hsrc hib hdn
        go_wp2_with (go_at_call 61; refine HN.out.mono ?_; rintro e w5 ⟨rfl, hc5⟩; have HC5 := keepf hc5; clear hc5)
        go_ret2
        exact ⟨b, HPi.out.news HC5.out, HMi.out.news HC5.out, HAB.out, .inr ⟨13, .inr rfl, rfl, HRu.out⟩⟩
end Go.Proofs.Ytbdnhhhagpgibaa
