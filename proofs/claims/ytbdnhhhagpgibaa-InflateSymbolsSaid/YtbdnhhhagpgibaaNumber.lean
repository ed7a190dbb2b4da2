/- What number does to a table: each symbol's code, and the symbols in their order. -/
import Derived.Test.YtbdnhhhagpgibaaBegin
import Derived.BigQuiet
import Derived.Deep.QuietTactic
import Derived.Deep.RegionWith
namespace Go.Proofs.Ytbdnhhhagpgibaa
open Go.RowKit
set_option linter.unusedVariables false
set_option linter.unusedSimpArgs false

def zgiv : Array Value := ((List.range 16).map fun _ => Value.int .u32 0).toArray
theorem zero_giv : (Try.prog.info? 121).bind (·.zero) = some (.agg zgiv) := by kernel_rfl
theorem size_lens : (Try.prog.info? 103).map (·.size) = some 320 := by kernel_rfl
theorem size_int : (Try.prog.info? 3).map (·.size) = some 1 := by kernel_rfl
theorem row_int : (Try.prog.underlying 3).map TypeDesc.isRow = some false := by kernel_rfl

structure GivIs (G : Array Value) (c : Nat → Nat) : Prop where
  size : G.size = 16
  c0 : ∀ i, i < 16 → G[i]? = some (.int .u32 (c i : Nat))
theorem giv_zero : GivIs zgiv (fun _ => 0) where
  size := by simp [zgiv]
  c0 i hi := by simp [zgiv, hi]
theorem GivIs.set {G : Array Value} {c : Nat → Nat} (h : GivIs G c) (k v : Nat) (hk : k < 16) : GivIs (G.setIfInBounds k (.int .u32 (v : Nat))) (fun i => if i = k then v else c i) where
  size := by simpa using h.size
  c0 i hi := by
    by_cases e : i = k
    · subst e; rw [get_set_eq (by rw [h.size]; omega)]; simp
    · rw [get_set_ne e, h.c0 i hi]; simp [e]
theorem GivIs.congr {G : Array Value} {c c' : Nat → Nat} (h : GivIs G c) (e : ∀ i, i < 16 → c i = c' i) : GivIs G c' where
  size := h.size
  c0 i hi := by rw [← e i hi]; exact h.c0 i hi

/-- The lengths as a value. -/
def lensV (L : Nat → Int) : Array Value := ((List.range 320).map fun i => Value.int .i64 (L i)).toArray
theorem lensV_size (L : Nat → Int) : (lensV L).size = 320 := by simp [lensV]
theorem lensV_get (L : Nat → Int) (i : Nat) (h : i < 320) : (lensV L)[i]? = some (.int .i64 (L i)) := by simp [lensV, h]
theorem lens_range {w : World} {g : Nat} {T : Array Value} {t : TypeId} {n d : Nat} {L : Nat → Int} {C f m a S : Nat → Nat} (hB : Blk w g t T) (h : TabIs T n d L C f m a S) :
    w.rangeAt g 3 (lensV L).toList := by
  intro j v hv
  have hj : j < 320 := by
    have := (List.getElem?_eq_some_iff.1 hv).1
    simpa [lensV] using this
  have h1 : (lensV L)[j]? = some v := by simpa using hv
  rw [lensV_get L j hj] at h1
  rw [hB.cell, h.len j hj, h1]

/-- Where the symbols stand, of the first k. -/
def SymTo (ls : List Int) (S : Nat → Nat) (k : Nat) : Prop := ∀ s n : Nat, s < k → n ≠ 0 → ls[s]? = some (n : Int) → S (att (cnt ls) n + rank ls s) = s

set_option maxHeartbeats 4000000 in
set_option maxRecDepth 100000 in
theorem number_any (g : Nat) (T : Array Value) (n d : Nat) (ls : List Int) (w : World) (hM : May ls) (hB : Blk w g 110 T) (hT : TabIs T n d (fun i => ls.getD i 0) (fun _ => 0) (fst (cnt ls)) (cnt ls) (att (cnt ls)) (fun _ => 0)) :
    Calls Try.prog 69 #[.pointer (some ⟨g, 0, none⟩)] w fun e w' => e = .returned (.tuple #[]) ∧ ∃ T' S, Blk w' g 110 T' ∧ TabIs T' n d (fun i => ls.getD i 0) (cd ls) (fst (cnt ls)) (cnt ls) (att (cnt ls)) S ∧ SymTo ls S 320 ∧ Chg (fun i => i = g) w w' := by
  have HB := keepf hB
  have HT := keepf hT
  have HM := keepf hM
  clear hB hT hM
  obtain ⟨LV, hLV⟩ : ∃ LV, LV = lensV (fun i => ls.getD i 0) := ⟨_, rfl⟩
  have HLV := keepf hLV
  have HLS : Hid (LV.size = 320) := by show _ = _; rw [hLV]; exact lensV_size _
  have HRR : Hid (∀ W : World, Chg NoS w W → W.rangeAt g 3 LV.toList) := by
    intro W hc
    rw [HLV.out]
    exact lens_range (HB.out.chg hc (fun h => h)) HT.out
  clear hLV
  have HG : Hid (g < w.heap.size) := HB.out.lt
  go_enter Try.func69, Try.ntmps69
  go_wp2_with (first
    | (refine alloc_big rfl 121 rfl _ zero_giv ?_; intro w1 g3 hg hblk hch; have HG3 := keepf hg; have HBL := keepf hblk; have HCH := keepf hch; have HR1 := keepf (HRR.out _ hch); clear hg hblk hch)
    | (refine load_mid rfl 103 _ rfl g _ rfl _ _ HR1.out Try.underlying103 rfl 320 size_lens HLS.out ?_))
  have hne : g3 ≠ g := by have := HG.out; have := HG3.out; omega
  have hne2 : g ≠ g3 := by have := HG.out; have := HG3.out; omega
  go_loopw [11] (fun i wr => ∃ k : Nat, ∃ T G : Array Value, ∃ S : Nat → Nat, k ≤ 320 ∧ i = .int .i64 k ∧ Hid (TabIs T n d (fun i => ls.getD i 0) (fun i => if i < k then cd ls i else 0) (fst (cnt ls)) (cnt ls) (att (cnt ls)) S) ∧ Hid (SymTo ls S k) ∧ Hid (GivIs G (cnt (ls.take k))) ∧ Blk wr g 110 T ∧ Blk wr g3 121 G ∧ Chg (fun i => i = g) w wr) (fun i _ => 320 - (intOf i).toNat)
  case atStart =>
    exact ⟨0, T, zgiv, fun _ => 0, by omega, rfl, HT.out.congr rfl rfl (fun _ _ => rfl) (fun i _ => by simp) (fun _ _ => rfl) (fun _ _ => rfl) (fun _ _ => rfl) (fun _ _ => rfl), fun s n h => absurd h (by omega), giv_zero.congr (fun i _ => by simp [cnt_nil]), HB.out.chg HCH.out (fun h => h), HBL.out, HCH.out.mono (fun _ _ h => h.elim)⟩
  case round =>
    clear HB HT HBL HCH HRR HR1
    obtain ⟨k, T, G, S, hk, rfl, hT, hS, hGv, hB, hB3, hch⟩ := hrel
    have HBk := keepf hB
    have HB3 := keepf hB3
    have HCh := keepf hch
    clear hB hB3 hch
    by_cases hlt : k < 320
    · obtain ⟨nn, hnn⟩ : ∃ nn, nn = lenAt ls k := ⟨_, rfl⟩
      have hLk : ls.getD k 0 = (nn : Int) := by
        rw [hnn]
        by_cases h : k < ls.length
        · have := some_lenAt HM.out.2.2.1 h
          rw [List.getD_eq_getElem?_getD, this]
          rfl
        · simp [lenAt, List.getD_eq_getElem?_getD, h]
      have hn15 : nn ≤ 15 := by rw [hnn]; exact lenAt_le HM.out.2.2.1 k
      have hv : LV[k]? = some (.int .i64 (nn : Nat)) := by
        rw [HLV.out, lensV_get _ k hlt, hLk]
      have HV := keepf hv
      have HNN := keepf hnn
      clear hv hLk hnn
      by_cases h0 : nn = 0
      · subst h0
        go_wp2_with (first
          | (refine index_big rfl 103 3 320 _ _ rfl _ rfl _ k rfl _ Try.underlying103 hlt HV.out size_int row_int ?_))
        go_roundw
        case rel =>
          refine ⟨k + 1, T, G, S, by omega, by go_num, hT.out.congr rfl rfl (fun _ _ => rfl) ?_ (fun _ _ => rfl) (fun _ _ => rfl) (fun _ _ => rfl) (fun _ _ => rfl), ?_, hGv.out.congr ?_, HBk.out, HB3.out, HCh.out⟩
          · intro i _
            by_cases e : i = k
            · subst e; simp [cd, ← HNN.out]
            · by_cases e2 : i < k
              · rw [if_pos e2, if_pos (by omega)]
              · rw [if_neg e2, if_neg (by omega)]
          · intro s n hs hn hl
            by_cases e : s = k
            · subst e
              have h1 := lenAt_some hl
              have h2 := HNN.out
              omega
            · exact hS.out s n (by omega) hn hl
          · intro i _
            by_cases h : k < ls.length
            · have h1 := some_lenAt HM.out.2.2.1 h
              rw [← HNN.out] at h1
              rw [take_snoc ls k _ h1, cnt_snoc]
              simp
              omega
            · rw [List.take_of_length_le (by omega), List.take_of_length_le (by omega)]
        case measure => simp [intOf]; omega
      · have hkl : k < ls.length := by
          have h1 := HNN.out
          by_cases h : k < ls.length
          · exact h
          · exfalso; exact h0 (by rw [h1]; simp [lenAt, List.getD_eq_getElem?_getD, h])
        have hls : ls[k]? = some (nn : Int) := by
          have := some_lenAt HM.out.2.2.1 hkl
          rwa [← HNN.out] at this
        obtain ⟨F, hF⟩ : ∃ F, F = fst (cnt ls) nn := ⟨_, rfl⟩
        obtain ⟨AA, hAA⟩ : ∃ AA, AA = att (cnt ls) nn := ⟨_, rfl⟩
        obtain ⟨MM, hMM⟩ : ∃ MM, MM = cnt ls nn := ⟨_, rfl⟩
        obtain ⟨rk, hrk⟩ : ∃ rk, rk = cnt (ls.take k) nn := ⟨_, rfl⟩
        have hrk2 : rk = rank ls k := by rw [rank, lenAt_some hls]; exact hrk
        have hcd : cd ls k = F + rk := by rw [cd_eq h0 hls, ← hF, hrk2]
        have hcl := cd_lt16 HM.out k
        rw [hcd] at hcl
        have hpl := place_lt h0 hls
        rw [← hAA, ← hrk2] at hpl
        have hpl2 : AA + rk < 320 := by have := HM.out.2.1; omega
        have c0 : wr.cell? ⟨g, 643 + nn * 3, none⟩ = some (.int .u32 (F : Nat)) := by rw [HBk.out.cell, hT.out.r0 nn (by omega), hF]
        have c1 : wr.cell? ⟨g, 643 + nn * 3 + 1, none⟩ = some (.int .u32 (MM : Nat)) := by rw [HBk.out.cell, hT.out.r1 nn (by omega), hMM]
        have c2 : wr.cell? ⟨g, 643 + nn * 3 + 2, none⟩ = some (.int .i64 (AA : Nat)) := by rw [HBk.out.cell, hT.out.r2 nn (by omega), hAA]
        have c3 : wr.cell? ⟨g3, nn, none⟩ = some (.int .u32 (rk : Nat)) := by rw [HB3.out.cell, hGv.out.c0 nn (by omega), hrk]
        have HF := keepf hF
        have HAA := keepf hAA
        have HRK := keepf hrk
        have HRK2 := keepf hrk2
        have HLSK := keepf hls
        have HCD := keepf hcd
        have HPL := keepf hpl
        clear hF hAA hMM hrk hrk2 hls hcd hpl
        have hi16 : (nn : Int) < 16 := by omega
        have hk320 : (k : Int) < 320 := by omega
        have hs320 : (AA : Int) + rk < 320 := by omega
        have hs0 : 0 ≤ (AA : Int) + rk := by omega
        have hs1 : ((AA : Int) + rk).toNat = AA + rk := by omega
        have hw1 : IntKind.u32.wrap ((F : Int) + rk) = (F : Int) + rk := by rw [IntKind.wrap_u32]; omega
        have hw2 : IntKind.i64.wrap ((AA : Int) + rk) = (AA : Int) + rk := by rw [IntKind.wrap_i64]; omega
        have hw3 : IntKind.i64.wrap (rk : Int) = rk := by rw [IntKind.wrap_i64]; omega
        go_upto_region 5 with (first
          | (refine index_big rfl 103 3 320 _ _ rfl _ rfl _ k rfl _ Try.underlying103 hlt HV.out size_int row_int ?_))
        first
          | (go_loud (go_region_held3 (fun w' => w'.cell? ⟨g, 643 + nn * 3, none⟩ = some (.int .u32 (F : Nat)) ∧ w'.cell? ⟨g, 643 + nn * 3 + 1, none⟩ = some (.int .u32 (MM : Nat)) ∧ w'.cell? ⟨g, 643 + nn * 3 + 2, none⟩ = some (.int .i64 (AA : Nat)) ∧ w'.cell? ⟨g3, nn, none⟩ = some (.int .u32 (rk : Nat)))
              (first | go_keep | exact ⟨by assumption, by assumption, by assumption, by assumption⟩)
              (fail)))
          | fail "region"
        go_upto_region 6 with fail
        have hb := (HBk.out.alloc (.cells (rowCells F MM AA) 106)).drew
        have hb3 := (HB3.out.alloc (.cells (rowCells F MM AA) 106)).drew
        have hb4 := (Blk.new wr 106 (rowCells F MM AA)).drew
        have hc := (HCh.out.alloc (.cells (rowCells F MM AA) 106)).drew
        change Code.wp _ _ _ _ (wr.alloc (.cells (rowCells F MM AA) 106)).drew
        generalize (wr.alloc (.cells (rowCells F MM AA) 106)).drew = w2 at *
        obtain ⟨g4, hg4⟩ : ∃ g4, g4 = wr.heap.size := ⟨_, rfl⟩
        have hn4 : g4 ≠ g := by have := HBk.out.lt; omega
        have hn5 : g ≠ g4 := by have := HBk.out.lt; omega
        have hn6 : w.heap.size ≤ g4 := by have := HCh.out.size; omega
        rw [← hg4] at hb4 ⊢
        clear hg4 c0 c1 c2 c3
        clear HBk HB3 HCh
        have HBk := keepf hb
        have HB3 := keepf hb3
        have HB4 := keepf hb4
        have HCh := keepf hc
        have d0 : w2.cell? ⟨g4, 0, none⟩ = some (.int .u32 (F : Nat)) := by rw [hb4.cell]; rfl
        have d2 : w2.cell? ⟨g, 323 + k, none⟩ = some (.int .u32 0) := by rw [hb.cell, hT.out.code k hlt]; simp
        have d3 : w2.frozen? ⟨g, 323 + k, none⟩ = false := hb.frozen _
        clear hb hb3 hb4 hc
        first
          | (go_loud (go_region_held3 (fun w' => w'.cell? ⟨g4, 0, none⟩ = some (.int .u32 (F : Nat)))
              (first | go_keep | assumption)
              (fail)))
          | fail "region"
        go_upto_region 7 with fail
        have hb := (HBk.out.set_ (323 + k) (.int .u32 ((F : Int) + rk))).drew
        have hb3 := (HB3.out.far (p := ⟨g, 323 + k, none⟩) hne (.int .u32 ((F : Int) + rk))).drew
        have hb4 := (HB4.out.far (p := ⟨g, 323 + k, none⟩) hn4 (.int .u32 ((F : Int) + rk))).drew
        have hc := (HCh.out.setCell (p := ⟨g, 323 + k, none⟩) (fun _ => rfl) (.int .u32 ((F : Int) + rk))).drew
        have ht := hT.out.set_code k (F + rk) hlt
        rw [show ((F + rk : Nat) : Int) = (F : Int) + rk from by omega] at ht
        generalize (w2.setCell ⟨g, 323 + k, none⟩ (.int .u32 ((F : Int) + rk))).drew = w3 at *
        generalize T.setIfInBounds (323 + k) (.int .u32 ((F : Int) + rk)) = T3 at *
        clear d0 d2 d3 hT
        have HT3 := keepf ht
        clear HBk HB3 HB4 HCh ht
        have HBk := keepf hb
        have HB3 := keepf hb3
        have HCh := keepf hc
        have d0 : w3.cell? ⟨g4, 2, none⟩ = some (.int .i64 (AA : Nat)) := by rw [hb4.cell]; rfl
        have d2 : w3.cell? ⟨g, 691 + (AA + rk), none⟩ = some (.int .i64 (S (AA + rk) : Nat)) := by rw [hb.cell, HT3.out.sym _ hpl2]
        have d3 : w3.frozen? ⟨g, 691 + (AA + rk), none⟩ = false := hb.frozen _
        clear hb hb3 hb4 hc
        first
          | (go_loud (go_region_held3 (fun w' => w'.cell? ⟨g4, 2, none⟩ = some (.int .i64 (AA : Nat)))
              (first | go_keep | assumption)
              (fail)))
          | fail "region"
        go_upto_region 8 with fail
        have hb := (HBk.out.set_ (691 + (AA + rk)) (.int .i64 (k : Nat))).drew
        have hb3 := (HB3.out.far (p := ⟨g, 691 + (AA + rk), none⟩) hne (.int .i64 (k : Nat))).drew
        have hc := (HCh.out.setCell (p := ⟨g, 691 + (AA + rk), none⟩) (fun _ => rfl) (.int .i64 (k : Nat))).drew
        have ht := HT3.out.set_sym (AA + rk) k hpl2
        generalize (w3.setCell ⟨g, 691 + (AA + rk), none⟩ (.int .i64 (k : Nat))).drew = w4 at *
        generalize T3.setIfInBounds (691 + (AA + rk)) (.int .i64 (k : Nat)) = T4 at *
        clear d0 d2 d3 HT3
        have HT4 := keepf ht
        clear HBk HB3 HCh ht
        have HBk := keepf hb
        have HB3 := keepf hb3
        have HCh := keepf hc
        have d0 : w4.cell? ⟨g3, nn, none⟩ = some (.int .u32 (rk : Nat)) := by rw [hb3.cell, hGv.out.c0 nn (by omega), HRK.out]
        have d3 : w4.frozen? ⟨g3, nn, none⟩ = false := hb3.frozen _
        clear hb hb3 hc
        go_wp2_with fail
        go_roundw
        case rel =>
          have hgs := hGv.out.set nn (rk + 1) (by omega)
          rw [show ((rk + 1 : Nat) : Int) = (rk : Int) + 1 from by omega] at hgs
          refine ⟨k + 1, T4, _, _, by omega, by go_num, HT4.out.congr rfl rfl (fun _ _ => rfl) ?_ (fun _ _ => rfl) (fun _ _ => rfl) (fun _ _ => rfl) (fun _ _ => rfl), ?_, hgs.congr ?_, HBk.out.far (p := ⟨g3, nn, none⟩) hne2 _, HB3.out.set_ _ _, HCh.out.setCell (p := ⟨g3, nn, none⟩) (fun h => by have := HG3.out; exact absurd h (by show ¬ g3 < _; omega)) _⟩
          · intro i _
            by_cases e : i = k
            · subst e; simp [HCD.out]
            · by_cases e2 : i < k
              · simp only [e, if_false]; rw [if_pos e2, if_pos (by omega)]
              · simp only [e, if_false]; rw [if_neg e2, if_neg (by omega)]
          · intro s m hs hm hl
            by_cases e : s = k
            · subst e
              have e2 : (m : Int) = (nn : Int) := Option.some.inj (hl.symm.trans HLSK.out)
              have e3 : m = nn := by omega
              subst e3
              rw [← HAA.out, ← HRK2.out]
              simp
            · have h1 := hS.out s m (by omega) hm hl
              have h2 : att (cnt ls) m + rank ls s ≠ AA + rk := by
                rw [HAA.out, HRK2.out]
                exact fun e2 => e (place_inj hm h0 hl HLSK.out e2)
              simp only [h2, if_false]
              exact h1
          · intro i hi
            rw [take_snoc ls k _ HLSK.out, cnt_snoc]
            by_cases e : i = nn
            · subst e; simp [h0, HRK.out]
            · simp [e]; omega
        case measure => simp [intOf]; omega
    · obtain rfl : k = 320 := by omega
      go_wp2_with fail
      go_end0
      exact ⟨rfl, T, S, HBk.out, hT.out.congr rfl rfl (fun _ _ => rfl) (fun i hi => by simp [hi]) (fun _ _ => rfl) (fun _ _ => rfl) (fun _ _ => rfl) (fun _ _ => rfl), hS.out, HCh.out⟩
end Go.Proofs.Ytbdnhhhagpgibaa
