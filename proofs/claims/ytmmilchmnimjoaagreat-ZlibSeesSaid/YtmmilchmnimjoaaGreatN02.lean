/- Merged by program: Number New GetH PutH BackM. -/
import Derived.Test.YtmmilchmnimjoaaGreatN00
import Derived.Test.YtmmilchmnimjoaaGreatN01
import Derived.BigQuiet
import Derived.Deep.QuietTactic
import Derived.Deep.RegionWith
import Derived.WalkMore
/- What number does to a table: each symbol's code, and the symbols in their order. -/
namespace Go.Proofs.YtmmilchmnimjoaaGreat
open Go.RowKit
set_option linter.unusedVariables false
set_option linter.unusedSimpArgs false
def zgiv : Array Value := ((List.range 16).map fun _ => Value.int .u32 0).toArray
theorem zero_giv : (Tryz.prog.info? 197).bind (·.zero) = some (.agg zgiv) := by kernel_rfl
theorem size_lens : (Tryz.prog.info? 151).map (·.size) = some 320 := by kernel_rfl
theorem size_int : (Tryz.prog.info? 3).map (·.size) = some 1 := by kernel_rfl
theorem row_int : (Tryz.prog.underlying 3).map TypeDesc.isRow = some false := by kernel_rfl
structure GivIs (G : Array Value) (c : Nat → Nat) : Prop where
  size : G.size = 16
  c0 : ∀ i, i < 16 → G[i]? = some (.int .u32 (c i : Nat))
theorem giv_zero : GivIs zgiv (fun _ => 0) where
  size := by simp [zgiv]
  c0 i hi := by simp [zgiv, hi]
theorem GivIs.set {G : Array Value} {c : Nat → Nat} (h : GivIs G c) (k v : Nat) (hk : k < 16) : GivIs (G.setIfInBounds k (.int .u32 (v : Nat))) (fun i => if i = k then v else c i) where
  size := by simpa using h.size
  c0 i hi := by
    by_cases e : i = k
    · subst e; rw [get_set_eq (by rw [h.size]; omega)]; simp
    · rw [get_set_ne e, h.c0 i hi]; simp [e]
theorem GivIs.congr {G : Array Value} {c c' : Nat → Nat} (h : GivIs G c) (e : ∀ i, i < 16 → c i = c' i) : GivIs G c' where
  size := h.size
  c0 i hi := by rw [← e i hi]; exact h.c0 i hi
def lensV (L : Nat → Int) : Array Value := ((List.range 320).map fun i => Value.int .i64 (L i)).toArray
theorem lensV_size (L : Nat → Int) : (lensV L).size = 320 := by simp [lensV]
theorem lensV_get (L : Nat → Int) (i : Nat) (h : i < 320) : (lensV L)[i]? = some (.int .i64 (L i)) := by simp [lensV, h]
theorem lens_range {w : World} {g : Nat} {T : Array Value} {t : TypeId} {n d : Nat} {L : Nat → Int} {C f m a S : Nat → Nat} (hB : Blk w g t T) (h : TabIs T n d L C f m a S) :
    w.rangeAt g 3 (lensV L).toList := by
  intro j v hv
  have hj : j < 320 := by
    have := (List.getElem?_eq_some_iff.1 hv).1
    simpa [lensV] using this
  have h1 : (lensV L)[j]? = some v := by simpa using hv
  rw [lensV_get L j hj] at h1
  rw [hB.cell, h.len j hj, h1]
def SymTo (ls : List Int) (S : Nat → Nat) (k : Nat) : Prop := ∀ s n : Nat, s < k → n ≠ 0 → ls[s]? = some (n : Int) → S (att (cnt ls) n + rank ls s) = s
set_option maxHeartbeats 4000000 in
set_option maxRecDepth 100000 in
theorem number_any (g : Nat) (T : Array Value) (n d : Nat) (ls : List Int) (w : World) (hM : May ls) (hB : Blk w g 158 T) (hT : TabIs T n d (fun i => ls.getD i 0) (fun _ => 0) (fst (cnt ls)) (cnt ls) (att (cnt ls)) (fun _ => 0)) :
    Calls Tryz.prog 120 #[.pointer (some ⟨g, 0, none⟩)] w fun e w' => e = .returned (.tuple #[]) ∧ ∃ T' S, Blk w' g 158 T' ∧ TabIs T' n d (fun i => ls.getD i 0) (cd ls) (fst (cnt ls)) (cnt ls) (att (cnt ls)) S ∧ SymTo ls S 320 ∧ Chg (fun i => i = g) w w' := by
  have HB := keepf hB
  have HT := keepf hT
  have HM := keepf hM
  clear hB hT hM
  obtain ⟨LV, hLV⟩ : ∃ LV, LV = lensV (fun i => ls.getD i 0) := ⟨_, rfl⟩
  have HLV := keepf hLV
  have HLS : Hid (LV.size = 320) := by show _ = _; rw [hLV]; exact lensV_size _
  have HRR : Hid (∀ W : World, Chg NoS w W → W.rangeAt g 3 LV.toList) := by
    intro W hc
    rw [HLV.out]
    exact lens_range (HB.out.chg hc (fun h => h)) HT.out
  clear hLV
  have HG : Hid (g < w.heap.size) := HB.out.lt
  go_enter Tryz.func120, Tryz.ntmps120
  go_wp2_with (first
    | (refine alloc_big rfl 197 rfl _ zero_giv ?_; intro w1 g3 hg hblk hch; have HG3 := keepf hg; have HBL := keepf hblk; have HCH := keepf hch; have HR1 := keepf (HRR.out _ hch); clear hg hblk hch)
    | (refine load_mid rfl 151 _ rfl g _ rfl _ _ HR1.out Tryz.underlying151 rfl 320 size_lens HLS.out ?_))
  have hne : g3 ≠ g := by have := HG.out; have := HG3.out; omega
  have hne2 : g ≠ g3 := by have := HG.out; have := HG3.out; omega
  go_loopw [11] (fun i wr => ∃ k : Nat, ∃ T G : Array Value, ∃ S : Nat → Nat, k ≤ 320 ∧ i = .int .i64 k ∧ Hid (TabIs T n d (fun i => ls.getD i 0) (fun i => if i < k then cd ls i else 0) (fst (cnt ls)) (cnt ls) (att (cnt ls)) S) ∧ Hid (SymTo ls S k) ∧ Hid (GivIs G (cnt (ls.take k))) ∧ Blk wr g 158 T ∧ Blk wr g3 197 G ∧ Chg (fun i => i = g) w wr) (fun i _ => 320 - (intOf i).toNat)
  case atStart =>
    exact ⟨0, T, zgiv, fun _ => 0, by omega, rfl, HT.out.congr rfl rfl (fun _ _ => rfl) (fun i _ => by simp) (fun _ _ => rfl) (fun _ _ => rfl) (fun _ _ => rfl) (fun _ _ => rfl), fun s n h => absurd h (by omega), giv_zero.congr (fun i _ => by simp [cnt_nil]), HB.out.chg HCH.out (fun h => h), HBL.out, HCH.out.mono (fun _ _ h => h.elim)⟩
  case round =>
    clear HB HT HBL HCH HRR HR1
    obtain ⟨k, T, G, S, hk, rfl, hT, hS, hGv, hB, hB3, hch⟩ := hrel
    have HBk := keepf hB
    have HB3 := keepf hB3
    have HCh := keepf hch
    clear hB hB3 hch
    by_cases hlt : k < 320
    · obtain ⟨nn, hnn⟩ : ∃ nn, nn = lenAt ls k := ⟨_, rfl⟩
      have hLk : ls.getD k 0 = (nn : Int) := by
        rw [hnn]
        by_cases h : k < ls.length
        · have := some_lenAt HM.out.2.2.1 h
          rw [List.getD_eq_getElem?_getD, this]
          rfl
        · simp [lenAt, List.getD_eq_getElem?_getD, h]
      have hn15 : nn ≤ 15 := by rw [hnn]; exact lenAt_le HM.out.2.2.1 k
      have hv : LV[k]? = some (.int .i64 (nn : Nat)) := by
        rw [HLV.out, lensV_get _ k hlt, hLk]
      have HV := keepf hv
      have HNN := keepf hnn
      clear hv hLk hnn
      by_cases h0 : nn = 0
      · subst h0
        go_wp2_with (first
          | (refine index_big rfl 151 3 320 _ _ rfl _ rfl _ k rfl _ Tryz.underlying151 hlt HV.out size_int row_int ?_))
        go_roundw
        case rel =>
          refine ⟨k + 1, T, G, S, by omega, by go_num, hT.out.congr rfl rfl (fun _ _ => rfl) ?_ (fun _ _ => rfl) (fun _ _ => rfl) (fun _ _ => rfl) (fun _ _ => rfl), ?_, hGv.out.congr ?_, HBk.out, HB3.out, HCh.out⟩
          · intro i _
            by_cases e : i = k
            · subst e; simp [cd, ← HNN.out]
            · by_cases e2 : i < k
              · rw [if_pos e2, if_pos (by omega)]
              · rw [if_neg e2, if_neg (by omega)]
          · intro s n hs hn hl
            by_cases e : s = k
            · subst e
              have h1 := lenAt_some hl
              have h2 := HNN.out
              omega
            · exact hS.out s n (by omega) hn hl
          · intro i _
            by_cases h : k < ls.length
            · have h1 := some_lenAt HM.out.2.2.1 h
              rw [← HNN.out] at h1
              rw [take_snoc ls k _ h1, cnt_snoc]
              simp
              omega
            · rw [List.take_of_length_le (by omega), List.take_of_length_le (by omega)]
        case measure => simp [intOf]; omega
      · have hkl : k < ls.length := by
          have h1 := HNN.out
          by_cases h : k < ls.length
          · exact h
          · exfalso; exact h0 (by rw [h1]; simp [lenAt, List.getD_eq_getElem?_getD, h])
        have hls : ls[k]? = some (nn : Int) := by
          have := some_lenAt HM.out.2.2.1 hkl
          rwa [← HNN.out] at this
        obtain ⟨F, hF⟩ : ∃ F, F = fst (cnt ls) nn := ⟨_, rfl⟩
        obtain ⟨AA, hAA⟩ : ∃ AA, AA = att (cnt ls) nn := ⟨_, rfl⟩
        obtain ⟨MM, hMM⟩ : ∃ MM, MM = cnt ls nn := ⟨_, rfl⟩
        obtain ⟨rk, hrk⟩ : ∃ rk, rk = cnt (ls.take k) nn := ⟨_, rfl⟩
        have hrk2 : rk = rank ls k := by rw [rank, lenAt_some hls]; exact hrk
        have hcd : cd ls k = F + rk := by rw [cd_eq h0 hls, ← hF, hrk2]
        have hcl := cd_lt16 HM.out k
        rw [hcd] at hcl
        have hpl := place_lt h0 hls
        rw [← hAA, ← hrk2] at hpl
        have hpl2 : AA + rk < 320 := by have := HM.out.2.1; omega
        have c0 : wr.cell? ⟨g, 643 + nn * 3, none⟩ = some (.int .u32 (F : Nat)) := by rw [HBk.out.cell, hT.out.r0 nn (by omega), hF]
        have c1 : wr.cell? ⟨g, 643 + nn * 3 + 1, none⟩ = some (.int .u32 (MM : Nat)) := by rw [HBk.out.cell, hT.out.r1 nn (by omega), hMM]
        have c2 : wr.cell? ⟨g, 643 + nn * 3 + 2, none⟩ = some (.int .i64 (AA : Nat)) := by rw [HBk.out.cell, hT.out.r2 nn (by omega), hAA]
        have c3 : wr.cell? ⟨g3, nn, none⟩ = some (.int .u32 (rk : Nat)) := by rw [HB3.out.cell, hGv.out.c0 nn (by omega), hrk]
        have HF := keepf hF
        have HAA := keepf hAA
        have HRK := keepf hrk
        have HRK2 := keepf hrk2
        have HLSK := keepf hls
        have HCD := keepf hcd
        have HPL := keepf hpl
        clear hF hAA hMM hrk hrk2 hls hcd hpl
        have hi16 : (nn : Int) < 16 := by omega
        have hk320 : (k : Int) < 320 := by omega
        have hs320 : (AA : Int) + rk < 320 := by omega
        have hs0 : 0 ≤ (AA : Int) + rk := by omega
        have hs1 : ((AA : Int) + rk).toNat = AA + rk := by omega
        have hw1 : IntKind.u32.wrap ((F : Int) + rk) = (F : Int) + rk := by rw [IntKind.wrap_u32]; omega
        have hw2 : IntKind.i64.wrap ((AA : Int) + rk) = (AA : Int) + rk := by rw [IntKind.wrap_i64]; omega
        have hw3 : IntKind.i64.wrap (rk : Int) = rk := by rw [IntKind.wrap_i64]; omega
        go_upto_region 5 with (first
          | (refine index_big rfl 151 3 320 _ _ rfl _ rfl _ k rfl _ Tryz.underlying151 hlt HV.out size_int row_int ?_))
        first
          | (go_loud (go_region_held3 (fun w' => w'.cell? ⟨g, 643 + nn * 3, none⟩ = some (.int .u32 (F : Nat)) ∧ w'.cell? ⟨g, 643 + nn * 3 + 1, none⟩ = some (.int .u32 (MM : Nat)) ∧ w'.cell? ⟨g, 643 + nn * 3 + 2, none⟩ = some (.int .i64 (AA : Nat)) ∧ w'.cell? ⟨g3, nn, none⟩ = some (.int .u32 (rk : Nat)))
              (first | go_keep | exact ⟨by assumption, by assumption, by assumption, by assumption⟩)
              (fail)))
          | fail "region"
        go_upto_region 6 with fail
        have hb := (HBk.out.alloc (.cells (rowCells F MM AA) 154)).drew
        have hb3 := (HB3.out.alloc (.cells (rowCells F MM AA) 154)).drew
        have hb4 := (Blk.new wr 154 (rowCells F MM AA)).drew
        have hc := (HCh.out.alloc (.cells (rowCells F MM AA) 154)).drew
        change Code.wp _ _ _ _ (wr.alloc (.cells (rowCells F MM AA) 154)).drew
        generalize (wr.alloc (.cells (rowCells F MM AA) 154)).drew = w2 at *
        obtain ⟨g4, hg4⟩ : ∃ g4, g4 = wr.heap.size := ⟨_, rfl⟩
        have hn4 : g4 ≠ g := by have := HBk.out.lt; omega
        have hn5 : g ≠ g4 := by have := HBk.out.lt; omega
        have hn6 : w.heap.size ≤ g4 := by have := HCh.out.size; omega
        rw [← hg4] at hb4 ⊢
        clear hg4 c0 c1 c2 c3
        clear HBk HB3 HCh
        have HBk := keepf hb
        have HB3 := keepf hb3
        have HB4 := keepf hb4
        have HCh := keepf hc
        have d0 : w2.cell? ⟨g4, 0, none⟩ = some (.int .u32 (F : Nat)) := by rw [hb4.cell]; rfl
        have d2 : w2.cell? ⟨g, 323 + k, none⟩ = some (.int .u32 0) := by rw [hb.cell, hT.out.code k hlt]; simp
        have d3 : w2.frozen? ⟨g, 323 + k, none⟩ = false := hb.frozen _
        clear hb hb3 hb4 hc
        first
          | (go_loud (go_region_held3 (fun w' => w'.cell? ⟨g4, 0, none⟩ = some (.int .u32 (F : Nat)))
              (first | go_keep | assumption)
              (fail)))
          | fail "region"
        go_upto_region 7 with fail
        have hb := (HBk.out.set_ (323 + k) (.int .u32 ((F : Int) + rk))).drew
        have hb3 := (HB3.out.far (p := ⟨g, 323 + k, none⟩) hne (.int .u32 ((F : Int) + rk))).drew
        have hb4 := (HB4.out.far (p := ⟨g, 323 + k, none⟩) hn4 (.int .u32 ((F : Int) + rk))).drew
        have hc := (HCh.out.setCell (p := ⟨g, 323 + k, none⟩) (fun _ => rfl) (.int .u32 ((F : Int) + rk))).drew
        have ht := hT.out.set_code k (F + rk) hlt
        rw [show ((F + rk : Nat) : Int) = (F : Int) + rk from by omega] at ht
        generalize (w2.setCell ⟨g, 323 + k, none⟩ (.int .u32 ((F : Int) + rk))).drew = w3 at *
        generalize T.setIfInBounds (323 + k) (.int .u32 ((F : Int) + rk)) = T3 at *
        clear d0 d2 d3 hT
        have HT3 := keepf ht
        clear HBk HB3 HB4 HCh ht
        have HBk := keepf hb
        have HB3 := keepf hb3
        have HCh := keepf hc
        have d0 : w3.cell? ⟨g4, 2, none⟩ = some (.int .i64 (AA : Nat)) := by rw [hb4.cell]; rfl
        have d2 : w3.cell? ⟨g, 691 + (AA + rk), none⟩ = some (.int .i64 (S (AA + rk) : Nat)) := by rw [hb.cell, HT3.out.sym _ hpl2]
        have d3 : w3.frozen? ⟨g, 691 + (AA + rk), none⟩ = false := hb.frozen _
        clear hb hb3 hb4 hc
        first
          | (go_loud (go_region_held3 (fun w' => w'.cell? ⟨g4, 2, none⟩ = some (.int .i64 (AA : Nat)))
              (first | go_keep | assumption)
              (fail)))
          | fail "region"
        go_upto_region 8 with fail
        have hb := (HBk.out.set_ (691 + (AA + rk)) (.int .i64 (k : Nat))).drew
        have hb3 := (HB3.out.far (p := ⟨g, 691 + (AA + rk), none⟩) hne (.int .i64 (k : Nat))).drew
        have hc := (HCh.out.setCell (p := ⟨g, 691 + (AA + rk), none⟩) (fun _ => rfl) (.int .i64 (k : Nat))).drew
        have ht := HT3.out.set_sym (AA + rk) k hpl2
        generalize (w3.setCell ⟨g, 691 + (AA + rk), none⟩ (.int .i64 (k : Nat))).drew = w4 at *
        generalize T3.setIfInBounds (691 + (AA + rk)) (.int .i64 (k : Nat)) = T4 at *
        clear d0 d2 d3 HT3
        have HT4 := keepf ht
        clear HBk HB3 HCh ht
        have HBk := keepf hb
        have HB3 := keepf hb3
        have HCh := keepf hc
        have d0 : w4.cell? ⟨g3, nn, none⟩ = some (.int .u32 (rk : Nat)) := by rw [hb3.cell, hGv.out.c0 nn (by omega), HRK.out]
        have d3 : w4.frozen? ⟨g3, nn, none⟩ = false := hb3.frozen _
        clear hb hb3 hc
        go_wp2_with fail
        go_roundw
        case rel =>
          have hgs := hGv.out.set nn (rk + 1) (by omega)
          rw [show ((rk + 1 : Nat) : Int) = (rk : Int) + 1 from by omega] at hgs
          refine ⟨k + 1, T4, _, _, by omega, by go_num, HT4.out.congr rfl rfl (fun _ _ => rfl) ?_ (fun _ _ => rfl) (fun _ _ => rfl) (fun _ _ => rfl) (fun _ _ => rfl), ?_, hgs.congr ?_, HBk.out.far (p := ⟨g3, nn, none⟩) hne2 _, HB3.out.set_ _ _, HCh.out.setCell (p := ⟨g3, nn, none⟩) (fun h => by have := HG3.out; exact absurd h (by show ¬ g3 < _; omega)) _⟩
          · intro i _
            by_cases e : i = k
            · subst e; simp [HCD.out]
            · by_cases e2 : i < k
              · simp only [e, if_false]; rw [if_pos e2, if_pos (by omega)]
              · simp only [e, if_false]; rw [if_neg e2, if_neg (by omega)]
          · intro s m hs hm hl
            by_cases e : s = k
            · subst e
              have e2 : (m : Int) = (nn : Int) := Option.some.inj (hl.symm.trans HLSK.out)
              have e3 : m = nn := by omega
              subst e3
              rw [← HAA.out, ← HRK2.out]
              simp
            · have h1 := hS.out s m (by omega) hm hl
              have h2 : att (cnt ls) m + rank ls s ≠ AA + rk := by
                rw [HAA.out, HRK2.out]
                exact fun e2 => e (place_inj hm h0 hl HLSK.out e2)
              simp only [h2, if_false]
              exact h1
          · intro i hi
            rw [take_snoc ls k _ HLSK.out, cnt_snoc]
            by_cases e : i = nn
            · subst e; simp [h0, HRK.out]
            · simp [e]; omega
        case measure => simp [intOf]; omega
    · obtain rfl : k = 320 := by omega
      go_wp2_with fail
      go_end0
      exact ⟨rfl, T, S, HBk.out, hT.out.congr rfl rfl (fun _ _ => rfl) (fun i hi => by simp [hi]) (fun _ _ => rfl) (fun _ _ => rfl) (fun _ _ => rfl) (fun _ _ => rfl), hS.out, HCh.out⟩
end Go.Proofs.YtmmilchmnimjoaaGreat
/- What New, Complete and ready tell. -/
namespace Go.Proofs.YtmmilchmnimjoaaGreat
open Go.RowKit
set_option linter.unusedVariables false
set_option linter.unusedSimpArgs false
def Tb (w : World) (g : Nat) (ls : List Int) : Prop :=
  ∃ T S, Blk w g 158 T ∧ TabIs T ls.length (deepL ls) (fun i => ls.getD i 0) (cd ls) (fst (cnt ls)) (cnt ls) (att (cnt ls)) S ∧ SymTo ls S 320
theorem Tb.chg {w w' : World} {g : Nat} {ls : List Int} {K : Nat → Prop} (h : Tb w g ls) (hc : Chg K w w') (hk : ¬ K g) : Tb w' g ls := by
  obtain ⟨T, S, h1, h2, h3⟩ := h
  exact ⟨T, S, h1.chg hc hk, h2, h3⟩
theorem Tb.drewN {w : World} {g : Nat} {ls : List Int} (h : Tb w g ls) (n : Nat) : Tb (w.drewN n) g ls := h.chg ((Chg.refl NoS _).drewN n) (fun h => h)
theorem Tb.lt {w : World} {g : Nat} {ls : List Int} (h : Tb w g ls) : g < w.heap.size := by
  obtain ⟨T, S, h1, _⟩ := h
  exact h1.lt
theorem new_no (ls : List Int) (A : Option Addr) (c : Nat) (w : World) (hM : ¬ May ls) (hL : ls.length ≤ 1000) (hb : in64 ls) (hS : Src w 1 A ls.length c (icells ls)) :
    Calls Tryz.prog 99 #[.slice A ls.length c] w fun e w' => e = .returned (.tuple #[.pointer none, .int .i64 13]) ∧ Chg NoS w w' := by
  have HP := keepf (fun W h => count_any ls A c W hL hb h)
  have HS := keepf hS
  clear hS hb
  go_enter Tryz.func99, Tryz.ntmps99
  go_wp2_with (first
    | (go_at_call 118; refine (HP.out _ HS.out).mono ?_; rintro e w1 ⟨R, x, rfl, hs, h1, hm, hc⟩; rw [decide_eq_false hM]; have H1 := keepf h1; have HC := keepf hc; have HSZ := keepf hs; clear hs h1 hm hc)
    | (refine alloc_big rfl 156 rfl _ zero_rows ?_; intro w2 g hg hblk hch; have HBL := keepf hblk; have HCH := keepf hch; have HG := keepf hg; clear hblk hch hg)
    | (refine store_blk rfl 156 _ _ rfl _ _ rfl rfl 156 _ HBL.out 48 size_rows HSZ.out rows_zero.size H1.out ?_; intro w3 hblk2 hch2; have HC2 := keepf hch2; clear hblk2 hch2))
  go_ret2
  exact ⟨rfl, HC.out.trans (chg_new HCH.out HG.out HC2.out) (fun _ _ h => h)⟩
def NewTo (w : World) (ls : List Int) (e : Ending) (w' : World) : Prop :=
  ∃ g, e = .returned (.tuple #[.pointer (some ⟨g, 0, none⟩), .int .i64 0]) ∧ Tb w' g ls ∧ Chg NoS w w' ∧ w.heap.size ≤ g
set_option maxHeartbeats 2000000 in
set_option maxRecDepth 100000 in
theorem new_ok (ls : List Int) (A : Option Addr) (c : Nat) (w : World) (hM : May ls) (hb : in64 ls) (hS : Src w 1 A ls.length c (icells ls)) :
    Calls Tryz.prog 99 #[.slice A ls.length c] w (NewTo w ls) := by
  have hL : ls.length ≤ 1000 := by have := hM.2.1; omega
  have HP := keepf (fun W h => count_any ls A c W hL hb h)
  have HS := keepf hS
  have HM := keepf hM
  clear hS hb hM
  go_enter Tryz.func99, Tryz.ntmps99
  go_upto_region 5 with (first
    | (go_at_call 118; refine (HP.out _ HS.out).mono ?_; rintro e w1 ⟨R, x, rfl, hs, h1, hm, hc⟩; rw [decide_eq_true HM.out]; have HR := keepf (hm HM.out).2; have H1 := keepf h1; have HC := keepf hc; have HSZ := keepf hs; clear hs h1 hm hc)
    | (refine alloc_big rfl 156 rfl _ zero_rows ?_; intro w2 g hg hblk hch; have HBL := keepf hblk; have HCH := keepf hch; have HG := keepf hg; clear hblk hch hg)
    | (refine store_blk rfl 156 _ _ rfl _ _ rfl rfl 156 _ HBL.out 48 size_rows HSZ.out rows_zero.size H1.out ?_; intro w3 hblk2 hch2; have HC2 := keepf hch2; have HB2 := keepf hblk2; clear hblk2 hch2)
    | (refine load_blk rfl 156 _ rfl _ rfl 156 _ _ HB2.out Tryz.underlying156 rfl 48 size_rows HSZ.out ?_)
    | (refine build_to rfl 158 _ rfl (newTab ls.length R) (by rw [List.map_toArray]; exact built_tab ls.length R HSZ.out) ?_)
    | (refine box_big rfl 158 _ rfl (newTab ls.length R) rfl ?_; intro w4 g4 hg4 hblk4 hch4; have HB4 := keepf hblk4; have HC4 := keepf hch4; have HG4 := keepf hg4; clear hblk4 hch4 hg4))
  have hcc : Chg NoS w w4 := (HC.out.trans (chg_new HCH.out HG.out HC2.out) (fun _ _ h => h)).trans HC4.out (fun _ _ h => h)
  have hsz := HC.out.size
  have hsz2 := (chg_new HCH.out HG.out HC2.out).size
  have hgs : w.heap.size ≤ g4 := by have := HG4.out; omega
  have HT := keepf (newTab_is ls.length R (cnt ls) HR.out)
  generalize newTab ls.length R = T at *
  have HCC := keepf hcc
  have HGS := keepf hgs
  have HS4 : Hid (Src w4 1 A ls.length c (icells ls)) := HS.out.below (w0 := w) hcc
  clear hcc hgs hsz hsz2 HC HCH HG HC2 HC4 HG4 HBL HB2 H1 HSZ HR HP HS
  go_upto_region 6 with (first
    | (refine copy_blk rfl _ _ 63 63 rfl 3 Tryz.underlying63 size_int g4 3 320 320 rfl A ls.length c rfl 158 T HB4.out (icells ls) HS4.out (by have := HM.out.2.1; omega) (by rw [HT.out.size]; have := HM.out.2.1; omega) (icells_one ls) ?_; intro w5 hblk5 hch5; have HB5 := keepf hblk5; have HC5 := keepf hch5; clear hblk5 hch5))
  have HT5 := keepf (HT.out.copy ls HM.out.2.1)
  generalize (splice T.toList 3 (icells ls)).toArray = T5 at *
  clear HT HB4
  go_upto_region 7 with (first
    | (go_at_call 119; refine (begin_any g4 T5 ls.length _ _ (cnt ls) _ _ HB5.out HT5.out (fun i hi => by have h1 := fst_le ls HM.out i (by omega); have h2 : 2 ^ i ≤ 2 ^ 15 := Nat.pow_le_pow_right (by decide) (by omega); omega) (fun i _ => by have h1 := att_le ls i; have h2 := HM.out.2.1; omega)).mono ?_; rintro e w6 ⟨rfl, T6, hb6, ht6, hc6⟩; have HB6 := keepf hb6; have HT6 := keepf ht6; have HC6 := keepf hc6; clear hb6 ht6 hc6))
  go_wp2_with (first
    | (go_at_call 120; refine (number_any g4 T6 ls.length _ ls _ HM.out HB6.out HT6.out).mono ?_; rintro e w7 ⟨rfl, T7, S7, hb7, ht7, hs7, hc7⟩; have HB7 := keepf hb7; have HT7 := keepf ht7; have HC7 := keepf hc7; have HS7 := keepf hs7; clear hb7 ht7 hc7 hs7))
  go_ret2
  refine ⟨g4, rfl, ⟨T7, S7, HB7.out, HT7.out, HS7.out⟩, ?_, HGS.out⟩
  have h1 := (HC5.out.trans HC6.out (fun _ _ h => h)).trans HC7.out (fun _ _ h => h)
  exact HCC.out.trans h1 (fun i hi e => by have := HGS.out; omega)
theorem ready_any (g : Nat) (w : World) (h0 : w.cell? ⟨g, 0, none⟩ = some (.bool true)) :
    Calls Tryz.prog 104 #[.pointer (some ⟨g, 0, none⟩)] w fun e w' => e = .returned (.bool true) ∧ w = w' := by
  go_enter Tryz.func104, Tryz.ntmps104
  go_wp2_with fail
  go_ret
  exact ⟨rfl, rfl⟩
end Go.Proofs.YtmmilchmnimjoaaGreat
/- What Get of a table tells. -/
namespace Go.Proofs.YtmmilchmnimjoaaGreat
open Go.RowKit
set_option linter.unusedVariables false
set_option linter.unusedSimpArgs false
theorem numAt_one (high : Bool) (bs : List Nat) (p : Nat) : numAt high bs p 1 = (bitAt high bs p).toNat := by
  cases high <;> cases h : bitAt _ bs p <;> simp_all [numAt, obf]
def leftBits (high : Bool) (bs : List Nat) (a : Nat) : List Bool := (allBits high bs).drop a
theorem leftBits_len (high : Bool) (bs : List Nat) (a : Nat) : (leftBits high bs a).length = 8 * bs.length - a := by simp [leftBits, allBits_length]
theorem leftBits_next (high : Bool) (bs : List Nat) (a n : Nat) (h : a + n < 8 * bs.length) : (leftBits high bs a).take (n + 1) = (leftBits high bs a).take n ++ [bitAt high bs (a + n)] := by
  have hl : n < (leftBits high bs a).length := by rw [leftBits_len]; omega
  rw [List.take_succ_eq_append_getElem hl]
  congr 2
  simp [leftBits, allBits]
theorem vl_next (high : Bool) (bs : List Nat) (a n : Nat) (h : a + n < 8 * bs.length) : vl ((leftBits high bs a).take (n + 1)) = 2 * vl ((leftBits high bs a).take n) + numAt high bs (a + n) 1 := by
  rw [leftBits_next _ _ _ _ h, vl_snoc, numAt_one]
theorem or_bit (c b : Nat) (hc : c < 65536) (hb : b < 2) : bits BinOp.or IntKind.u32 ((c : Int) * 2) (b : Int) = ((2 * c + b : Nat) : Int) := by
  have h1 := u32_or_nat (2 * c) b (by omega) (by omega)
  rw [show ((c : Int) * 2) = ((2 * c : Nat) : Int) from by omega, h1]
  congr 1
  have h := Nat.two_pow_add_eq_or_of_lt (i := 1) (b := b) (by omega) c
  simp only [Nat.pow_one] at h
  exact h.symm
def TakeTo (w : World) (gr : Nat) (ls : List Int) (high : Bool) (bs : List Nat) (a : Nat) (S : Value) (e : Ending) (w' : World) : Prop :=
  ∃ (s n : Nat) (c : Int), e = .returned (.tuple #[.int .i64 s, .int .i64 c]) ∧ Out ls (leftBits high bs a) s n c ∧ Rd w' gr high bs (a + n) S ∧ Chg (fun i => i = gr) w w'
set_option maxHeartbeats 4000000 in
set_option maxRecDepth 100000 in
theorem tget_any (g gr a : Nat) (high : Bool) (bs : List Nat) (ls : List Int) (S : Value) (w : World) (hM : May ls) (hT : Tb w g ls) (hR : Rd w gr high bs a S) (hL : bs.length ≤ 100000) (hbs : ∀ b ∈ bs, b < 256) (ha : a ≤ 8 * bs.length) (hne : g ≠ gr) (hown : S.ownBlock ≠ some g) (hown2 : S.ownBlock ≠ some gr) :
    Calls Tryz.prog 78 #[.pointer (some ⟨g, 0, none⟩), .pointer (some ⟨gr, 0, none⟩)] w (TakeTo w gr ls high bs a S) := by
  obtain ⟨T, Sy, hB, hTi, hSy⟩ := hT
  have c0 : w.cell? ⟨g, 0, none⟩ = some (.bool true) := by rw [hB.cell, hTi.made]
  have HB := keepf hB
  have HT := keepf hTi
  have HSy := keepf hSy
  have HM := keepf hM
  have HR := keepf hR
  have HBS := keepf hbs
  have HNE := keepf hne
  clear hB hTi hSy hM hR hbs hne hown hown2
  have HG : Hid (g < w.heap.size) := HB.out.lt
  go_enter Tryz.func78, Tryz.ntmps78
  go_wp2
  go_step3
  go_wp2_with (go_at_call 104; refine (ready_any g _ c0).mono ?_; rintro e w' ⟨rfl, rfl⟩)
  clear c0
  go_step3
  go_wp2_with fail
  go_loopw [6, 19] (fun v i wr => ∃ n x : Nat, n ≤ deepL ls ∧ n ≤ 15 ∧ a + n ≤ 8 * bs.length ∧ x < 65536 ∧ i = .int .i64 n ∧ v = .int .u32 x ∧ Hid (x = vl ((leftBits high bs a).take n)) ∧ Hid (∀ m q, m < n → ¬ Hit ls (leftBits high bs a) m q) ∧ Rd wr gr high bs (a + n) S ∧ Chg (fun i => i = gr) w wr) (fun _ i _ => 16 - (intOf i).toNat)
  case atStart => exact ⟨0, 0, by omega, by omega, by omega, by omega, rfl, rfl, (by show 0 = _; simp [vl]), fun m q h => absurd h (by omega), HR.out, Chg.refl _ _⟩
  case round =>
    obtain ⟨n, x, hnd, hn15, han, hx, rfl, rfl, hX, hNo, hRd, hch⟩ := hrel
    have HRd := keepf hRd
    have HCh := keepf hch
    have HBk : Hid (Blk wr g 158 T) := HB.out.chg hch (fun e => HNE.out e)
    clear hRd hch
    obtain ⟨F, hF⟩ : ∃ F, F = fst (cnt ls) n := ⟨_, rfl⟩
    obtain ⟨AA, hAA⟩ : ∃ AA, AA = att (cnt ls) n := ⟨_, rfl⟩
    obtain ⟨MM, hMM⟩ : ∃ MM, MM = cnt ls n := ⟨_, rfl⟩
    obtain ⟨D, hD⟩ : ∃ D, D = deepL ls := ⟨_, rfl⟩
    have hfl := fst_le ls HM.out n (by omega)
    have hp15 : 2 ^ n ≤ 2 ^ 15 := Nat.pow_le_pow_right (by decide) (by omega)
    have hal := att_le ls (n + 1)
    rw [att, ← hAA, ← hMM] at hal
    rw [← hF, ← hMM] at hfl
    have hl320 := HM.out.2.1
    have hF2 : F ≤ 32768 := by omega
    have hM2 : MM ≤ 320 := by omega
    have r0 : wr.cell? ⟨g, 643 + n * 3, none⟩ = some (.int .u32 (F : Nat)) := by rw [HBk.out.cell, HT.out.r0 n (by omega), hF]
    have r1 : wr.cell? ⟨g, 643 + n * 3 + 1, none⟩ = some (.int .u32 (MM : Nat)) := by rw [HBk.out.cell, HT.out.r1 n (by omega), hMM]
    have r2 : wr.cell? ⟨g, 643 + n * 3 + 2, none⟩ = some (.int .i64 (AA : Nat)) := by rw [HBk.out.cell, HT.out.r2 n (by omega), hAA]
    have hi16 : (n : Int) < 16 := by omega
    have HF := keepf hF
    have HAA := keepf hAA
    have HMM := keepf hMM
    have HD := keepf hD
    have HHL := keepf hal
    have HP15 := keepf hp15
    have HFL := keepf hfl
    have HND := keepf hnd
    have HL320 := keepf hl320
    clear hF hAA hMM hD hal hp15 hfl hnd hl320
    go_upto_region 6 with fail
    first
      | (go_loud (go_region_held3 (fun w' => w'.cell? ⟨g, 643 + n * 3, none⟩ = some (.int .u32 (F : Nat)) ∧ w'.cell? ⟨g, 643 + n * 3 + 1, none⟩ = some (.int .u32 (MM : Nat)) ∧ w'.cell? ⟨g, 643 + n * 3 + 2, none⟩ = some (.int .i64 (AA : Nat)))
          (first | go_keep | exact ⟨by assumption, by assumption, by assumption⟩)
          (fail)))
      | fail "region"
    go_upto_region 7 with fail
    have hb := (HBk.out.alloc (.cells (rowCells F MM AA) 154)).drew
    have hb4 := (Blk.new wr 154 (rowCells F MM AA)).drew
    have hc := (HCh.out.alloc (.cells (rowCells F MM AA) 154)).drew
    have hrd : Rd (wr.alloc (.cells (rowCells F MM AA) 154)).drew gr high bs (a + n) S := ⟨(HRd.out.1.alloc _).drew, own_drew (own_chg (S := NoS) HRd.out.2 ((Chg.refl _ _).alloc _) (fun _ _ h => h))⟩
    change Code.wp _ _ _ _ (wr.alloc (.cells (rowCells F MM AA) 154)).drew
    generalize (wr.alloc (.cells (rowCells F MM AA) 154)).drew = w2 at *
    obtain ⟨g4, hg4⟩ : ∃ g4, g4 = wr.heap.size := ⟨_, rfl⟩
    rw [← hg4] at hb4 ⊢
    clear hg4 r0 r1 r2 HBk HRd HCh
    have d0 : w2.cell? ⟨g4, 0, none⟩ = some (.int .u32 (F : Nat)) := by rw [hb4.cell]; rfl
    have d1 : w2.cell? ⟨g4, 1, none⟩ = some (.int .u32 (MM : Nat)) := by rw [hb4.cell]; rfl
    have d2 : w2.cell? ⟨g4, 2, none⟩ = some (.int .i64 (AA : Nat)) := by rw [hb4.cell]; rfl
    have d3 : w2.cell? ⟨g, 2, none⟩ = some (.int .i64 (D : Nat)) := by rw [hb.cell, HT.out.deep, HD.out]
    have HBk := keepf hb
    have HRd := keepf hrd
    have HCh := keepf hc
    clear hb hb4 hc hrd
    obtain ⟨kk, hkk, hkk2, hkk3⟩ : ∃ kk : Nat, IntKind.u32.wrap ((x : Int) - F) = (kk : Int) ∧ (kk < MM → F ≤ x ∧ x = F + kk) ∧ (F ≤ x → x < F + MM → kk < MM) := by
      by_cases h : F ≤ x
      · exact ⟨x - F, by rw [IntKind.wrap_u32]; omega, fun _ => by omega, fun _ _ => by omega⟩
      · exact ⟨x + 4294967296 - F, by rw [IntKind.wrap_u32]; omega, fun _ => by omega, fun _ _ => by omega⟩
    have HK2 := keepf hkk2
    have HK3 := keepf hkk3
    clear hkk2 hkk3
    by_cases hit : kk < MM
    · obtain ⟨hFx, hxe⟩ := HK2.out hit
      have hn0 : n ≠ 0 := by
        rintro rfl
        have := HMM.out
        rw [cnt_zero] at this
        omega
      obtain ⟨s, hs, hrk⟩ := cnt_find ls n kk hn0 (by rw [← HMM.out]; exact hit)
      have hsl := (List.getElem?_eq_some_iff.1 hs).1
      have hrk2 : rank ls s = kk := by rw [rank, lenAt_some hs]; exact hrk
      have hsym := HSy.out s n (by have := HL320.out; omega) hn0 hs
      rw [hrk2, ← HAA.out] at hsym
      have hpl : AA + kk < 320 := by have := HHL.out; have := HL320.out; omega
      have d4 : w2.cell? ⟨g, 691 + (AA + kk), none⟩ = some (.int .i64 (s : Nat)) := by rw [HBk.out.cell, HT.out.sym _ hpl, hsym]
      have hw2 : IntKind.i64.wrap ((AA : Int) + kk) = (AA : Int) + kk := by rw [IntKind.wrap_i64]; omega
      have hw3 : IntKind.i64.wrap (kk : Int) = kk := by rw [IntKind.wrap_i64]; omega
      have hs320 : (AA : Int) + kk < 320 := by omega
      have hs0 : 0 ≤ (AA : Int) + kk := by omega
      have hs1 : ((AA : Int) + kk).toNat = AA + kk := by omega
      have HSS := keepf hs
      have HRK := keepf hrk2
      have HXE := keepf hxe
      clear hs hrk hrk2 hsym hsl hxe hFx
      go_upto_region 9 with fail
      go_quiet (fail)
      go_wp2_with fail
      go_ret2
      have hb : n ≤ (leftBits high bs a).length := by rw [leftBits_len]; omega
      exact ⟨s, n, 0, rfl, .ok n s ⟨hn0, hb, HSS.out, by rw [cd_eq hn0 HSS.out, HRK.out, ← HF.out, ← HXE.out]; exact hX.out⟩ hNo.out, ⟨HRd.out.1.drewN nq, own_drewN HRd.out.2 nq⟩, HCh.out.drewN nq⟩
    · have hno : ∀ m q, m < n + 1 → ¬ Hit ls (leftBits high bs a) m q := by
        intro m q hm hh
        by_cases e : m = n
        · subst e
          obtain ⟨h1, h2, h3, h4⟩ := hh
          have h5 := rank_lt h1 h3
          rw [cd_eq h1 h3, ← HF.out, ← hX.out] at h4
          rw [← HMM.out] at h5
          exact hit (HK3.out (by omega) (by omega))
        · exact hNo.out m q (by omega) hh
      have HNO := keepf hno
      have dk : decide ((kk : Int) < MM) = false := by simp; omega
      clear hno
      by_cases hnD : n = D
      · have hd : ((n : Int) == (D : Int)) = true := by simp; omega
        go_wp2_with fail
        go_ret2
        have hb : deepL ls ≤ (leftBits high bs a).length := by rw [leftBits_len, ← HD.out]; omega
        refine ⟨0, deepL ls, 13, rfl, .code hb (fun m q hh => ?_), ?_, HCh.out⟩
        · have h1 := deepL_of HM.out.2.2.1 hh.1 hh.2.2.1
          have h2 := HD.out
          exact HNO.out m q (by omega) hh
        · rw [← HD.out, ← hnD]; exact HRd.out
      · have hd : ((n : Int) == (D : Int)) = false := by simp; omega
        by_cases hend : a + n < 8 * bs.length
        · have hgo := keepf (get_ok gr (a + n) 1 high bs S w2 HRd.out (by omega) HBS.out (by omega) (by omega))
          have hbit : numAt high bs (a + n) 1 < 2 := by rw [numAt_one]; cases bitAt high bs (a + n) <;> simp
          have hvn := vl_next high bs a n hend
          obtain ⟨bt, hbt⟩ : ∃ bt, bt = numAt high bs (a + n) 1 := ⟨_, rfl⟩
          rw [← hbt] at hbit hvn
          have HVN := keepf hvn
          have HBT := keepf hbt
          have hvl := vl_lt ((leftBits high bs a).take (n + 1))
          have hvl2 : 2 ^ ((leftBits high bs a).take (n + 1)).length ≤ 2 ^ 16 := Nat.pow_le_pow_right (by decide) (by simp; omega)
          have hxv : 2 * x + bt < 65536 := by rw [hX.out, ← hvn]; omega
          have hor := or_bit x bt (by omega) hbit
          clear hvn hbt hvl hvl2
          go_wp2_with (go_at_call 46; refine hgo.out.mono ?_; rintro e w3 ⟨rfl, hr3, hc3⟩; rw [← HBT.out]; have HR3 := keepf hr3; have HC3 := keepf hc3; clear hr3 hc3)
          go_roundw
          case rel =>
            refine ⟨n + 1, 2 * x + bt, ?_, ?_, by omega, hxv, by go_num, rfl, (by show _ = _; rw [HVN.out, hX.out]), HNO.out, by rw [← Nat.add_assoc]; exact HR3.out, HCh.out.trans HC3.out (fun _ _ h => h)⟩
            · have := HND.out; have := HD.out; omega
            · have := HND.out; have := HD.out; have := deepL_le ls; omega
          case measure => simp [intOf]; omega
        · have hgc := keepf (get_cut gr (a + n) 1 high bs S w2 HRd.out (by omega) (by omega) (by omega) (by omega))
          go_wp2_with (go_at_call 46; refine hgc.out.mono ?_; rintro e w3 ⟨rfl, m3, rfl⟩)
          go_ret2
          have hb : (leftBits high bs a).length = n := by rw [leftBits_len]; omega
          have hlt : (leftBits high bs a).length < deepL ls := by rw [hb]; have := HND.out; have := HD.out; omega
          have ho := Out.cut (ls := ls) (B := leftBits high bs a) hlt (fun m q hh => HNO.out m q (by have := hh.2.1; omega) hh)
          rw [hb] at ho
          exact ⟨0, n, 10, rfl, ho, ⟨HRd.out.1.drewN m3, own_drewN HRd.out.2 m3⟩, HCh.out.drewN m3⟩
end Go.Proofs.YtmmilchmnimjoaaGreat
/- What Put of a table does to a writer: a symbol's code, bit by bit; and how codes are got back. -/
namespace Go.Proofs.YtmmilchmnimjoaaGreat
open Go.RowKit
set_option linter.unusedVariables false
set_option linter.unusedSimpArgs false
def codeBits (ls : List Int) (s : Nat) : List Bool := numBits true (cd ls s) (lenAt ls s)
theorem codeBits_len (ls : List Int) (s : Nat) : (codeBits ls s).length = lenAt ls s := by simp [codeBits, numBits_length]
theorem numBits_take (c n j : Nat) (h : j < n) : (numBits true c n).take (j + 1) = (numBits true c n).take j ++ [c.testBit (n - 1 - j)] := by
  rw [List.take_succ_eq_append_getElem (by rw [numBits_length]; exact h)]
  congr 2
  simp [numBits]
theorem numBits_one (high b : Bool) : numBits high b.toNat 1 = [b] := by cases high <;> cases b <;> rfl
theorem bit_shift (c i : Nat) : c / 2 ^ i % 2 = (c.testBit i).toNat := by
  rw [Nat.testBit_eq_decide_div_mod_eq]
  rcases Nat.mod_two_eq_zero_or_one (c / 2 ^ i) with h | h <;> simp [h]
def TPutTo (w : World) (gw : Nat) (high : Bool) (L : List Bool) (S : Value) (e : Ending) (w' : World) : Prop :=
  e = .returned (.int .i64 0) ∧ ∃ S', Wr w' gw high L S' ∧ Chg (WS gw S) w w' ∧ (∀ i, WS gw S' i → WS gw S i ∨ w.heap.size ≤ i)
set_option maxHeartbeats 2000000 in
set_option maxRecDepth 100000 in
theorem tput_ok (g gw s : Nat) (high : Bool) (L : List Bool) (S : Value) (ls : List Int) (w : World) (hM : May ls) (hT : Tb w g ls) (hW : Wr w gw high L S) (hL : L.length ≤ 1000000000) (hs : s < ls.length) (hn0 : lenAt ls s ≠ 0) (hne : ¬ WS gw S g) :
    Calls Tryz.prog 129 #[.pointer (some ⟨g, 0, none⟩), .pointer (some ⟨gw, 0, none⟩), .int .i64 s] w (TPutTo w gw high (L ++ codeBits ls s) S) := by
  have hGlt := hT.lt
  obtain ⟨T, Sy, hB, hTi, hSy⟩ := hT
  have hl320 := hM.2.1
  have h3 := some_lenAt hM.2.2.1 hs
  have hcl := cd_lt hM hn0 h3
  have hn15 := lenAt_le hM.2.2.1 s
  have hCB : codeBits ls s = numBits true (cd ls s) (lenAt ls s) := rfl
  have c0 : w.cell? ⟨g, 0, none⟩ = some (.bool true) := by rw [hB.cell, hTi.made]
  have c1 : w.cell? ⟨g, 1, none⟩ = some (.int .i64 (ls.length : Nat)) := by rw [hB.cell, hTi.n]
  have c2 : w.cell? ⟨g, 3 + s, none⟩ = some (.int .i64 (lenAt ls s : Nat)) := by
    rw [hB.cell, hTi.len s (by omega), List.getD_eq_getElem?_getD, h3]
    rfl
  have c3 : w.cell? ⟨g, 323 + s, none⟩ = some (.int .u32 (cd ls s : Nat)) := by rw [hB.cell, hTi.code s (by omega)]
  rw [hCB]
  generalize cd ls s = cw at *
  generalize lenAt ls s = n at *
  have hs320 : (s : Int) < 320 := by omega
  have hsl : (s : Int) < ls.length := by omega
  have d1 : decide ((s : Int) < 0) = false := by simp
  have d2 : decide (ls.length ≤ s) = false := by simp; omega
  have d3 : decide ((ls.length : Int) ≤ s) = false := by simp; omega
  have hnn : ((n : Int) == 0) = false := by simp; omega
  have HC3 := keepf c3
  have HW := keepf hW
  have HNE := keepf hne
  have HCL := keepf hcl
  have hcw : cw < 32768 := by
    have : 2 ^ n ≤ 2 ^ 15 := Nat.pow_le_pow_right (by decide) hn15
    omega
  clear hW hB hTi hSy hM h3 hne hCB hcl c3
  go_enter Tryz.func129, Tryz.ntmps129
  go_wp2_with (go_at_call 104; refine (ready_any g _ c0).mono ?_; rintro e w' ⟨rfl, rfl⟩)
  clear c0 c1 c2 d1 d2 d3 hnn
  go_loopw [7] (fun i wr => ∃ j : Nat, ∃ S' : Value, j ≤ n ∧ i = .int .i64 ((n : Int) - 1 - j) ∧ Wr wr gw high (L ++ (numBits true cw n).take j) S' ∧ Chg (WS gw S) w wr ∧ Hid (∀ i, WS gw S' i → WS gw S i ∨ w.heap.size ≤ i)) (fun i _ => (intOf i + 1).toNat)
  case atStart => exact ⟨0, S, by omega, by go_num, by simpa using HW.out, Chg.refl _ _, fun i h => .inl h⟩
  case round =>
    obtain ⟨j, S', hj, rfl, hWr, hch, hF⟩ := hrel
    have HWr := keepf hWr
    have HCh := keepf hch
    clear hWr hch HW
    by_cases hlt : j < n
    · obtain ⟨i, hi⟩ : ∃ i : Nat, i = n - 1 - j := ⟨_, rfl⟩
      have hii : ((n : Int) - 1 - j) = (i : Int) := by omega
      rw [hii]
      have hbs := bit_shift cw i
      obtain ⟨b, hb⟩ : ∃ b, b = cw.testBit i := ⟨_, rfl⟩
      rw [← hb] at hbs
      have e3 : wr.cell? ⟨g, 323 + s, none⟩ = some (.int .u32 (cw : Nat)) := (HCh.out.cell (p := ⟨g, 323 + s, none⟩) hGlt (fun e => HNE.out e)).trans HC3.out
      have hand : bits BinOp.and IntKind.u32 ((cw : Int) / 2 ^ i) 1 = ((b.toNat : Nat) : Int) := by
        have := piece_eq cw i 1 (by omega) (by omega)
        rw [show (((2 : Int) ^ 1 - 1) % 4294967296) = 1 from by decide, Nat.pow_one, hbs] at this
        exact this
      have HPT := keepf (put_ok gw high (L ++ (numBits true cw n).take j) S' b.toNat 1 wr HWr.out (by simp [numBits_length]; omega) (by omega) (by cases b <;> simp))
      have hi15 : i ≤ 15 := by omega
      have HI := keepf hi
      have HBB := keepf hb
      clear hi hb hbs
      obtain ⟨z, hz⟩ : ∃ z, z = b.toNat := ⟨_, rfl⟩
      rw [← hz] at hand HPT
      have HZ := keepf hz
      clear hz
      go_wp2_with (go_at_call 125; refine HPT.out.mono ?_; intro e w3 hp; obtain ⟨rfl, S3, hw3, hc3, hf3⟩ := hp.got; have HW3 := keepf hw3; have HC33 := keepf hc3; have HF3 := keepf hf3; clear hp hw3 hc3 hf3)
      go_roundw
      case rel =>
        have hlb : (numBits true cw n).take (j + 1) = (numBits true cw n).take j ++ [b] := by rw [numBits_take _ _ _ hlt, HBB.out, HI.out]
        refine ⟨j + 1, S3, by omega, by go_num, ?_, ?_, ?_⟩
        · have := HW3.out
          rw [HZ.out, numBits_one, List.append_assoc, ← hlb] at this
          exact this
        · exact HCh.out.trans HC33.out (fun q hq h => by
            rcases hF.out q h with h1 | h1
            · exact h1
            · omega)
        · intro q hq
          rcases HF3.out q hq with h1 | h1
          · exact hF.out q h1
          · exact .inr (Nat.le_trans HCh.out.size h1)
      case measure => simp [intOf]
    · obtain rfl : n = j := by omega
      go_wp2_with fail
      go_ret
      refine ⟨rfl, S', ?_, HCh.out, hF.out⟩
      have := HWr.out
      rwa [List.take_of_length_le (by rw [numBits_length]; exact Nat.le_refl _)] at this
end Go.Proofs.YtmmilchmnimjoaaGreat
/- Codes that are put one behind the other are got back: plain mathematics. -/
namespace Go.Proofs.YtmmilchmnimjoaaGreat
open Go.RowKit
set_option linter.unusedVariables false
set_option linter.unusedSimpArgs false
theorem left_take (high : Bool) (L : List Bool) (a n : Nat) (h : a + n ≤ L.length) : (leftBits high (bytesOf high L) a).take n = (L.drop a).take n := by
  apply List.ext_getElem?
  intro j
  rw [List.getElem?_take, List.getElem?_take]
  by_cases hj : j < n
  · rw [if_pos hj, if_pos hj, List.getElem?_drop, leftBits, List.getElem?_drop]
    have h1 : a + j < 8 * (bytesOf high L).length := by rw [bytesOf_length]; unfold nby; omega
    have h2 : a + j < L.length := by omega
    simp [allBits, h1, bitAt_bytes, List.getD_eq_getElem?_getD, h2]
  · rw [if_neg hj, if_neg hj]
theorem vl_code (c n j : Nat) (hc : c < 2 ^ n) (hj : j ≤ n) : vl ((numBits true c n).take j) = c / 2 ^ (n - j) := by
  induction j with
  | zero =>
    rw [List.take_zero, Nat.sub_zero, Nat.div_eq_of_lt hc]
    rfl
  | succ j ih =>
    rw [numBits_take _ _ _ (by omega), vl_snoc, ih (by omega), ← bit_shift]
    obtain ⟨i, hi⟩ : ∃ i, i = n - 1 - j := ⟨_, rfl⟩
    rw [← hi, show n - j = i + 1 from by omega, show n - (j + 1) = i from by omega, Nat.pow_succ, ← Nat.div_div_eq_div_mul]
    omega
end Go.Proofs.YtmmilchmnimjoaaGreat
