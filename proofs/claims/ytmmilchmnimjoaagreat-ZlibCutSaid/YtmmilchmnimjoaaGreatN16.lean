/- Merged by program: Own7 Wr7 PackM PackN. -/
import Derived.Test.YtmmilchmnimjoaaGreatN03
import Derived.Test.YtmmilchmnimjoaaGreatN09
import Derived.Test.YtmmilchmnimjoaaGreatN14
import Derived.Test.YtmmilchmnimjoaaGreatN15
/- ownCodes: the lengths of codes that suit tokens are put, and these codes are made. -/
namespace Go.Proofs.YtmmilchmnimjoaaGreat
open Go.RowKit
set_option linter.unusedVariables false
set_option linter.unusedSimpArgs false
theorem own_cap7 {w : World} {e : TypeId} {A : Option Addr} {n c : Nat} {xs : List Value} (h : w.ownsRow 0 e 1 (.slice A n c) n xs) : n ≤ c := by
  rcases h.2 with ⟨h', h0⟩ | ⟨g', cap, cur, h', _, _, h1, _⟩
  · omega
  · simp only [Value.slice.injEq] at h'
    omega
theorem src_takeN {w : World} {A : Option Addr} {n c q : Nat} {D : List Int} (h : Src w 1 A n c (icells D)) (hc : n ≤ c) (hq : q ≤ n) : Src w 1 A q c (icells (D.take q)) := by
  have h2 := src_cut h hc (show 0 + q ≤ n by omega)
  rw [cutA_zero, List.drop_zero, Nat.sub_zero] at h2
  have e : icells (D.take q) = (icells D).take q := by simp [icells]
  rw [e]
  exact h2
theorem plens (B g gw : Nat) (L : List Bool) (S : Value) (cs : List Int) (N most : Nat) (A : Option Addr) (c : Nat) (w : World) (hp : Pd w B g gw L S) (hN : cs.length = N) (hL : N ≤ 1000) (hS : Src w 1 A N c (icells cs)) (hF : Fine cs most) :
    Calls Tryz.prog 114 #[.pointer (some ⟨g, 0, none⟩), .slice A N c, .int .i64 (most : Nat)] w fun e w' => ∃ (A3 : Option Addr) (c3 : Nat) (D : List Int), e = .returned (.slice A3 N c3) ∧
      w'.ownsRow 0 3 1 (.slice A3 N c3) N (icells D) ∧ SuitL cs most D ∧ D.length = N ∧ Pd w' B g gw L S ∧ PMv g gw w S w' S := by
  subst hN
  refine (plengths_ok B g gw L S cs most A c w hp hL hS hF).mono ?_
  rintro e w' ⟨A3, c3, D, rfl, h1, h2, h3, h4⟩
  have hD := h2.len
  rw [hD] at h1 ⊢
  exact ⟨A3, c3, D, rfl, h1, h2, hD, h3, h4⟩
theorem ptrim (D : List Int) (N least : Nat) (A : Option Addr) (c : Nat) (w : World) (hN : D.length = N) (hL : N ≤ 1000) (h1 : least ≤ N) (h : w.ownsRow 0 3 1 (.slice A N c) N (icells D)) :
    Calls Tryz.prog 113 #[.slice A N c, .int .i64 (least : Nat)] w fun e w' => e = .returned (.slice A (trimN D least N) c) ∧ w = w' := by
  subst hN
  exact trim_ok D least A c w (src_own h) (own_cap7 h) hL h1
theorem concat2 (W : World) (A1 A2 : Option Addr) (q1 q2 c1 c2 : Nat) (X Y : List Int) (h1 : X.length = q1) (h2 : Y.length = q2) (hl : q1 + q2 ≤ 1000) (hX : Src W 1 A1 q1 c1 (icells X)) (hY : Src W 1 A2 q2 c2 (icells Y)) :
    Calls Tryz.prog 100 #[.slice (some ⟨W.heap.size, 0, none⟩) 2 2] (W.alloc (.cells #[.slice A1 q1 c1, .slice A2 q2 c2] 63)) (NewI (W.alloc (.cells #[.slice A1 q1 c1, .slice A2 q2 c2] 63)) (X ++ Y)) := by
  subst h1 h2
  have hc : Chg NoS W (W.alloc (.cells #[.slice A1 X.length c1, .slice A2 Y.length c2] 63)) := (Chg.refl NoS W).alloc _
  have hall : allI [(A1, c1, X), (A2, c2, Y)] = X ++ Y := by simp [allI]
  have h := concatI_any [(A1, c1, X), (A2, c2, Y)] (some ⟨W.heap.size, 0, none⟩) 2 (W.alloc (.cells #[.slice A1 X.length c1, .slice A2 Y.length c2] 63)) (by simp) (by simp) (by rw [hall, List.length_append]; omega) ?_ ?_
  · rw [hall] at h
    exact h
  · refine ⟨rfl, fun h => (by cases h), fun ad had j u hu => ?_⟩
    cases had
    rw [Addr.add_mid, Nat.zero_add, (Blk.new W 63 _).cell]
    match j, hu with
    | 0, hu => simpa [slvI] using hu
    | 1, hu => simpa [slvI] using hu
    | j + 2, hu => simp at hu
  · intro x hx
    simp only [List.mem_cons, List.not_mem_nil, or_false] at hx
    rcases hx with rfl | rfl
    · exact hX.below (w0 := W) hc
    · exact hY.below (w0 := W) hc
theorem RunsOk.all : ∀ {R : List Rn} {l : List Int}, RunsOk l R → ∀ r ∈ R, r.1 ≤ 18 ∧ r.2 < 2 ^ runBits r.1
  | [], _, _, r, h => by cases h
  | x :: R, l, h, r, hr => by
    rcases List.mem_cons.1 hr with e | e
    · subst e; exact ⟨h.1, h.2.1⟩
    · exact RunsOk.all h.2.2.2 r e
theorem cntL_fine {d : Bool} {N : Nat} {ys : List Ev} (h1 : 1 ≤ N) (h2 : N ≤ 320) (h3 : ys.length ≤ 2147483647) : Fine (cntL d N ys) (15 : Nat) := by
  refine ⟨?_, by omega, by omega, ?_⟩
  · unfold cntOk
    rw [decide_eq_true_eq]
    refine ⟨by rw [cntL_len]; omega, by rw [cntL_len]; omega, fun z hz => ?_⟩
    obtain ⟨s, hs, rfl⟩ := List.mem_map.1 hz
    have := cntOf_le d s ys
    omega
  · have h := usedTo_len (cntL d N ys) (cntL d N ys).length
    rw [cntL_len] at h ⊢
    have : (320 : Nat) ≤ 2 ^ Int.toNat (15 : Nat) := by decide
    omega
def ownBits (X Y cl : List Int) : List Bool := numBits false (X.length - 257) 5 ++ (numBits false (Y.length - 1) 5 ++ runsQ cl (runsR (X ++ Y)))
structure OwnIs (T : List Tk) (X Y cl : List Int) : Prop where
  x : ∃ D, SuitL (cntL false 286 (evs T)) 15 D ∧ X = trimL D 257
  y : ∃ D, SuitL (cntL true 30 (evs T)) 15 D ∧ Y = trimL D 1
  c : SuitL (cntRL (runsR (X ++ Y))) 7 cl
theorem OwnIs.may {T : List Tk} {X Y cl : List Int} (h : OwnIs T X Y cl) : May X ∧ May Y ∧ 257 ≤ X.length ∧ X.length ≤ 286 ∧ 1 ≤ Y.length ∧ Y.length ≤ 30 := by
  obtain ⟨D, hD, rfl⟩ := h.x
  obtain ⟨E, hE, rfl⟩ := h.y
  have l1 := hD.len
  have l2 := hE.len
  rw [cntL_len] at l1 l2
  refine ⟨trimL_may (fun z hz => by have := hD.ok z hz; omega) hD.room (by omega) (by omega) (by omega), trimL_may (fun z hz => by have := hE.ok z hz; omega) hE.room (by omega) (by omega) (by omega), ?_, ?_, ?_, ?_⟩
  · rw [trimL_len]; exact trimN_ge _ _ _ (by omega)
  · rw [trimL_len]; have := trimN_le D 257 D.length; omega
  · rw [trimL_len]; exact trimN_ge _ _ _ (by omega)
  · rw [trimL_len]; have := trimN_le E 1 E.length; omega
def OwnTo (w : World) (B g gw : Nat) (L : List Bool) (S : Value) (T : List Tk) (e : Ending) (w' : World) : Prop :=
  ∃ (X Y cl : List Int) (ta tb : Nat) (S' : Value), e = .returned (.agg #[.pointer (some ⟨ta, 0, none⟩), .pointer (some ⟨tb, 0, none⟩)]) ∧ OwnIs T X Y cl ∧ Tb w' ta X ∧ Tb w' tb Y ∧ Pd w' B g gw (L ++ ownBits X Y cl) S' ∧ PMv g gw w S w' S'
set_option maxHeartbeats 2000000 in
set_option maxRecDepth 100000 in
theorem ownCodes_ok (B g gw : Nat) (L : List Bool) (S : Value) (T : List Tk) (A : Option Addr) (c : Nat) (w : World) (hp : Pd w B g gw L S) (ho : w.ownsRow 0 180 3 (.slice A T.length c) T.length (kcells T))
    (hT : WellT T) (hTl : T.length ≤ 100000000) (hev : ∀ y ∈ evs T, EvIn y) (hl : (evs T).length ≤ 900000000) (hL : L.length ≤ 700000000) :
    Calls Tryz.prog 96 #[.pointer (some ⟨g, 0, none⟩), .slice A T.length c] w (OwnTo w B g gw L S T) := by
  have hw1 : Chg NoS w (w.alloc (.cells #[.pointer none, .pointer none] 105)) := (Chg.refl NoS w).alloc _
  have HB0 := keepf (Blk.new w 105 #[.pointer none, .pointer none])
  have HCN := keepf (counts_ok T hT hTl hev hl A c _ (own_chg ho hw1 (fun _ _ e => e)))
  have HP := keepf hp
  have HW := keepf hw1
  have HF1 := keepf (cntL_fine (d := false) (N := 286) (ys := evs T) (by omega) (by omega) (by omega))
  have HF2 := keepf (cntL_fine (d := true) (N := 30) (ys := evs T) (by omega) (by omega) (by omega))
  obtain ⟨n, hn⟩ : ∃ n, n = T.length := ⟨_, rfl⟩
  rw [← hn] at HCN ⊢
  clear hp ho hT hTl hev hl hw1 hn
  go_enter Tryz.func96, Tryz.ntmps96
  go_upto_region 2 with (go_at_call 112; refine HCN.out.mono ?_; rintro e w2 ⟨bs, bd, rfl, h1, h2, hc2, hn2, _, _⟩; have HR1 := keepf h1; have HR2 := keepf h2; have HC2 := keepf (HW.out.trans hc2 (fun _ _ h => h)); have HB2 := keepf (HB0.out.chg hc2 (fun h => h)); clear h1 h2 hc2 hn2)
  have hp2 := HP.out.no HC2.out
  have HLS := keepf (plens B g gw L S (cntL false 286 (evs T)) 286 15 (some ⟨bs, 0, none⟩) 286 w2 hp2 (cntL_len _ _ _) (by omega) (by have := src_own HR1.out; rw [cntL_len] at this; exact this) HF1.out)
  have HP2 := keepf hp2
  clear hp2
  go_upto_region 3 with (first
    | (go_at_call 114; refine HLS.out.mono ?_; rintro e w3 ⟨A3, c3, D1, rfl, ho3, hs3, hl3, hp3, hm3⟩; have HO3 := keepf ho3; have HS3 := keepf hs3; have HL3 := keepf hl3; have HP3 := keepf hp3; have HM3 := keepf ((PMv.news HC2.out).trans hm3); have HB3 := keepf (hm3.blk HP2.out HB2.out (by decide) (by decide) (by decide)); have HRD3 := keepf (hm3.own HP2.out HR2.out (by decide) (by decide) (by decide)); have HT3 := keepf (ptrim D1 286 257 A3 c3 w3 hl3 (by omega) (by omega) ho3); clear ho3 hs3 hl3 hp3 hm3)
    | (go_at_call 113; refine HT3.out.mono ?_; rintro e w4 ⟨rfl, rfl⟩))
  obtain ⟨q1, hq1⟩ : ∃ q1, q1 = trimN D1 257 286 := ⟨_, rfl⟩
  have hq1b : 257 ≤ q1 ∧ q1 ≤ 286 := by rw [hq1]; exact ⟨trimN_ge _ _ _ (by omega), trimN_le _ _ _⟩
  rw [← hq1]
  have HQ1 := keepf hq1
  have HLS2 := keepf (plens B g gw L S (cntL true 30 (evs T)) 30 15 (some ⟨bd, 0, none⟩) 30 w3 HP3.out (cntL_len _ _ _) (by omega) (by have := src_own HRD3.out; rw [cntL_len] at this; exact this) HF2.out)
  clear hq1 HLS HT3 HR1 HR2 HF1 HF2
  go_upto_region 4 with (first
    | (go_at_call 114; refine HLS2.out.mono ?_; rintro e w5 ⟨A5, c5, D2, rfl, ho5, hs5, hl5, hp5, hm5⟩; have HO5 := keepf ho5; have HS5 := keepf hs5; have HL5 := keepf hl5; have HP5 := keepf hp5; have HM5 := keepf (HM3.out.trans hm5); have HB5 := keepf (hm5.blk HP3.out HB3.out (by decide) (by decide) (by decide)); have HX5 := keepf (hm5.own HP3.out HO3.out (by decide) (by decide) (by decide)); have HT5 := keepf (ptrim D2 30 1 A5 c5 w5 hl5 (by omega) (by omega) ho5); clear ho5 hs5 hl5 hp5 hm5)
    | (go_at_call 113; refine HT5.out.mono ?_; rintro e w6 ⟨rfl, rfl⟩))
  obtain ⟨q2, hq2⟩ : ∃ q2, q2 = trimN D2 1 30 := ⟨_, rfl⟩
  have hq2b : 1 ≤ q2 ∧ q2 ≤ 30 := by rw [hq2]; exact ⟨trimN_ge _ _ _ (by omega), trimN_le _ _ _⟩
  rw [← hq2]
  have HQ2 := keepf hq2
  obtain ⟨y1, hy1⟩ : ∃ y1, y1 = q1 - 257 := ⟨_, rfl⟩
  have hy1b : (q1 : Int) - 257 = (y1 : Int) := by omega
  obtain ⟨y2, hy2⟩ : ∃ y2, y2 = q2 - 1 := ⟨_, rfl⟩
  have hy2b : (q2 : Int) - 1 = (y2 : Int) := by omega
  have HN5 := keepf (pnum_ok B g gw L S y1 5 w5 HP5.out (by omega) (by omega) (by omega))
  have hy1c : y1 ≤ 29 ∧ y2 ≤ 29 := by omega
  have HY1 := keepf hy1
  have HY2 := keepf hy2
  clear hq2 HLS2 HT5 hy1 hy2 HO3 HRD3 HP3 HM3 HB3
  go_upto_region 5 with (go_at_call 107; refine HN5.out.mono ?_; rintro e w6 ⟨rfl, S6, hp6, hm6⟩; have HP6 := keepf hp6; have HM6 := keepf hm6; clear hp6 hm6)
  have HN6 := keepf (pnum_ok B g gw _ S6 y2 5 w6 HP6.out (by omega) (by omega) (by rw [List.length_append, numBits_length]; omega))
  clear hy1b HN5
  go_upto_region 6 with (go_at_call 107; refine HN6.out.mono ?_; rintro e w7 ⟨rfl, S7, hp7, hm7⟩; have HP7 := keepf hp7; have HM7 := keepf (HM6.out.trans hm7); clear hp7 hm7)
  clear hy2b HN6
  have HX7 := keepf (HM7.out.own HP5.out HX5.out (by decide) (by decide) (by decide))
  have HY7 := keepf (HM7.out.own HP5.out HO5.out (by decide) (by decide) (by decide))
  have HB7 := keepf (HM7.out.blk HP5.out HB5.out (by decide) (by decide) (by decide))
  obtain ⟨X, hX⟩ : ∃ X, X = trimL D1 257 := ⟨_, rfl⟩
  obtain ⟨Y, hY⟩ : ∃ Y, Y = trimL D2 1 := ⟨_, rfl⟩
  have hXl : X.length = q1 := by rw [hX, trimL_len, HL3.out, HQ1.out]
  have hYl : Y.length = q2 := by rw [hY, trimL_len, HL5.out, HQ2.out]
  have hXt : X = D1.take q1 := by rw [hX, trimL, HL3.out, HQ1.out]
  have hYt : Y = D2.take q2 := by rw [hY, trimL, HL5.out, HQ2.out]
  have HSX : Hid (∀ W, W.ownsRow 0 3 1 (.slice A3 286 c3) 286 (icells D1) → Src W 1 A3 q1 c3 (icells X)) := fun W h => by
    rw [hXt]
    exact src_takeN (src_own h) (own_cap7 h) (by omega)
  have HSY : Hid (∀ W, W.ownsRow 0 3 1 (.slice A5 30 c5) 30 (icells D2) → Src W 1 A5 q2 c5 (icells Y)) := fun W h => by
    rw [hYt]
    exact src_takeN (src_own h) (own_cap7 h) (by omega)
  have hXz : ∀ z ∈ X, 0 ≤ z ∧ z ≤ 15 := fun z hz => by rw [hXt] at hz; have := HS3.out.ok z (List.mem_of_mem_take hz); omega
  have hYz : ∀ z ∈ Y, 0 ≤ z ∧ z ≤ 15 := fun z hz => by rw [hYt] at hz; have := HS5.out.ok z (List.mem_of_mem_take hz); omega
  have hMay : RunsMay (X ++ Y) := ⟨by rw [List.length_append]; omega, fun z hz => by
    rcases List.mem_append.1 hz with h | h
    · exact hXz z h
    · exact hYz z h⟩
  obtain ⟨xy, hxy⟩ : ∃ xy, xy = (X ++ Y).length := ⟨_, rfl⟩
  have HCO : Hid (Calls Tryz.prog 100 #[.slice (some ⟨w7.heap.size, 0, none⟩) 2 2] (w7.alloc (.cells #[.slice A3 q1 c3, .slice A5 q2 c5] 63)) fun e w' => ∃ A8 c8, e = .returned (.slice A8 xy c8) ∧ OwnI w' A8 c8 (X ++ Y) ∧ Chg NoS w7 w') := by
    refine (concat2 w7 A3 A5 q1 q2 c3 c5 X Y hXl hYl (by omega) (HSX.out _ HX7.out) (HSY.out _ HY7.out)).mono ?_
    rintro e w' ⟨A8, c8, rfl, ho, hc, _⟩
    exact ⟨A8, c8, by rw [hxy], ho, ((Chg.refl NoS w7).alloc _).trans hc (fun _ _ h => h)⟩
  have hxyl : (X ++ Y).length = q1 + q2 := by rw [List.length_append, hXl, hYl]
  obtain ⟨R, hR⟩ : ∃ R, R = runsR (X ++ Y) := ⟨_, rfl⟩
  have hRk := runsR_ok (X ++ Y).length (X ++ Y) (Nat.le_refl _) hMay.2 []
  rw [← hR] at hRk
  have hRl : R.length ≤ 316 := by
    have h := adds_len R []
    rw [hRk.1, List.nil_append, hxyl] at h
    simp at h
    omega
  have hRa := hRk.2.all
  have HRU : Hid (∀ (Ar : Option Addr) (cr : Nat) (W : World), OwnI W Ar cr (X ++ Y) → Calls Tryz.prog 116 #[.slice Ar (X ++ Y).length cr] W (RunsTo W R)) := fun Ar cr W h => by
    rw [hR]
    exact runs_ok (X ++ Y) Ar cr W (src_own h) (own_cap7 h) hMay
  have HRR := keepf hR
  have HXL := keepf hXl
  have HYL := keepf hYl
  have HXE := keepf hX
  have HYE := keepf hY
  have HXZ := keepf hXz
  have HYZ := keepf hYz
  have HPQ := keepf (fun (W : World) (Ar : Option Addr) (cr : Nat) h1 h2 => pruns_ok B g gw (L ++ numBits false y1 5 ++ numBits false y2 5) S7 R Ar cr W h1 h2 hRa (by omega) (by rw [List.length_append, List.length_append, numBits_length, numBits_length]; omega))
  have HXY := keepf hxy
  rw [← hxy] at HRU
  clear hX hY hXl hYl hXt hYt hXz hYz hMay hR hRk hRa hxyl HX5 HO5 HB5 HP6 HM6
  clear hxy
  go_upto_region 7 with (first
    | (go_at_call 100; go_loud (refine HCO.out.mono ?_; rintro e w8 ⟨A8, c8, rfl, ho8, hc8⟩; have HO8 := keepf ho8; have HC8 := keepf hc8; clear ho8 hc8))
    | (go_at_call 116; go_loud (refine (HRU.out _ _ _ HO8.out).mono ?_; rintro e w9 ⟨A9, c9, rfl, ho9, hc9, _⟩; have HO9 := keepf ho9; have HC9 := keepf (HC8.out.trans hc9 (fun _ _ h => h)); clear ho9 hc9))
    | (go_at_call 115; go_loud (refine (HPQ.out _ _ _ (HP7.out.no HC9.out) HO9.out).mono ?_; rintro e wa ⟨rfl, cl, Sa, hsa, hpa, hma⟩; have HSA := keepf hsa; have HPA := keepf hpa; have HMA := keepf ((PMv.news HC9.out).trans hma); clear hsa hpa hma)))
  have hpa := HPA.out
  obtain ⟨fs, fd, hpf⟩ := hpa
  have hxa := HMA.out.own HP7.out HX7.out (by decide) (by decide) (by decide)
  have hya := HMA.out.own HP7.out HY7.out (by decide) (by decide) (by decide)
  have hba := HMA.out.blk HP7.out HB7.out (by decide) (by decide) (by decide)
  have hD1 := HS3.out
  have hD2 := HS5.out
  have hMX : May X := by rw [HXE.out]; exact trimL_may (fun z hz => by have := hD1.ok z hz; omega) hD1.room (by omega) (by have := HL3.out; omega) (by have := HL3.out; omega)
  have hMY : May Y := by rw [HYE.out]; exact trimL_may (fun z hz => by have := hD2.ok z hz; omega) hD2.room (by omega) (by have := HL5.out; omega) (by have := HL5.out; omega)
  have HCD := pcodes_ok B g gw _ Sa fs fd X Y A3 A5 c3 c5 wa hpf hMX (fun z hz => by have := HXZ.out z hz; omega) hMY (fun z hz => by have := HYZ.out z hz; omega) (by rw [HXL.out]; exact HSX.out _ hxa) (fun w' hm => by rw [HYL.out]; exact HSY.out _ (hm.own hpf.pd hya (by decide) (by decide) (by decide)))
  rw [HXL.out, HYL.out] at HCD
  have HCD := keepf HCD
  have HBA := keepf hba
  have HPF := keepf hpf
  have HOI := keepf (show OwnIs T X Y cl from ⟨⟨D1, hD1, HXE.out⟩, ⟨D2, hD2, HYE.out⟩, by rw [← HRR.out]; exact HSA.out⟩)
  clear hpf hxa hya hba hD1 hD2 hMX hMY
  go_wp2_with (go_at_call 111; refine HCD.out.mono ?_; rintro e wb ⟨ta, tb, rfl, hta, htb, hpb, hmb⟩; have bb := hmb.blk HPF.out.pd HBA.out (by decide) (by decide) (by decide); have u0 := bb.frozen 0; have u1 := bb.frozen 1; have v0 := bb.cell 0; have v1 := bb.cell 1; simp at v0 v1; have HBB := keepf bb; have HTA := keepf hta; have HTB := keepf htb; have HPB := keepf hpb; have HMB := keepf (HM5.out.trans (HM7.out.trans (HMA.out.trans hmb))); clear bb hta htb hpb hmb)
  have hb4 := HBB.out.set_ 0 (.pointer (some ⟨ta, 0, none⟩))
  have hb5 := hb4.set_ 1 (.pointer (some ⟨tb, 0, none⟩))
  have q2 := hb5.cell 0
  have q3 := hb5.cell 1
  simp at q2 q3
  have hk1 := setK wb w.heap.size 0 (.pointer (some ⟨ta, 0, none⟩))
  have hk2 := setK (wb.setCell ⟨w.heap.size, 0, none⟩ (.pointer (some ⟨ta, 0, none⟩))) w.heap.size 1 (.pointer (some ⟨tb, 0, none⟩))
  have hfin := ((HPB.out.chgK HBB.out (by decide) (by decide) (by decide) (by decide) hk1).chgK hb4 (by decide) (by decide) (by decide) (by decide) hk2).pd
  have e1 : L ++ numBits false y1 5 ++ numBits false y2 5 ++ runsQ cl R = L ++ ownBits X Y cl := by
    rw [ownBits, HXL.out, HYL.out, ← HY1.out, ← HY2.out, ← HRR.out, List.append_assoc, List.append_assoc]
  rw [e1] at hfin
  refine bodyPost_ret (v := .agg #[.pointer (some ⟨ta, 0, none⟩), .pointer (some ⟨tb, 0, none⟩)]) (by simp [results, Tryz.results96, go_sem, q2, q3]) rfl
    ⟨X, Y, cl, ta, tb, Sa, rfl, HOI.out, (HTA.out.chgK HBB.out (by decide) hk1).chgK hb4 (by decide) hk2, (HTB.out.chgK HBB.out (by decide) hk1).chgK hb4 (by decide) hk2,
      hfin, (HMB.out.setNew (Nat.le_refl _) _ _).setNew (Nat.le_refl _) _ _⟩
end Go.Proofs.YtmmilchmnimjoaaGreat
/- A part's tokens, and the functions that write it by blocks of a kind. -/
namespace Go.Proofs.YtmmilchmnimjoaaGreat
open Go.RowKit
set_option linter.unusedVariables false
set_option linter.unusedSimpArgs false
structure TokIs (bs : List Nat) (T : List Tk) : Prop where
  ok : TokensOk bs T
theorem TokIs.nil {T : List Tk} (h : TokIs [] T) : T = [] := List.eq_nil_of_length_eq_zero (by have := h.ok.count; simpa using this)
structure PartSt (w : World) (x : Nat) (A : Option Addr) (c : Nat) (bs : List Nat) (V : Value) : Prop where
  blk : Blk w x 71 #[.slice A bs.length c, V]
  src : Src w 1 A bs.length c (ucells bs)
  cap : bs.length ≤ c
  told : V = .slice none 0 0 ∨ ∃ ad T c', V = .slice (some ad) T.length c' ∧ w.ownsRow 0 180 3 V T.length (kcells T) ∧ TokIs bs T
theorem PartSt.no {w w' : World} {x : Nat} {A : Option Addr} {c : Nat} {bs : List Nat} {V : Value} (h : PartSt w x A c bs V) (hc : Chg NoS w w') : PartSt w' x A c bs V :=
  ⟨h.blk.chg hc (fun e => e), h.src.below (w0 := w) hc, h.cap, by
    rcases h.told with h1 | ⟨ad, T, c', h1, h2, h3⟩
    · exact .inl h1
    · exact .inr ⟨ad, T, c', h1, own_chg h2 hc (fun _ _ e => e), h3⟩⟩
theorem PartSt.mv {w w' : World} {B g gw x : Nat} {L : List Bool} {S S' : Value} {A : Option Addr} {c : Nat} {bs : List Nat} {V : Value} (h : PartSt w x A c bs V) (hp : Pd w B g gw L S) (hm : PMv g gw w S w' S') (hA : ∀ ad, A = some ad → bs ≠ [] → ad.block < B) : PartSt w' x A c bs V :=
  ⟨hm.blk hp h.blk (by decide) (by decide) (by decide), hm.src hp h.src (fun ad had hne => hA ad had (fun e => hne (by rw [e]; rfl))), h.cap, by
    rcases h.told with h1 | ⟨ad, T, c', h1, h2, h3⟩
    · exact .inl h1
    · exact .inr ⟨ad, T, c', h1, hm.own hp h2 (by decide) (by decide) (by decide), h3⟩⟩
theorem src_chgK {w w' : World} {k n c : Nat} {A : Option Addr} {xs : List Value} {t : TypeId} {cs : Array Value} (h : Src w 1 A n c xs) (hc : Chg (fun i => i = k) w w') (hA : ∀ ad, A = some ad → xs ≠ [] → ad.block ≠ k) : Src w' 1 A n c xs := by
  refine ⟨h.1, h.2.1, fun ad had j u hu => ?_⟩
  have h1 := h.2.2 ad had j u hu
  have hb : (ad.add j).block = ad.block := by unfold Addr.add; split <;> rfl
  rw [hc.cell (cell_lt h1) (by rw [hb]; exact hA ad had (fun e => by subst e; simp at hu))]
  exact h1
theorem src_ne {w : World} {k n c : Nat} {A : Option Addr} {bs : List Nat} {t : TypeId} {V1 V2 : Value} (h : Src w 1 A n c (ucells bs)) (hk : Blk w k t #[V1, V2]) (h1 : ∀ x, V1 ≠ .int .u8 x) (h2 : ∀ x, V2 ≠ .int .u8 x) : ∀ ad, A = some ad → ucells bs ≠ [] → ad.block ≠ k := by
  rintro ad rfl hne rfl
  rcases bs with _ | ⟨b, bs⟩
  · exact hne rfl
  · obtain ⟨k, off, he, hcell⟩ := h.plain (by simp [ucells])
    simp only [Option.some.injEq] at he
    subst he
    have hc := hcell 0 (.int .u8 (b : Nat)) rfl
    rw [hk.cell] at hc
    match off, hc with
    | 0, hc => simp at hc; exact h1 _ hc
    | 1, hc => simp at hc; exact h2 _ hc
    | off + 2, hc => simp at hc
def ToksTo (w : World) (x : Nat) (A : Option Addr) (c : Nat) (bs : List Nat) (V : Value) (e : Ending) (w' : World) : Prop :=
  ∃ (T : List Tk) (A' : Option Addr) (c' : Nat), e = .returned (.slice A' T.length c') ∧ TokIs bs T ∧ w'.ownsRow 0 180 3 (.slice A' T.length c') T.length (kcells T) ∧ PartSt w' x A c bs (.slice A' T.length c') ∧ Chg (fun i => i = x) w w' ∧
    (∀ ad T' c'', V = .slice (some ad) T'.length c'' → w.ownsRow 0 180 3 V T'.length (kcells T') → TokIs bs T' → w'.ownsRow 0 180 3 V T'.length (kcells T') ∧ V = .slice A' T.length c')
theorem kcells_inj : ∀ {T T' : List Tk}, kcells T = kcells T' → T = T'
  | [], [], _ => rfl
  | [], t :: T', h => by simp [kcells, encT] at h
  | t :: T, [], h => by simp [kcells, encT] at h
  | ⟨b, l, f⟩ :: T, ⟨b', l', f'⟩ :: T', h => by
    have e : kcells (⟨b, l, f⟩ :: T) = .int .u8 (b : Nat) :: .int .i64 l :: .int .i64 f :: kcells T := rfl
    have e' : kcells (⟨b', l', f'⟩ :: T') = .int .u8 (b' : Nat) :: .int .i64 l' :: .int .i64 f' :: kcells T' := rfl
    rw [e, e'] at h
    simp only [List.cons.injEq, Value.int.injEq, true_and] at h
    obtain ⟨h1, h2, h3, h4⟩ := h
    have h5 := kcells_inj h4
    have h6 : b = b' := by omega
    subst h6 h2 h3 h5
    rfl
theorem own_same {w : World} {V : Value} {T T' : List Tk} {n : Nat} (h : w.ownsRow 0 180 3 V n (kcells T)) (h' : w.ownsRow 0 180 3 V n (kcells T')) : T = T' := by
  refine kcells_inj ?_
  have l1 := h.1
  have l2 := h'.1
  rcases h.2 with ⟨rfl, h0⟩ | ⟨g, cap, cur, rfl, hb, hh, h1, h2, h3, h4⟩
  · subst h0
    have e1 : kcells T = [] := List.eq_nil_of_length_eq_zero (by rw [l1])
    have e2 : kcells T' = [] := List.eq_nil_of_length_eq_zero (by rw [l2])
    rw [e1, e2]
  · rcases h'.2 with ⟨h', _⟩ | ⟨g', cap', cur', h', hb', hh', h1', h2', h3', h4'⟩
    · cases h'
    · simp only [Value.slice.injEq, Option.some.injEq, Addr.mk.injEq, and_true] at h'
      obtain ⟨rfl, _, rfl⟩ := h'
      have e := hh.symm.trans hh'
      obtain rfl : cur = cur' := by simpa using e
      rw [← h4, ← h4']
theorem eql_nil_nil {P : Program} (t e : TypeId) (w : World) (h : P.underlying t = some (.slice e)) : (binOp .eql t (.slice none 0 0) (.slice none 0 0)).run P w = .ok (.bool true) w := by
  simp only [binOp]
  simp [run_equal_slice_nil w t e none 0 0 h]
set_option maxHeartbeats 1000000 in
set_option maxRecDepth 100000 in
theorem ptokens_ok (x : Nat) (A : Option Addr) (c : Nat) (bs : List Nat) (V : Value) (w : World) (hp : PartSt w x A c bs V) (hb : ∀ b ∈ bs, b < 256) (hl : bs.length ≤ 16777216) :
    Calls Tryz.prog 93 #[.pointer (some ⟨x, 0, none⟩)] w (ToksTo w x A c bs V) := by
  have c0 := hp.blk.cell 0
  have c1 := hp.blk.cell 1
  have f1 := hp.blk.frozen 1
  simp at c0 c1
  rcases hp.told with rfl | ⟨ad, T, c', rfl, ho, ht⟩
  · have HTO := keepf (tokens_any bs A c w (show Src w 1 A bs.length c (ocells bs) from hp.src) hl hp.cap hb)
    have HP := keepf hp
    have hq := eql_nil_nil (P := Tryz.prog) 69 180 w Tryz.underlying69
    obtain ⟨n, hn⟩ : ∃ n, n = bs.length := ⟨_, rfl⟩
    rw [← hn] at c0 HTO
    have HN := keepf hn
    clear hp hb hn
    go_enter Tryz.func93, Tryz.ntmps93
    go_upto_region 3 with (go_at_call 110; go_loud (refine HTO.out.mono ?_; rintro e w2 ⟨T, A2, c2, rfl, hnt, hok, _⟩; have HNT := keepf hnt; have HOK := keepf (hok (by have := HN.out; omega)); have hb2 := HP.out.blk.chg hnt.2.1 (fun h => h); have d1 := hb2.cell 1; have g1 := hb2.frozen 1; simp at d1; have HB2 := keepf hb2; clear hnt hok hb2))
    obtain ⟨w3, hw3⟩ : ∃ w3, w3 = w2.setCell ⟨x, 1, none⟩ (.slice A2 T.length c2) := ⟨_, rfl⟩
    rw [← hw3]
    have hc3 : Chg (fun i => i = x) w2 w3 := by rw [hw3]; exact setK w2 x 1 _
    have hb3 := HB2.out.set_ 1 (.slice A2 T.length c2)
    rw [← hw3] at hb3
    have e1 := hb3.cell 1
    simp at e1
    have HB3 := keepf hb3
    have HC3 := keepf hc3
    clear hw3 hb3 hc3 d1 g1
    go_wp2_with fail
    go_ret
    have hno3 : w3.ownsRow 0 180 3 (.slice A2 T.length c2) T.length (kcells T) := own_chg HNT.out.1 HC3.out (fun i hi e => by subst e; exact own_ne_blk HNT.out.1 HB2.out (by decide) hi)
    have hsrc := (HP.out.src.below (w0 := w) HNT.out.2.1)
    refine ⟨T, A2, c2, rfl, ⟨HOK.out⟩, hno3, ⟨by have h := HB3.out; simpa using h, ?_, HP.out.cap, ?_⟩, (HNT.out.2.1.mono (fun _ _ e => e.elim)).trans HC3.out (fun _ _ e => e), fun ad T' c'' h => by cases h⟩
    · exact src_chgK (t := 71) (cs := #[]) hsrc HC3.out (src_ne hsrc HB2.out (fun _ h => by cases h) (fun _ h => by cases h))
    · rcases A2 with _ | a2
      · left
        rcases HNT.out.1.2 with ⟨h', h0⟩ | ⟨g', cap, cur, h', _⟩
        · simp only [Value.slice.injEq, true_and] at h'
          rw [h0, h'.2]
        · cases h'
      · exact .inr ⟨a2, T, c2, rfl, hno3, ⟨HOK.out⟩⟩
  · have hq := eql_slice_nil (P := Tryz.prog) 69 180 ad T.length c' w Tryz.underlying69
    have HP := keepf hp
    have HO := keepf ho
    have HT := keepf ht
    clear hp ho ht
    go_enter Tryz.func93, Tryz.ntmps93
    go_wp2_with fail
    go_ret
    exact ⟨T, some ad, c', rfl, HT.out, HO.out, HP.out, Chg.refl _ _, fun ad' T' c'' h h2 h3 => ⟨h2, rfl⟩⟩
end Go.Proofs.YtmmilchmnimjoaaGreat
/- What is packed unpacks again: plain mathematics of what the functions of a kind write. -/
namespace Go.Proofs.YtmmilchmnimjoaaGreat
open Go.RowKit
set_option linter.unusedVariables false
set_option linter.unusedSimpArgs false
theorem evT_ok {t : Tk} (h1 : t.b < 256) (h2 : t.wellB = true) : ∀ y ∈ evT t, EvIn y ∧ y.v < 2 ^ y.n ∧ y.n ≤ 16 := by
  intro y hy
  unfold evT at hy
  unfold Tk.wellB at h2
  by_cases h0 : t.l = 0
  · rw [if_pos h0] at hy
    rw [List.mem_singleton] at hy
    subst hy
    exact ⟨by unfold EvIn; simp only; show t.b < 286; omega, by simp, by simp⟩
  · rw [if_neg h0] at hy h2
    simp only [decide_eq_true_eq] at h2
    obtain ⟨a1, a2, a3, _⟩ := lsym_ok (x := t.l.toNat) (by omega) (by omega)
    obtain ⟨b1, b2, b3, _⟩ := dsym_ok (x := t.f.toNat) (by omega) (by omega)
    have c1 := (numL_all _ a1).2.2
    have c2 := (numD_all _ b1).2.2
    simp only [List.mem_cons, List.not_mem_nil, or_false] at hy
    rcases hy with rfl | rfl
    · exact ⟨by unfold EvIn; show 257 + lsym t.l.toNat < 286; omega, a3, by simp only; omega⟩
    · exact ⟨b1, b3, by simp only; omega⟩
theorem evs_ok {T : List Tk} (h : WellT T) : ∀ y ∈ evs T, EvIn y ∧ y.v < 2 ^ y.n ∧ y.n ≤ 16 := by
  intro y hy
  rcases List.mem_append.1 hy with hy | hy
  · obtain ⟨t, ht, hy⟩ := List.mem_flatMap.1 hy
    exact evT_ok (h t ht).1 (h t ht).2 y hy
  · rw [List.mem_singleton] at hy
    subst hy
    exact ⟨by unfold EvIn; decide, by decide, by decide⟩
theorem evT_len (t : Tk) : (evT t).length ≤ 2 := by unfold evT; split <;> simp
theorem evs_len (T : List Tk) : (evs T).length ≤ 2 * T.length + 1 := by
  have : ∀ T : List Tk, (T.flatMap evT).length ≤ 2 * T.length := by
    intro T
    induction T with
    | nil => simp
    | cons t T ih => rw [List.flatMap_cons, List.length_append, List.length_cons]; have := evT_len t; omega
  have h := this T
  unfold evs
  rw [List.length_append, List.length_singleton]
  omega
theorem fix_evOk {T : List Tk} (h : WellT T) : ∀ y ∈ evs T, EvOk fixS fixD y := by
  intro y hy
  obtain ⟨h1, h2, h3⟩ := evs_ok h y hy
  have hs : ∀ s : Nat, s < 286 → lenAt fixS s ≠ 0 := by decide +kernel
  have hd : ∀ s : Nat, s < 30 → lenAt fixD s ≠ 0 := by decide +kernel
  have ls : fixS.length = 288 := by decide +kernel
  have ld : fixD.length = 30 := by decide +kernel
  unfold EvIn at h1
  cases hd2 : y.d with
  | true =>
    rw [hd2] at h1
    simp only [if_true] at h1
    exact ⟨by rw [hd2, if_pos rfl, ld]; exact h1, by rw [hd2, if_pos rfl]; exact hd _ h1, h2, h3⟩
  | false =>
    rw [hd2] at h1
    have h1 : y.s < 286 := by simpa using h1
    exact ⟨by rw [hd2, if_neg (by simp), ls]; omega, by rw [hd2, if_neg (by simp)]; exact hs _ h1, h2, h3⟩
theorem cntOf_pos {ys : List Ev} {y : Ev} (h : y ∈ ys) : 0 < cntOf y.d y.s ys := by
  unfold cntOf
  exact List.length_pos_iff.2 (List.ne_nil_of_mem (List.mem_filter.2 ⟨h, by simp⟩))
theorem trim_has {d : Bool} {N least most s : Nat} {ys : List Ev} {D : List Int} (h : SuitL (cntL d N ys) most D) (hs : s < N) (hc : 0 < cntOf d s ys) : s < (trimL D least).length ∧ lenAt (trimL D least) s ≠ 0 := by
  have h1 := (h.pos s (by rw [cntL_len]; exact hs)).2 (by rw [cntL_get ys hs]; omega)
  rw [← trimL_get (least := least)] at h1
  refine ⟨?_, by unfold lenAt; omega⟩
  rcases Nat.lt_or_ge s (trimL D least).length with h2 | h2
  · exact h2
  · rw [List.getD_eq_getElem?_getD, List.getElem?_eq_none h2] at h1
    simp at h1
theorem own_evOk {T : List Tk} {X Y cl : List Int} (h : WellT T) (ho : OwnIs T X Y cl) : ∀ y ∈ evs T, EvOk X Y y := by
  intro y hy
  obtain ⟨h1, h2, h3⟩ := evs_ok h y hy
  obtain ⟨D, hD, rfl⟩ := ho.x
  obtain ⟨E, hE, rfl⟩ := ho.y
  have hc := cntOf_pos hy
  unfold EvIn at h1
  cases hd2 : y.d with
  | true =>
    rw [hd2] at h1 hc
    simp only [if_true] at h1
    obtain ⟨a, b⟩ := trim_has (least := 1) hE h1 hc
    exact ⟨by rw [hd2]; exact a, by rw [hd2]; exact b, h2, h3⟩
  | false =>
    rw [hd2] at h1 hc
    have h1 : y.s < 286 := by simpa using h1
    obtain ⟨a, b⟩ := trim_has (least := 257) hD h1 hc
    exact ⟨by rw [hd2]; exact a, by rw [hd2]; exact b, h2, h3⟩
theorem numBits_zero (b : Bool) (v : Nat) : numBits b v 0 = [] := List.eq_nil_of_length_eq_zero (numBits_length ..)
theorem laid_tok {L : List Bool} {ls ds : List Int} {a : Nat} {t : Tk} (hM : May ls) (hD : May ds) (h1 : t.b < 256) (h2 : t.wellB = true) (he : ∀ y ∈ evT t, EvOk ls ds y) (h : Lies L a ((evT t).flatMap (evBits ls ds))) :
    Laid1 L ls ds a t (a + ((evT t).flatMap (evBits ls ds)).length) := by
  obtain ⟨b, l, f⟩ := t
  unfold Tk.wellB at h2
  by_cases h0 : l = 0
  · subst h0
    simp only [if_true, decide_eq_true_eq] at h2
    subst h2
    have e : evT ⟨b, 0, 0⟩ = [⟨false, b, 0, 0⟩] := rfl
    rw [e] at h he ⊢
    have hy := he _ (List.mem_singleton.2 rfl)
    have e2 : ([⟨false, b, 0, 0⟩] : List Ev).flatMap (evBits ls ds) = codeBits ls b := by
      rw [List.flatMap_singleton, evBits]
      simp [numBits_zero]
    rw [e2] at h ⊢
    rw [codeBits_len]
    exact .lit h1 ⟨hM, by simpa using hy.lt, by simpa using hy.has⟩ h
  · simp only at h2 h1
    rw [if_neg h0] at h2
    simp only [decide_eq_true_eq] at h2
    obtain ⟨l, rfl⟩ := Int.eq_ofNat_of_zero_le (show 0 ≤ l by omega)
    obtain ⟨f, rfl⟩ := Int.eq_ofNat_of_zero_le (show 0 ≤ f by omega)
    obtain ⟨_, _, _, _, rfl⟩ := h2
    obtain ⟨a1, a2, a3, _⟩ := lsym_ok (x := l) (by omega) (by omega)
    obtain ⟨b1, b2, b3, _⟩ := dsym_ok (x := f) (by omega) (by omega)
    have c1 := (numL_all _ a1).1
    have c2 := (numD_all _ b1).1
    have e : evT ⟨0, l, f⟩ = [⟨false, 257 + lsym l, l - numL (lsym l), bitL (lsym l)⟩, ⟨true, dsym f, f - numD (dsym f), bitD (dsym f)⟩] := by
      unfold evT
      simp only
      rw [if_neg h0, Int.toNat_natCast, Int.toNat_natCast]
    rw [e] at h he ⊢
    have y1 := he _ (List.mem_cons_self ..)
    have y2 := he _ (List.mem_cons_of_mem _ (List.mem_singleton.2 rfl))
    have e2 : ([⟨false, 257 + lsym l, l - numL (lsym l), bitL (lsym l)⟩, ⟨true, dsym f, f - numD (dsym f), bitD (dsym f)⟩] : List Ev).flatMap (evBits ls ds) =
        codeBits ls (257 + lsym l) ++ (numBits false (l - numL (lsym l)) (bitL (lsym l)) ++ (codeBits ds (dsym f) ++ numBits false (f - numD (dsym f)) (bitD (dsym f)))) := by
      simp [evBits]
    rw [e2] at h ⊢
    have hr := Laid1.rep c1 a3 ⟨hM, by simpa using y1.lt, by simpa using y1.has⟩ c2 b3 ⟨hD, by simpa using y2.lt, by simpa using y2.has⟩ h
    rw [show numL (lsym l) + (l - numL (lsym l)) = l from by omega, show numD (dsym f) + (f - numD (dsym f)) = f from by omega] at hr
    have el : a + (codeBits ls (257 + lsym l) ++ (numBits false (l - numL (lsym l)) (bitL (lsym l)) ++ (codeBits ds (dsym f) ++ numBits false (f - numD (dsym f)) (bitD (dsym f))))).length = a + lenAt ls (257 + lsym l) + bitL (lsym l) + lenAt ds (dsym f) + bitD (dsym f) := by
      rw [List.length_append, List.length_append, List.length_append, codeBits_len, codeBits_len, numBits_length, numBits_length]
      omega
    rw [el]
    exact hr
theorem laid_toks {L : List Bool} {ls ds : List Int} (hM : May ls) (hD : May ds) : ∀ (T : List Tk) (a : Nat), WellT T → (∀ y ∈ T.flatMap evT, EvOk ls ds y) → Lies L a ((T.flatMap evT).flatMap (evBits ls ds)) →
    LaidAll L ls ds a T (a + ((T.flatMap evT).flatMap (evBits ls ds)).length)
  | [], a, _, _, _ => .nil a
  | t :: T, a, hT, he, h => by
    rw [List.flatMap_cons, List.flatMap_append] at h ⊢
    have h1 := laid_tok hM hD (hT t (List.mem_cons_self ..)).1 (hT t (List.mem_cons_self ..)).2 (fun y hy => he y (by rw [List.flatMap_cons]; exact List.mem_append_left _ hy)) h.left
    have h2 := laid_toks hM hD T _ (fun x hx => hT x (List.mem_cons_of_mem _ hx)) (fun y hy => he y (by rw [List.flatMap_cons]; exact List.mem_append_right _ hy)) h.right
    rw [List.length_append, ← Nat.add_assoc]
    exact .cons h1 h2
theorem repL_pre (pre : List Nat) {far : Nat} (h1 : 1 ≤ far) : ∀ (n : Nat) (out : List Nat), far ≤ out.length → repL far n (pre ++ out) = pre ++ repL far n out
  | 0, out, _ => rfl
  | n + 1, out, h => by
    have e : (pre ++ out).getD ((pre ++ out).length - far) 0 = out.getD (out.length - far) 0 := by
      rw [List.getD_eq_getElem?_getD, List.getD_eq_getElem?_getD, List.length_append, List.getElem?_append_right (by omega)]
      congr 2
      omega
    rw [repL, repL, e, List.append_assoc, repL_pre pre h1 n (out ++ [_]) (by simp; omega)]
theorem put_pre (pre : List Nat) {t : Tk} {out : List Nat} (hw : t.wellB = true) (hf : t.f ≤ out.length) : t.put (pre ++ out) = pre ++ t.put out := by
  unfold Tk.put
  unfold Tk.wellB at hw
  split
  · rw [List.append_assoc]
  · rename_i h0
    rw [if_neg h0] at hw
    simp only [decide_eq_true_eq] at hw
    exact repL_pre pre (by omega) _ _ (by omega)
theorem runT_pre2 {m most : Int} (pre : List Nat) : ∀ (T : List Tk) (out r : List Nat), runT m T out = .ok r → (out.length : Int) ≤ m → (pre.length : Int) + r.length ≤ most → runT most T (pre ++ out) = .ok (pre ++ r)
  | [], out, r, h, _, _ => by cases h; rfl
  | t :: T, out, r, h, hm, hl => by
    rw [runT] at h
    split at h
    · rename_i he
      obtain ⟨h1, h2, h3⟩ := err_ok he
      have h4 := t.put_len out h1
      have h5 := (runT_le T _ r h (by omega)).2
      have he2 : t.err (pre ++ out).length most = 0 := by
        unfold Tk.err
        rw [if_neg (by simp [h1]), if_neg (by rw [List.length_append]; omega), if_neg (by rw [List.length_append]; omega)]
      rw [runT, if_pos he2, put_pre pre h1 h2]
      exact runT_pre2 pre T _ r h (by omega) hl
    · cases h
theorem coded_leads {L : List Bool} {ls ds : List Int} {T : List Tk} {bs out : List Nat} {a most last : Nat} (hM : May ls) (hD : May ds) (hT : TokIs bs T) (he : ∀ y ∈ evs T, EvOk ls ds y) (h : Lies L a ((evs T).flatMap (evBits ls ds)))
    (hm : out.length + bs.length ≤ most) : Leads (bytesOf false L) most ⟨a, out, .coded ls ds last⟩ ⟨a + ((evs T).flatMap (evBits ls ds)).length, out ++ bs, .plain 0 last⟩ := by
  have hw := hT.ok.well
  have e : (evs T).flatMap (evBits ls ds) = (T.flatMap evT).flatMap (evBits ls ds) ++ codeBits ls 256 := by
    rw [evs, List.flatMap_append, List.flatMap_singleton]
    congr 1
    simp [evEnd, evBits, numBits_zero]
  rw [e] at h ⊢
  have h1 := laid_toks hM hD T a hw (fun y hy => he y (List.mem_append_left _ hy)) h.left
  have hr := runT_pre2 (most := (most : Nat)) out T [] bs hT.ok.run (by simp) (by omega)
  rw [List.append_nil] at hr
  have hend := he evEnd (List.mem_append_right _ (List.mem_singleton.2 rfl))
  have h2 := eob_leads (ds := ds) (most := most) (last := last) (out := out ++ bs) ⟨hM, by simpa [evEnd] using hend.lt, by simpa [evEnd] using hend.has⟩ h.right
  rw [List.length_append, codeBits_len, ← Nat.add_assoc]
  exact (toks_leads last h1 hr).trans h2
end Go.Proofs.YtmmilchmnimjoaaGreat
/- What a part's blocks are, and that they unpack: plain mathematics. -/
namespace Go.Proofs.YtmmilchmnimjoaaGreat
open Go.RowKit
set_option linter.unusedVariables false
set_option linter.unusedSimpArgs false
inductive Wrote : Nat → Bool → List Nat → List Bool → List Bool → Prop
  | stored (last : Bool) (bs : List Nat) (L : List Bool) : Wrote 0 last bs L (storedL last bs L)
  | fixed (last : Bool) (bs : List Nat) (L : List Bool) (T : List Tk) (h : TokIs bs T) : Wrote 1 last bs L (L ++ headBits last 1 ++ (evs T).flatMap (evBits fixS fixD))
  | own (last : Bool) (bs : List Nat) (L : List Bool) (T : List Tk) (X Y cl : List Int) (h : TokIs bs T) (ho : OwnIs T X Y cl) : Wrote 2 last bs L (L ++ headBits last 2 ++ ownBits X Y cl ++ (evs T).flatMap (evBits X Y))
theorem lies_at {A C M : List Bool} : Lies (A ++ C ++ M) A.length C := (Lies.put A C).more
theorem lies_of {L A C : List Bool} (h : ∃ M, L = A ++ C ++ M) : Lies L A.length C := by
  obtain ⟨M, rfl⟩ := h
  exact lies_at
theorem block_leads {last : Bool} {bs : List Nat} {L0 M : List Bool} {most : Nat} {out : List Nat} (hb : ∀ x ∈ bs, x < 256) (hl : bs.length ≤ 65535) (hm : out.length + bs.length ≤ most) :
    Leads (bytesOf false (blockL last bs L0 ++ M)) most ⟨L0.length, out, .head⟩ ⟨(blockL last bs L0).length, out ++ bs, .plain 0 last.toNat⟩ := by
  have hh : Lies (blockL last bs L0 ++ M) L0.length (headBits last 0) := lies_of ⟨padOf (L0 ++ headBits last 0).length ++ (numBits false bs.length 16 ++ (numBits false (bs.length ^^^ 65535) 16 ++ (byteBits bs ++ M))), by simp [blockL, alignL, List.append_assoc]⟩
  have h1 := head_stored (most := most) (out := out) (last := last.toNat) (by cases last <;> decide) hh
  have hal := alignL_len (L0 ++ headBits last 0)
  rw [List.length_append, headBits_len] at hal
  have h2 : Lies (blockL last bs L0 ++ M) ((L0.length + 3 + 7) / 8 * 8) (numBits false bs.length 16 ++ numBits false (bs.length ^^^ 65535) 16) := by
    rw [← hal]
    exact lies_of ⟨byteBits bs ++ M, by simp [blockL, List.append_assoc]⟩
  have h3 := stored_leads (most := most) (out := out) (last := last.toNat) (show bs.length < 65536 by omega) h2
  have h4 : Lies (blockL last bs L0 ++ M) ((L0.length + 3 + 7) / 8 * 8 + 32) (bs.flatMap fun x => numBits false x 8) := by
    have e : (L0.length + 3 + 7) / 8 * 8 + 32 = (alignL (L0 ++ headBits last 0) ++ numBits false bs.length 16 ++ numBits false (bs.length ^^^ 65535) 16).length := by
      rw [List.length_append, List.length_append, numBits_length, numBits_length, hal]
    rw [e]
    exact lies_of ⟨M, rfl⟩
  have h5 := plain_leads (most := most) (last := last.toNat) bs _ out hb h4 hm
  have e : (L0.length + 3 + 7) / 8 * 8 + 32 + 8 * bs.length = (blockL last bs L0).length := by rw [blockL_len]
  rw [e] at h5
  exact (h1.trans h3).trans h5
theorem blockL_pre (last : Bool) (bs : List Nat) (L : List Bool) : L <+: blockL last bs L := ⟨_, by rw [blockL, alignL]; simp only [List.append_assoc]; rfl⟩
theorem storedL_pre (last : Bool) : ∀ (m : Nat) (bs : List Nat) (L : List Bool), bs.length ≤ m → L <+: storedL last bs L
  | 0, bs, L, h => by
    rw [storedL, dif_pos (by omega)]
    exact blockL_pre ..
  | m + 1, bs, L, h => by
    rw [storedL]
    split
    · exact blockL_pre ..
    · exact (blockL_pre ..).trans (storedL_pre last m _ _ (by simp; omega))
theorem stored_all (last : Bool) {M : List Bool} {most : Nat} : ∀ (m : Nat) (bs : List Nat) (L0 : List Bool) (out : List Nat), bs.length ≤ m → (∀ x ∈ bs, x < 256) → out.length + bs.length ≤ most →
    Leads (bytesOf false (storedL last bs L0 ++ M)) most ⟨L0.length, out, .head⟩ ⟨(storedL last bs L0).length, out ++ bs, .plain 0 last.toNat⟩
  | 0, bs, L0, out, h, hb, hm => by
    rw [storedL, dif_pos (by omega)]
    exact block_leads hb (by omega) hm
  | m + 1, bs, L0, out, h, hb, hm => by
    rw [storedL]
    split
    · rename_i h1
      exact block_leads hb h1 hm
    · rename_i h1
      have htl : (bs.take 65535).length = 65535 := by rw [List.length_take]; omega
      obtain ⟨N, hN⟩ := storedL_pre last m (bs.drop 65535) (blockL false (bs.take 65535) L0) (by simp; omega)
      have i1 := block_leads (last := false) (bs := bs.take 65535) (L0 := L0) (M := N ++ M) (most := most) (out := out) (fun x hx => hb x (List.mem_of_mem_take hx)) (by omega) (by omega)
      rw [← List.append_assoc, hN] at i1
      have i2 := stored_all last (M := M) (most := most) m (bs.drop 65535) (blockL false (bs.take 65535) L0) (out ++ bs.take 65535) (by simp; omega) (fun x hx => hb x (List.mem_of_mem_drop hx)) (by rw [List.length_append, List.length_drop]; omega)
      rw [List.append_assoc, List.take_append_drop] at i2
      exact (i1.trans next_leads).trans i2
theorem runs_leads {L : List Bool} {cl : List Int} {n ns last most : Nat} {out : List Nat} (hM : May cl) (hl : cl.length = 19) (hhas : ∀ s, 0 < cl.getD s 0 ∨ True) : ∀ (R : List Rn) (l : List Int) (a : Nat), RunsOk l R → (∀ r ∈ R, lenAt cl r.1 ≠ 0) → Lies L a (bodyQ cl R) → (adds l R).length ≤ n →
    Leads (bytesOf false L) most ⟨a, out, .lens cl l n ns last⟩ ⟨a + (bodyQ cl R).length, out, .lens cl (adds l R) n ns last⟩
  | [], l, a, _, _, _, _ => by simpa [bodyQ, adds] using Leads.refl _
  | r :: R, l, a, hr, hh, h, hn => by
    have e : bodyQ cl (r :: R) = (codeBits cl r.1 ++ numBits false r.2 (runBits r.1)) ++ bodyQ cl R := by simp [bodyQ]
    rw [e] at h ⊢
    have e2 : adds l (r :: R) = adds (runAdds l r.1 r.2) R := rfl
    rw [e2] at hn ⊢
    have hp := (adds_pre R (runAdds l r.1 r.2)).length_le
    have s1 := run_leads (most := most) (out := out) (last := last) (ns := ns) (n := n) ⟨hM, by rw [hl]; have := hr.1; omega, hh r (List.mem_cons_self ..)⟩ hr.2.1 h.left hr.2.2.1 (by omega)
    have hR := h.right
    rw [List.length_append, codeBits_len, numBits_length, ← Nat.add_assoc] at hR
    have s2 := runs_leads (most := most) (out := out) (last := last) (ns := ns) (n := n) hM hl hhas R _ _ hr.2.2.2 (fun x hx => hh x (List.mem_cons_of_mem _ hx)) hR hn
    have el : a + ((codeBits cl r.1 ++ numBits false r.2 (runBits r.1)) ++ bodyQ cl R).length = a + lenAt cl r.1 + runBits r.1 + (bodyQ cl R).length := by
      rw [List.length_append, List.length_append, codeBits_len, numBits_length]
      omega
    rw [el]
    exact s1.trans s2
theorem foldl_get (c : Nat → Nat) : ∀ (todo : List Nat) (l : List Int) (i : Nat), (∀ s ∈ todo, s < l.length) → (todo.foldl (fun l s => l.set s (c s : Nat)) l).getD i 0 = (if i ∈ todo then (c i : Int) else l.getD i 0) ∧ (todo.foldl (fun l s => l.set s (c s : Nat)) l).length = l.length
  | [], l, i, _ => by simp
  | s :: todo, l, i, h => by
    rw [List.foldl_cons]
    obtain ⟨h1, h2⟩ := foldl_get c todo (l.set s (c s : Nat)) i (fun x hx => by rw [List.length_set]; exact h x (List.mem_cons_of_mem _ hx))
    refine ⟨?_, by rw [h2, List.length_set]⟩
    rw [h1]
    by_cases hi : i ∈ todo
    · rw [if_pos hi, if_pos (List.mem_cons_of_mem _ hi)]
    · rw [if_neg hi]
      by_cases he : i = s
      · subst he
        rw [if_pos (List.mem_cons_self ..), List.getD_eq_getElem?_getD, List.getElem?_set_self (h i (List.mem_cons_self ..))]
        rfl
      · rw [if_neg (by simp [he, hi]), List.getD_eq_getElem?_getD, List.getElem?_set_ne (by omega), ← List.getD_eq_getElem?_getD]
theorem told_all {cl : List Int} (hl : cl.length = 19) (h0 : ∀ z ∈ cl, 0 ≤ z) : (order.take (trimN (ordL cl) 4 19)).foldl (fun l s => l.set s (((cl.getD s 0).toNat : Nat) : Int)) (List.replicate 19 0) = cl := by
  have hlt : ∀ s ∈ order, s < 19 := by decide
  refine List.ext_getElem ?_ (fun i h1 h2 => ?_)
  · rw [(foldl_get (fun s => (cl.getD s 0).toNat) _ _ 0 (fun s hs => by simpa using hlt s (List.mem_of_mem_take hs))).2, hl]
    simp
  · obtain ⟨h3, h4⟩ := foldl_get (fun s => (cl.getD s 0).toNat) (order.take (trimN (ordL cl) 4 19)) (List.replicate 19 0) i (fun s hs => by simpa using hlt s (List.mem_of_mem_take hs))
    have hz : cl.getD i 0 = cl[i] := by simp [List.getD_eq_getElem?_getD, h2]
    have e : ((order.take (trimN (ordL cl) 4 19)).foldl (fun l s => l.set s (((cl.getD s 0).toNat : Nat) : Int)) (List.replicate 19 0)).getD i 0 = cl.getD i 0 := by
      rw [h3]
      have hpos := h0 _ (List.getElem_mem h2)
      split
      · rw [hz]
        omega
      · rename_i hn
        have hio : i ∈ order := by
          have : ∀ i : Nat, i < 19 → i ∈ order := by decide
          exact this i (by omega)
        obtain ⟨j, hj, hji⟩ := List.getElem_of_mem hio
        have hj19 : j < 19 := by simpa [order] using hj
        have hjn : trimN (ordL cl) 4 19 ≤ j := by
          refine Nat.le_of_not_lt (fun hlt2 => hn ?_)
          rw [List.mem_take_iff_getElem]
          exact ⟨j, by simp [order]; omega, hji⟩
        have h5 := trimN_zero (ordL cl) 4 19 j hjn hj19
        have h6 : (ordL cl).getD j 0 = cl.getD i 0 := by
          have : order[j]? = some i := by rw [List.getElem?_eq_getElem hj, hji]
          simp [ordL, List.getD_eq_getElem?_getD, this]
        rw [← h6, h5, List.getD_eq_getElem?_getD, List.getElem?_replicate]
        split <;> rfl
    rw [hz] at e
    rw [← e, List.getD_eq_getElem?_getD, List.getElem?_eq_getElem h1]
    rfl
theorem ownHead_leads {L : List Bool} {T : List Tk} {X Y cl : List Int} {a most last : Nat} {out : List Nat} (ho : OwnIs T X Y cl) (h : Lies L a (ownBits X Y cl)) :
    Leads (bytesOf false L) most ⟨a, out, .own last⟩ ⟨a + (ownBits X Y cl).length, out, .coded X Y last⟩ := by
  obtain ⟨hMX, hMY, x1, x2, y1, y2⟩ := ho.may
  have hc := ho.c
  have hcl : cl.length = 19 := by have := hc.len; rw [cntRL_len] at this; exact this
  have hMc : May cl := ⟨by omega, by omega, fun z hz => by have := hc.ok z hz; omega, hc.room⟩
  have hxz : ∀ z ∈ X ++ Y, 0 ≤ z ∧ z ≤ 15 := fun z hz => by
    rcases List.mem_append.1 hz with h | h
    · exact hMX.2.2.1 z h
    · exact hMY.2.2.1 z h
  have hR := runsR_ok (X ++ Y).length (X ++ Y) (Nat.le_refl _) hxz []
  rw [List.nil_append] at hR
  obtain ⟨q, hq⟩ : ∃ q, q = trimN (ordL cl) 4 19 := ⟨_, rfl⟩
  have hq1 : 4 ≤ q ∧ q ≤ 19 := by rw [hq]; exact ⟨trimN_ge _ _ _ (by omega), trimN_le _ _ _⟩
  have htold := told_all hcl (fun z hz => (hc.ok z hz).1)
  rw [← hq] at htold
  have hfm : (trimL (ordL cl) 4).flatMap (fun z => numBits false z.toNat 3) = (order.take q).flatMap (fun s => numBits false (cl.getD s 0).toNat 3) := by
    rw [trimL, ordL_len, ← hq, ordL, ← List.map_take, List.flatMap_map]
  have eb : ownBits X Y cl = (numBits false (X.length - 257) 5 ++ (numBits false (Y.length - 1) 5 ++ numBits false (q - 4) 4)) ++ ((order.take q).flatMap (fun s => numBits false (cl.getD s 0).toNat 3) ++ bodyQ cl (runsR (X ++ Y))) := by
    rw [ownBits, runsQ, headQ, hfm, ← hq]
    simp only [List.append_assoc]
  rw [eb] at h ⊢
  have s1 := own_leads (most := most) (last := last) (out := out) (show X.length - 257 ≤ 29 by omega) (show Y.length - 1 ≤ 29 by omega) (show q - 4 < 16 by omega) h.left
  have h2 := h.right
  rw [List.length_append, List.length_append, numBits_length, numBits_length, numBits_length] at h2
  have h2 : Lies L (a + 14) ((order.take q).flatMap (fun s => numBits false (cl.getD s 0).toNat 3) ++ bodyQ cl (runsR (X ++ Y))) := h2
  have hto : (order.take q).length = q := by rw [List.length_take]; simp [order]; omega
  have s2 := kinds_leads (most := most) (last := last) (out := out) (n := 257 + (X.length - 257) + (1 + (Y.length - 1))) (ns := 257 + (X.length - 257)) (fun s => (cl.getD s 0).toNat) (fun s => by
    rcases Nat.lt_or_ge s cl.length with hs | hs
    · have e : cl.getD s 0 = cl[s] := by simp [List.getD_eq_getElem?_getD, hs]
      have := hc.ok _ (List.getElem_mem hs)
      rw [e]
      omega
    · simp [List.getD_eq_getElem?_getD, List.getElem?_eq_none hs]) (order.take q) (List.replicate 19 0) (a + 14) h2.left
  rw [htold, hto] at s2
  have e4 : 4 + (q - 4) = q := by omega
  rw [e4] at s1
  have s3 := kinds_end (L := L) (most := most) (a := a + 14 + 3 * q) (last := last) (out := out) (n := 257 + (X.length - 257) + (1 + (Y.length - 1))) (ns := 257 + (X.length - 257)) hMc
  have hl3 : ((order.take q).flatMap (fun s => numBits false (cl.getD s 0).toNat 3)).length = 3 * q := by
    have : ∀ l : List Nat, (l.flatMap (fun s => numBits false (cl.getD s 0).toNat 3)).length = 3 * l.length := by
      intro l
      induction l with
      | nil => rfl
      | cons y l ih => rw [List.flatMap_cons, List.length_append, ih, numBits_length, List.length_cons]; omega
    rw [this, hto]
  have h3 := h2.right
  rw [hl3] at h3
  have s4 := runs_leads (most := most) (last := last) (out := out) (n := 257 + (X.length - 257) + (1 + (Y.length - 1))) (ns := 257 + (X.length - 257)) hMc hcl (fun _ => .inr trivial) (runsR (X ++ Y)) [] (a + 14 + 3 * q) hR.2
    (fun r hr => suit_has hc (by rw [cntRL_len]; have := hR.2.all r hr; omega) (by rw [cntRL_get _ (by have := hR.2.all r hr; omega)]; have := cntR_pos hr; omega)) h3 (by rw [hR.1, List.length_append]; omega)
  rw [hR.1] at s4
  have h256 : (X ++ Y).getD 256 0 ≠ 0 := by
    obtain ⟨D, hD, rfl⟩ := ho.x
    have hm : evEnd ∈ evs T := List.mem_append_right _ (List.mem_singleton.2 rfl)
    have hp := cntOf_pos hm
    obtain ⟨e1, e2⟩ := trim_has (least := 257) hD (s := 256) (by omega) hp
    rw [List.getD_eq_getElem?_getD, List.getElem?_append_left e1, ← List.getD_eq_getElem?_getD]
    unfold lenAt at e2
    omega
  have ens : 257 + (X.length - 257) = X.length := by omega
  have htk : (X ++ Y).take (257 + (X.length - 257)) = X := by rw [ens, List.take_left]
  have hdr : (X ++ Y).drop (257 + (X.length - 257)) = Y := by rw [ens, List.drop_left]
  have s5 := lens_end (L := L) (most := most) (a := a + 14 + 3 * q + (bodyQ cl (runsR (X ++ Y))).length) (last := last) (out := out) (cl := cl) (l := X ++ Y) (n := 257 + (X.length - 257) + (1 + (Y.length - 1))) (ns := 257 + (X.length - 257)) (by rw [List.length_append]; omega) h256 (by rw [htk]; exact hMX) (by rw [hdr]; exact hMY)
  rw [htk, hdr] at s5
  have el : a + ((numBits false (X.length - 257) 5 ++ (numBits false (Y.length - 1) 5 ++ numBits false (q - 4) 4)) ++ ((order.take q).flatMap (fun s => numBits false (cl.getD s 0).toNat 3) ++ bodyQ cl (runsR (X ++ Y)))).length = a + 14 + 3 * q + (bodyQ cl (runsR (X ++ Y))).length := by
    rw [List.length_append, List.length_append, List.length_append, List.length_append, numBits_length, numBits_length, numBits_length, hl3]
    omega
  rw [el]
  exact (((s1.trans s2).trans s3).trans s4).trans s5
theorem wrote_leads {k : Nat} {last : Bool} {bs : List Nat} {L L' M : List Bool} {most : Nat} {out : List Nat} (h : Wrote k last bs L L') (hb : ∀ x ∈ bs, x < 256) (hm : out.length + bs.length ≤ most) :
    Leads (bytesOf false (L' ++ M)) most ⟨L.length, out, .head⟩ ⟨L'.length, out ++ bs, .plain 0 last.toNat⟩ := by
  cases h with
  | stored => exact stored_all last bs.length bs L out (Nat.le_refl _) hb hm
  | fixed _ _ _ T hT =>
    have h1 : Lies (L ++ headBits last 1 ++ (evs T).flatMap (evBits fixS fixD) ++ M) L.length (headBits last 1) := lies_of ⟨(evs T).flatMap (evBits fixS fixD) ++ M, by simp only [List.append_assoc]⟩
    have h2 : Lies (L ++ headBits last 1 ++ (evs T).flatMap (evBits fixS fixD) ++ M) (L ++ headBits last 1).length ((evs T).flatMap (evBits fixS fixD)) := lies_of ⟨M, rfl⟩
    have s1 := head_fixed (most := most) (out := out) (last := last.toNat) (by cases last <;> decide) h1
    have s2 := coded_leads (most := most) (out := out) (bs := bs) (last := last.toNat) fixS_may fixD_may hT (fix_evOk hT.ok.well) h2 hm
    rw [List.length_append, headBits_len] at s2
    have e : (L ++ headBits last 1 ++ (evs T).flatMap (evBits fixS fixD)).length = L.length + 3 + ((evs T).flatMap (evBits fixS fixD)).length := by rw [List.length_append, List.length_append, headBits_len]
    rw [e]
    exact s1.trans s2
  | own _ _ _ T X Y cl hT ho =>
    have hw := hT.ok.well
    obtain ⟨hMX, hMY, _⟩ := ho.may
    have h1 : Lies (L ++ headBits last 2 ++ ownBits X Y cl ++ (evs T).flatMap (evBits X Y) ++ M) L.length (headBits last 2) := lies_of ⟨ownBits X Y cl ++ ((evs T).flatMap (evBits X Y) ++ M), by simp only [List.append_assoc]⟩
    have h2 : Lies (L ++ headBits last 2 ++ ownBits X Y cl ++ (evs T).flatMap (evBits X Y) ++ M) (L ++ headBits last 2).length (ownBits X Y cl) := lies_of ⟨(evs T).flatMap (evBits X Y) ++ M, by simp only [List.append_assoc]⟩
    have h3 : Lies (L ++ headBits last 2 ++ ownBits X Y cl ++ (evs T).flatMap (evBits X Y) ++ M) (L ++ headBits last 2 ++ ownBits X Y cl).length ((evs T).flatMap (evBits X Y)) := lies_of ⟨M, rfl⟩
    have s1 := head_own (most := most) (out := out) (last := last.toNat) (by cases last <;> decide) h1
    have s2 := ownHead_leads (most := most) (out := out) (last := last.toNat) ho h2
    have s3 := coded_leads (most := most) (out := out) (bs := bs) (last := last.toNat) hMX hMY hT (own_evOk hw ho) h3 hm
    rw [List.length_append, headBits_len] at s2
    rw [List.length_append, List.length_append, headBits_len] at s3
    have e : (L ++ headBits last 2 ++ ownBits X Y cl ++ (evs T).flatMap (evBits X Y)).length = L.length + 3 + (ownBits X Y cl).length + ((evs T).flatMap (evBits X Y)).length := by rw [List.length_append, List.length_append, List.length_append, headBits_len]
    rw [e]
    exact (s1.trans s2).trans s3
theorem Wrote.pre {k : Nat} {last : Bool} {bs : List Nat} {L L' : List Bool} (h : Wrote k last bs L L') : L <+: L' := by
  cases h with
  | stored => exact storedL_pre last bs.length bs L (Nat.le_refl _)
  | fixed => exact ⟨_, by rw [List.append_assoc]⟩
  | own => exact ⟨_, by rw [List.append_assoc, List.append_assoc]⟩
theorem wrote_runs {k : Nat} {bs : List Nat} {L L' : List Bool} {most : Nat} {out : List Nat} (h : Wrote k true bs L L') (hb : ∀ x ∈ bs, x < 256) (hm : out.length + bs.length ≤ most) :
    Runs (bytesOf false L') most ⟨L.length, out, .head⟩ (.ok (out ++ bs) L'.length) := by
  have h1 := wrote_leads (M := []) (most := most) (out := out) h hb hm
  rw [List.append_nil] at h1
  exact h1 _ (last_stop (by decide))
end Go.Proofs.YtmmilchmnimjoaaGreat
