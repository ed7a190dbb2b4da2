/- share: the walk. -/
import Derived.Test.YtkhhiaggmncehaaShare
namespace Go.Proofs.Ytkhhiaggmncehaa
open Go.RowKit Go.Shelf
set_option linter.unusedVariables false
set_option linter.unusedSimpArgs false
attribute [local go_sem] Oper.semAt_some

theorem chg_put (W : World) (l : Nat) (o : Obj) : Chg (fun i => i = l) W (W.putObj l o) := ⟨rfl, rfl, rfl, by rw [World.putObj_size]; exact Nat.le_refl _, fun k _ hk => World.putObj_heap_other hk⟩

/-- Behind t rounds. -/
structure ShI (w : World) (gl cl nc g c m n : Nat) (d : List Int) (Ad : Option Addr) (cd : Nat) (S : List Nd) (t : Nat) (W : World) : Prop where
  ch : Chg (fun i => i = gl) w W
  lt : gl < w.heap.size
  b0 : Blk W w.heap.size 22 #[.slice (some ⟨gl, 0, none⟩) nc cl]
  b1 : Blk W (w.heap.size + 1) 22 #[.slice Ad n cd]
  b2 : Blk W (w.heap.size + 1 + 1) 3 #[.int .i64 (takenFrom S (m - 1) (2 * n - 2) t : Nat)]
  b3 : Blk W (w.heap.size + 1 + 1 + 1) 81 #[.slice (some ⟨g, 0, none⟩) m c]
  r : ∃ D, Row W gl cl D ∧ LenIs D nc d (depth ((leavesOf S (m - 1) (2 * n - 2)).take t))
theorem ShI.chg {w W W' : World} {gl cl nc g c m n : Nat} {d : List Int} {Ad : Option Addr} {cd : Nat} {S : List Nd} {t : Nat} {K : Nat → Prop} (h : ShI w gl cl nc g c m n d Ad cd S t W) (hc : Chg K W W') (hK : ∀ i, i < w.heap.size + 4 → ¬ K i) : ShI w gl cl nc g c m n d Ad cd S t W' := by
  have hlt := h.lt
  refine ⟨h.ch.trans hc (fun i hi hk => absurd hk (hK i (by omega))), h.lt, h.b0.chg hc (hK _ (by omega)), h.b1.chg hc (hK _ (by omega)), h.b2.chg hc (hK _ (by omega)), h.b3.chg hc (hK _ (by omega)), ?_⟩
  obtain ⟨D, h1, h2⟩ := h.r
  exact ⟨D, h1.chg hc (hK _ (by omega)), h2⟩

theorem keeps_of_chg {K : Nat → Prop} {B : Nat} {W W' : World} (hc : Chg K W W') (hK : ∀ i, K i → i < B) : KeepsFrom B W W' :=
  ⟨hc.size, fun k o hB hk _ => (hc.block k (Array.getElem?_eq_some_iff.1 hk).1 (fun h => by have := hK k h; omega)).trans hk⟩
theorem prs_succ (L : List Nd) (k : Nat) (y : Nd) (h : L[k]? = some y) : prs L (k + 1) = prs L k + (if y.2 = true then 1 else 0) := by
  unfold prs
  rw [take_more L k y h, List.countP_append]
  simp [List.countP_cons]
theorem depth_snoc (cs : List Nat) (c i : Nat) : depth (cs ++ [c]) i = depth cs i + (if i < c then 1 else 0) := by
  unfold depth
  rw [List.countP_append]
  simp [List.countP_cons]

/-- The level of round t. -/
def lvAt (Ls : List Sl) (j : Nat) : Sl := Ls.getD j (none, 0, [])

set_option maxRecDepth 100000 in
set_option maxHeartbeats 4000000 in
theorem share_in (gl cl nc g c m : Nat) (d : List Int) (Ad : Option Addr) (cd : Nat) (S : List Nd) (Ls : List Sl) (D0 : List Int) (w : World)
    (hR : Row w gl cl D0) (hD0 : D0.length = nc) (hd : Src w 1 Ad d.length cd (icells d)) (hne : ∀ a, Ad = some a → a.block ≠ gl) (hN : 2 ≤ d.length) (hL : d.length ≤ 1000) (hG : Good nc d) (hnd : d.Nodup)
    (hcd : d.length ≤ cd) (hS : S.length = d.length) (hf : ∀ x ∈ S, x.2 = false) (hu : Up S) (hm : Ls.length = m) (hm1 : 1 ≤ m) (hm2 : m ≤ 15) (hT : 2 * d.length - 2 ≤ (levelOf S (m - 1)).length)
    (hall : w.ownsRow 0 93 1 (.slice (some ⟨g, 0, none⟩) m c) m (Ls.map slv)) (hl : ∀ j x, Ls[j]? = some x → OwnN w x.1 x.2.1 x.2.2 ∧ x.2.2 = levelOf S j) (h0 : LenIs D0 nc d (fun _ => 0)) :
    CallsIn Fence.wide 9 Try.prog 39 #[.slice (some ⟨gl, 0, none⟩) nc cl, .slice (some ⟨g, 0, none⟩) m c, .slice Ad d.length cd] w fun e w' =>
      e = .returned (.tuple #[]) ∧ ∃ D, Row w' gl cl D ∧ LenIs D nc d (depth (leavesOf S (m - 1) (2 * d.length - 2))) ∧ Chg (fun i => i = gl) w w' := by
  obtain ⟨n, hn⟩ : ∃ n, n = d.length := ⟨_, rfl⟩
  have HN := keepf hn
  rw [← hn] at hN hL hT hcd ⊢
  clear hn
  obtain ⟨bd, od, rfl, hdc⟩ := hd.plain (by rw [icells_len]; have := HN.out; omega)
  have hw1 : IntKind.i64.wrap (2 * (n : Int)) = 2 * n := by rw [IntKind.wrap_i64]; omega
  have hw2 : IntKind.i64.wrap (2 * (n : Int) - 2) = 2 * n - 2 := by rw [IntKind.wrap_i64]; omega
  refine callsIn_of_wp_marks Try.func39 rfl trivial ?_ rfl
  simp only [Try.ntmps39, List.size_toArray, List.length_cons, List.length_nil, Nat.reduceAdd, Nat.reduceSub, Array.replicate_succ, Array.replicate_zero, List.push_toArray, List.append_toArray, List.nil_append, List.cons_append]
  gi_wp2_with (refine ⟨trivial, ?_⟩; gi_at_call 49; refine (back_any _ _ _ _).mono ?_; rintro e w' ⟨rfl, rfl⟩)
  have hS0 : ShI w gl cl nc g c m n d (some ⟨bd, od, none⟩) cd S 0 ((((w.alloc (.cells #[.slice (some ⟨gl, 0, none⟩) nc cl] 22)).alloc (.cells #[.slice (some ⟨bd, od, none⟩) n cd] 22)).alloc (.cells #[.int .i64 (2 * (n : Int) - 2)] 3)).alloc (.cells #[.slice (some ⟨g, 0, none⟩) m c] 81)) := by
    have hlt : gl < w.heap.size := own_lt hR rfl
    refine ⟨((((Chg.refl _ w).alloc _).alloc _).alloc _).alloc _, hlt, (((Blk.new w _ _).alloc _).alloc _).alloc _, ?_, ?_, ?_, D0, hR.chg (K := NoS) (((((Chg.refl _ w).alloc _).alloc _).alloc _).alloc _) (fun h => h), ?_⟩
    · have h1 := ((Blk.new (w.alloc (.cells #[.slice (some ⟨gl, 0, none⟩) nc cl] 22)) 22 #[.slice (some ⟨bd, od, none⟩) n cd]).alloc (.cells #[.int .i64 (2 * (n : Int) - 2)] 3)).alloc (.cells #[.slice (some ⟨g, 0, none⟩) m c] 81)
      simpa using h1
    · have h1 := (Blk.new ((w.alloc (.cells #[.slice (some ⟨gl, 0, none⟩) nc cl] 22)).alloc (.cells #[.slice (some ⟨bd, od, none⟩) n cd] 22)) 3 #[.int .i64 (2 * (n : Int) - 2)]).alloc (.cells #[.slice (some ⟨g, 0, none⟩) m c] 81)
      have e : ((2 * n - 2 : Nat) : Int) = 2 * (n : Int) - 2 := by omega
      rw [takenFrom, e]
      simpa using h1
    · have h1 := Blk.new (((w.alloc (.cells #[.slice (some ⟨gl, 0, none⟩) nc cl] 22)).alloc (.cells #[.slice (some ⟨bd, od, none⟩) n cd] 22)).alloc (.cells #[.int .i64 (2 * (n : Int) - 2)] 3)) 81 #[.slice (some ⟨g, 0, none⟩) m c]
      simpa using h1
    · exact h0
  have hsz : ((((w.alloc (.cells #[.slice (some ⟨gl, 0, none⟩) nc cl] 22)).alloc (.cells #[.slice (some ⟨bd, od, none⟩) n cd] 22)).alloc (.cells #[.int .i64 (2 * (n : Int) - 2)] 3)).alloc (.cells #[.slice (some ⟨g, 0, none⟩) m c] 81)).heap.size = w.heap.size + 4 := by simp
  obtain ⟨W0, hW0⟩ : ∃ W0, (((w.alloc (.cells #[.slice (some ⟨gl, 0, none⟩) nc cl] 22)).alloc (.cells #[.slice (some ⟨bd, od, none⟩) n cd] 22)).alloc (.cells #[.int .i64 (2 * (n : Int) - 2)] 3)).alloc (.cells #[.slice (some ⟨g, 0, none⟩) m c] 81) = W0 := ⟨_, rfl⟩
  rw [hW0] at hS0 hsz ⊢
  clear hW0
  have hlv : ∀ j, j < m → Ls[j]? = some (lvAt Ls j) := fun j hj => by
    unfold lvAt
    rw [List.getD_eq_getElem?_getD, List.getElem?_eq_getElem (by omega)]
    rfl
  have hggl : g ≠ gl := fun e => own_ne_own hall hR (by decide) g rfl (by rw [e]; rfl)
  have hglt : g < w.heap.size := own_lt hall rfl
  refine range_in_order (gf := 55) (lb := #[.pointer (some ⟨w.heap.size + 1 + 1 + 1, 0, none⟩)]) (by omega) rfl (enters_of Try.func55 (by kernel_rfl) rfl) m
    (fun t => #[.int .i64 (m - 1 - t : Nat), .slice (lvAt Ls (m - 1 - t)).1 (lvAt Ls (m - 1 - t)).2.2.length (lvAt Ls (m - 1 - t)).2.1]) (fun _ => rfl)
    (ShI w gl cl nc g c m n d (some ⟨bd, od, none⟩) cd S) (fun t W l o hl h => h.chg (chg_put W l o) (fun i hi e => by omega)) (fun t W o h => h.chg (K := NoS) ((Chg.refl _ W).alloc o) (fun _ _ h => h)) hS0 ?seq
    (fun t => { tmps := #[.slice (some ⟨gl, 0, none⟩) nc cl, .slice (some ⟨g, 0, none⟩) m c, .slice (some ⟨bd, od, none⟩) n cd, .pointer (some ⟨w.heap.size, 0, none⟩), undef, .pointer (some ⟨w.heap.size + 1, 0, none⟩), .pointer (some ⟨w.heap.size + 1 + 1, 0, none⟩), undef, (.slice (lvAt Ls (m - 1 - t)).1 (lvAt Ls (m - 1 - t)).2.2.length (lvAt Ls (m - 1 - t)).2.1), undef, undef, undef, undef, undef, .slice (some ⟨bd, od, none⟩) n cd, .int .i64 n, .int .i64 (2 * n), .int .i64 (2 * n - 2), .slice (some ⟨g, 0, none⟩) m c, .func (.func 55) #[] #[.pointer (some ⟨w.heap.size + 1 + 1 + 1, 0, none⟩)], (.int .i64 (m - 1 - t : Nat)), (.slice (lvAt Ls (m - 1 - t)).1 (lvAt Ls (m - 1 - t)).2.2.length (lvAt Ls (m - 1 - t)).2.1), undef, undef, undef, undef, undef, undef, undef, undef, undef, undef, undef, undef, undef, undef, undef, undef, undef, undef, undef, undef, undef, undef, undef, undef, undef, undef, undef, undef, undef, undef, undef, undef], defers := [] }) ?assign ?body ?done
  case seq =>
    intro l J W hJ hY h0
    refine back1_any l m (w.heap.size + 1 + 1 + 1) g c (fun j => (lvAt Ls j).1) (fun j => (lvAt Ls j).2.2.length) (fun j => (lvAt Ls j).2.1) (by omega) J (fun t W1 h => (hJ t W1 h).b3.cell 0) (fun t W1 h j hj => ?_) hY W h0
    have h1 := World.ownsRow.cellAt hall j (by omega)
    rw [show (Ls.map slv)[j]? = some (slv (lvAt Ls j)) by rw [List.getElem?_map, hlv j hj]; rfl] at h1
    exact ((hJ t W1 h).ch.cell (p := ⟨g, j, none⟩) hglt hggl).trans h1
  case assign =>
    intro l t W K hK
    gi_wp2
    exact hK
  case done =>
    intro D W hD hI hdf
    gi_wp2
    refine ⟨by simp, .inl ⟨_, _, rfl, run_takeDeferred hdf, ?_⟩⟩
    have h1 := hI.chg (chg_put W D (.deferred none)) (fun i hi e => by omega)
    obtain ⟨D1, h2, h3⟩ := h1.r
    rw [List.take_of_length_le (by rw [leavesOf_len]; omega)] at h3
    exact ⟨_, results_none rfl _ _ _, rfl, D1, h2, h3, h1.ch⟩
  case body =>
    intro l t W ht hI
    have hx := hlv (m - 1 - t) (by omega)
    obtain ⟨hxo, hxl⟩ := hl _ _ hx
    obtain ⟨x, hxe⟩ : ∃ x, x = lvAt Ls (m - 1 - t) := ⟨_, rfl⟩
    rw [← hxe] at hxo hxl ⊢
    obtain ⟨xa, xc, xl⟩ := x
    simp only at hxo hxl ⊢
    have hxW : OwnN W xa xc xl := own_chg hxo hI.ch (fun i hi e => own_ne_own hxo hR (by decide) i hi (by subst e; rfl))
    obtain ⟨T, hTe⟩ : ∃ T, T = takenFrom S (m - 1) (2 * n - 2) t := ⟨_, rfl⟩
    have hTle : T ≤ xl.length := by rw [hTe, hxl]; exact takenFrom_le hf hu (m - 1) _ hT t (by omega)
    have hlen2 : S.length ≤ xl.length := by
      rw [hxl]
      rcases hk : m - 1 - t with _ | k
      · exact Nat.le_refl _
      · rw [levelOf, mergeOf_len]; omega
    have hlen3 : xl.length ≤ 2 * S.length := by rw [hxl]; exact levelOf_le _ _
    have hSn : S.length = n := by rw [hS]; exact HN.out.symm
    obtain ⟨bx, cx, hxa, hcx, hcm⟩ := own_form hxW (by omega)
    injection hxa with hx1 hx2 hx3
    subst hx1
    subst hx3
    clear hx2
    have p0 := hI.b0.cell 0
    have p1 := hI.b1.cell 0
    have p2 := hI.b2.cell 0
    have f2 := hI.b2.frozen 0
    rw [← hTe] at p2
    simp at p0 p1 p2
    have hXcell : ∀ j y, xl[j]? = some y → W.cell? ⟨bx, j * 2, none⟩ = some (.int .i64 y.1) ∧ W.cell? ⟨bx, j * 2 + 1, none⟩ = some (.bool y.2) := fun j y hy => by
      have hj := (List.getElem?_eq_some_iff.1 hy).1
      have h1 := World.ownsRow.cellAt hxW (j * 2) (by omega)
      have h2 := World.ownsRow.cellAt hxW (j * 2 + 1) (by omega)
      rw [ncells_w hy] at h1
      rw [ncells_p hy] at h2
      exact ⟨h1, h2⟩
    have hle : T - prs xl T ≤ n := by
      rcases hk : m - 1 - t with _ | k
      · rw [hk] at hxl
        have : xl.length = n := by rw [hxl]; exact hSn
        omega
      · rw [hk] at hxl
        have h1 := (prs_next hf hu k T (by rw [← hxl]; exact hTle)).2
        rw [← hxl] at h1
        omega
    have hpt : prs xl T = prs (levelOf S (m - 1 - t)) T := by rw [hxl]
    have HPT := keepf hpt
    have HLE := keepf hle
    have HND := keepf hnd
    have HDC := keepf hdc
    have hbne : bd ≠ gl := hne _ rfl
    have hbI := hI.b1
    have hgW := hI.lt
    clear hpt hle
    have HI := keepf hI
    have HX := keepf hXcell
    have HD := keepf hd
    have HR := keepf hR
    have HG := keepf hG
    have HXL := keepf hxl
    have HTE := keepf hTe
    have hTc : (T : Int) ≤ xc := by omega
    have hT0 : (0 : Int) ≤ T := by omega
    clear hI hXcell hd hR hG hxl hTe hlv hl hall hxo hxW hx hxe hS0 h0 hnd hne hf hu hT hdc hbI
    gi_wp2
    gi_loopw [9, 26] (fun va vi wr => ∃ k : Nat, k ≤ T ∧ va = .int .i64 (2 * prs xl k : Nat) ∧ vi = .int .i64 (k : Nat) ∧ Hid (Chg NoS W wr)) (fun _ vi _ => T - (intOf vi).toNat)
    case atStart => exact ⟨0, Nat.zero_le _, by rw [prs_zero]; rfl, rfl, Chg.refl _ _⟩
    case round =>
      obtain ⟨k, hk, rfl, rfl, HC⟩ := hrel
      by_cases hlt : k < T
      · obtain ⟨y, hy⟩ : ∃ y, xl[k]? = some y := ⟨_, List.getElem?_eq_getElem (by omega)⟩
        obtain ⟨c0, c1⟩ := HX.out k y hy
        have e0 := (HC.out.cell (p := ⟨bx, k * 2, none⟩) (by exact cell_lt c0) (fun h => h)).trans c0
        have e1 := (HC.out.cell (p := ⟨bx, k * 2 + 1, none⟩) (by exact cell_lt c1) (fun h => h)).trans c1
        have HY := keepf hy
        have hpk := prs_le xl k
        obtain ⟨q, hq⟩ : ∃ q, q = prs xl k := ⟨_, rfl⟩
        have HQ := keepf hq
        rw [← hq] at hpk ⊢
        obtain ⟨yw, yb⟩ := y
        simp only at e0 e1
        clear hy hq c0 c1
        rcases yb with _ | _
        · gi_wp2
          go_roundw
          case rel =>
            refine ⟨k + 1, by omega, ?_, by go_num, HC.out.alloc _⟩
            rw [prs_succ xl k _ HY.out, HQ.out]
            simp
          case measure => simp [intOf]; omega
        · have hw3 : IntKind.i64.wrap (2 * (q : Int) + 2) = 2 * q + 2 := by rw [IntKind.wrap_i64]; omega
          gi_wp2
          go_roundw
          case rel =>
            refine ⟨k + 1, by omega, ?_, by go_num, HC.out.alloc _⟩
            rw [prs_succ xl k _ HY.out, HQ.out]
            simp
            omega
          case measure => simp [intOf]; omega
      · obtain rfl : T = k := by omega
        have g0 := (HC.out.cell (p := ⟨w.heap.size, 0, none⟩) (by exact cell_lt p0) (fun h => h)).trans p0
        have g1 := (HC.out.cell (p := ⟨w.heap.size + 1, 0, none⟩) (by exact cell_lt p1) (fun h => h)).trans p1
        have g2 := (HC.out.cell (p := ⟨w.heap.size + 1 + 1, 0, none⟩) (by exact cell_lt p2) (fun h => h)).trans p2
        have hpk := prs_le xl T
        obtain ⟨q, hq⟩ : ∃ q, q = prs xl T := ⟨_, rfl⟩
        have HQ := keepf hq
        rw [← hq] at hpk ⊢
        obtain ⟨cc, hcc⟩ : ∃ cc : Nat, cc = T - q := ⟨_, rfl⟩
        have hce : (T : Int) - q = cc := by omega
        have hccn : cc ≤ n := by have := HLE.out; rw [← HQ.out] at this; omega
        have i1 : (0 : Int) ≤ cc := by omega
        have i2 : (cc : Int) ≤ cd := by omega
        have HCC := keepf hcc
        have hsh := HI.out.chg HC.out (fun _ _ h => h)
        obtain ⟨Dr, hDr, hLr⟩ := hsh.r
        have HDr := keepf hDr
        have HLr := keepf hLr
        clear hq hcc hsh hDr hLr
        gi_wp2
        gi_loopw [42] (fun vi wx => ∃ i : Nat, i ≤ cc ∧ vi = .int .i64 (i : Nat) ∧ ∃ Di, Hid (Row wx gl cl Di) ∧ Hid (LenIs Di nc d (fun j => depth ((leavesOf S (m - 1) (2 * n - 2)).take t) j + (if j < i then 1 else 0))) ∧ Hid (Chg (fun b => b = gl) wr wx)) (fun vi _ => cc - (intOf vi).toNat)
        case atStart => exact ⟨0, Nat.zero_le _, rfl, Dr, HDr.out, by simpa using HLr, Chg.refl _ _⟩
        case round =>
          obtain ⟨i, hi, rfl, Di, HDi, HLi, HCi⟩ := hrel
          have hW1 : Chg (fun b => b = gl) W wr := (HC.out.mono (T := fun b => b = gl) (fun _ _ h => h.elim)).trans HCi.out (fun _ _ h => h)
          have hW2 : Chg (fun b => b = gl) w wr := HI.out.ch.trans hW1 (fun _ _ h => h)
          have HW1 := keepf hW1
          have HW2 := keepf hW2
          have r0 := (hW1.cell (p := ⟨w.heap.size, 0, none⟩) (by exact cell_lt p0) (by show ¬ w.heap.size = gl; omega)).trans p0
          clear hW1 hW2
          by_cases hlt2 : i < cc
          · obtain ⟨u, hu⟩ : ∃ u, d[i]? = some u := ⟨_, List.getElem?_eq_getElem (by have := HN.out; omega)⟩
            have hug := HG.out u (List.mem_of_getElem? hu)
            obtain ⟨u, rfl⟩ := Int.eq_ofNat_of_zero_le hug.1
            have hDl := HLi.out.len
            have r1 := (HW2.out.cell (p := ⟨bd, od + i, none⟩) (by exact cell_lt (HDC.out i _ (icells_get hu))) hbne).trans (HDC.out i _ (icells_get hu))
            have r2 := HDi.out.cell u (by omega)
            have r3 := HDi.out.frozen u
            have hv := HLi.out.at_ i _ hu
            rw [Int.toNat_natCast] at hv
            obtain ⟨v, hve⟩ : ∃ v, v = depth ((leavesOf S (m - 1) (2 * n - 2)).take t) i + (if i < i then 1 else 0) := ⟨_, rfl⟩
            have hvb : v ≤ 15 := by
              have h1 := depth_le ((leavesOf S (m - 1) (2 * n - 2)).take t) i
              have h2 : ((leavesOf S (m - 1) (2 * n - 2)).take t).length ≤ m := by rw [List.length_take, leavesOf_len]; omega
              rw [if_neg (Nat.lt_irrefl i)] at hve
              omega
            rw [hv, ← hve] at r2
            have HVE := keepf hve
            have HU := keepf hu
            have j1 : (0 : Int) ≤ u := by omega
            have j2 : (u : Int) < nc := by omega
            have hwv : IntKind.i64.wrap ((v : Int) + 1) = v + 1 := by rw [IntKind.wrap_i64]; omega
            clear hve hu hv hug
            gi_wp2
            go_roundw
            case rel =>
              have h1 := HLi.out.step HND.out HG.out i u HU.out
              rw [← HVE.out] at h1
              refine ⟨i + 1, by omega, by go_num, Di.set u ((v : Nat) + 1), HDi.out.set u _, ?_, HCi.out.setCell (fun _ => rfl) _⟩
              refine keepf ⟨h1.len, fun j x hx => ?_, h1.no⟩
              have h2 := h1.at_ j x hx
              rw [h2]
              by_cases e : j = i
              · subst e
                rw [if_pos rfl, if_neg (Nat.lt_irrefl j), if_pos (by omega)]
              · rw [if_neg e]
                by_cases e2 : j < i
                · rw [if_pos e2, if_pos (by omega)]
                · rw [if_neg e2, if_neg (by omega)]
            case measure => simp [intOf]; omega
          · obtain rfl : cc = i := by omega
            have hb2 := HI.out.b2.chg HW1.out (by show ¬ w.heap.size + 1 + 1 = gl; omega)
            have s2 := hb2.cell 0
            have sf2 := hb2.frozen 0
            simp at s2
            have HB2 := keepf hb2
            clear hb2
            have hgw := HI.out.lt
            gi_wp2
            refine ⟨keeps_of_chg (K := fun b => b = gl ∨ b = w.heap.size + 1 + 1) ((HW1.out.mono (fun _ _ h => .inl h)).setCell (fun _ => .inr rfl) _) (fun i h => by rcases h with h | h <;> omega), ?_⟩
            have htk : takenFrom S (m - 1) (2 * n - 2) (t + 1) = 2 * q := by rw [takenFrom, ← HTE.out, ← HPT.out, ← HQ.out]
            have hg := leaves_get S (m - 1) (2 * n - 2) t (by omega)
            rw [← HTE.out, ← HPT.out, ← HQ.out, ← HCC.out] at hg
            refine ⟨HW2.out.setCell (fun h => absurd h (by simp; omega)) _, hgw, (HI.out.b0.chg HW1.out (by show ¬ _ = gl; omega)).far (by simp; omega) _, (HI.out.b1.chg HW1.out (by show ¬ _ = gl; omega)).far (by simp) _, ?_, (HI.out.b3.chg HW1.out (by show ¬ _ = gl; omega)).far (by simp) _, Di, HDi.out.chg (K := fun b => b = w.heap.size + 1 + 1) ((Chg.refl (fun b => b = w.heap.size + 1 + 1) wr).setCell (p := ⟨w.heap.size + 1 + 1, 0, none⟩) (fun _ => rfl) _) (by show ¬ gl = _; omega), ?_⟩
            · rw [htk]
              have h1 := HB2.out.set_ 0 (.int .i64 (2 * q : Nat))
              simpa using h1
            · rw [take_more _ t _ hg]
              refine ⟨HLi.out.len, fun j x hx => ?_, HLi.out.no⟩
              rw [depth_snoc]
              exact HLi.out.at_ j x hx
end Go.Proofs.Ytkhhiaggmncehaa
