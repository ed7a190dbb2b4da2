/- What Codes and Lengths of a table hand back; the copy that slices.Clone makes. -/
import Derived.Test.YtkhhiaggmncehaaNew
import Derived.Test.YtkhhiaggmncehaaWriter
import Derived.Laws.Cover3
namespace Go.Proofs.Ytkhhiaggmncehaa
open Go.RowKit
set_option linter.unusedVariables false
set_option linter.unusedSimpArgs false

theorem info_u32 : (Try.prog.info? 31).map (fun i => (i.zero, i.size, i.bytes)) = some (some (.int .u32 0), 1, 4) := by kernel_rfl
theorem info_int : (Try.prog.info? 3).map (fun i => (i.zero, i.size, i.bytes)) = some (some (.int .i64 0), 1, 8) := by kernel_rfl

theorem eql_slice_nil {P : Program} (t e : TypeId) (a : Addr) (l c : Nat) (w : World) (h : P.underlying t = some (.slice e)) : (binOp .eql t (.slice (some a) l c) (.slice none 0 0)).run P w = .ok (.bool false) w := by
  simp only [binOp]
  simp [run_equal_slice_nil w t e (some a) l c h]

/-- Codes, as cells. -/
def ccells (L : List Nat) : List Value := L.map fun x => .int .u32 (x : Nat)
theorem ccells_one (L : List Nat) : ∀ u ∈ ccells L, u.oneCell' = true := by
  intro u hu
  obtain ⟨_, _, rfl⟩ := List.mem_map.1 hu
  rfl

theorem own_empty (w : World) (t : TypeId) : (w.alloc (.cells #[] t)).ownsRow 0 t 1 (.slice (some ⟨w.heap.size, 0, none⟩) 0 0) 0 [] :=
  ⟨rfl, .inr ⟨_, 0, #[], rfl, Nat.zero_le _, Blk.new w t #[], Nat.le_refl _, by unfold maxLen; omega, rfl, rfl⟩⟩

set_option maxHeartbeats 1000000 in
set_option maxRecDepth 100000 in
theorem clone32 (g off n c : Nat) (xs : List Value) (w : World) (hS : Src w 1 (some ⟨g, off, none⟩) n c xs) (h1 : ∀ u ∈ xs, u.oneCell' = true) (hn : n ≤ 1000000) :
    Calls Try.prog 25 #[.slice (some ⟨g, off, none⟩) n c] w (NewRow w 31 1 n xs) := by
  have HS := keepf (hS.below (w0 := w) ((Chg.refl NoS w).alloc (.cells #[] 31)))
  have H1 := keepf h1
  have HN := keepf hn
  clear hS h1 hn
  obtain ⟨i0, hi, hz0, hz1, hz2⟩ := info_parts info_u32
  have hq := eql_slice_nil (P := Try.prog) 24 31 ⟨g, off, none⟩ n c w Try.underlying24
  go_enter Try.func25, Try.ntmps25
  go_wp2_with (first
    | (at_builtin; refine wpList_append_src rfl (.tmp 5) (.tmp 6) 24 rfl 31 i0 (.int .u32 0) 1 4 Try.underlying24 hi hz0 hz1 hz2 rfl (by decide) (.slice (some ⟨w.heap.size, 0, none⟩) 0 0) 0 [] rfl (own_empty _ _) _ _ _ _ rfl HS.out H1.out (by have := HN.out; unfold maxLen; omega) (by have := HN.out; omega) ?_; intro S2 w2 hown2 hgr hat; obtain ⟨A2, c2, rfl, hA2⟩ := own_slice hown2; have HG := keepf hgr; have HO2 := keepf hown2; have HA2 := keepf hat; clear hgr hown2 hat hA2))
  go_ret
  have h1 := HO2.out
  have h2 := HA2.out
  rw [Nat.zero_add, List.nil_append] at h1
  rw [Nat.zero_add] at h2
  have hc : Chg NoS w w2 := ((Chg.refl (fun i => i = w.heap.size) w).alloc (.cells #[] 31)).trans ((Chg.refl (fun i => i = w.heap.size) _).grown HG.out (fun k e _ => by simp [Value.ownBlock] at e; exact e.symm)) (fun _ _ h => h) |>.mono (fun i hi e => by omega)
  refine ⟨A2, c2, rfl, h1, hc, fun i hi he => ?_⟩
  rcases h2 with h | h
  · rw [h] at he; simp [Value.ownBlock] at he; omega
  · rw [h] at he; simp at he; omega

set_option maxHeartbeats 1000000 in
set_option maxRecDepth 100000 in
theorem cloneInt (g off n c : Nat) (xs : List Value) (w : World) (hS : Src w 1 (some ⟨g, off, none⟩) n c xs) (h1 : ∀ u ∈ xs, u.oneCell' = true) (hn : n ≤ 1000000) :
    Calls Try.prog 36 #[.slice (some ⟨g, off, none⟩) n c] w (NewRow w 3 1 n xs) := by
  have HS := keepf (hS.below (w0 := w) ((Chg.refl NoS w).alloc (.cells #[] 3)))
  have H1 := keepf h1
  have HN := keepf hn
  clear hS h1 hn
  obtain ⟨i0, hi, hz0, hz1, hz2⟩ := info_parts info_int
  have hq := eql_slice_nil (P := Try.prog) 22 3 ⟨g, off, none⟩ n c w Try.underlying22
  go_enter Try.func36, Try.ntmps36
  go_wp2_with (first
    | (at_builtin; refine wpList_append_src rfl (.tmp 5) (.tmp 6) 22 rfl 3 i0 (.int .i64 0) 1 8 Try.underlying22 hi hz0 hz1 hz2 rfl (by decide) (.slice (some ⟨w.heap.size, 0, none⟩) 0 0) 0 [] rfl (own_empty _ _) _ _ _ _ rfl HS.out H1.out (by have := HN.out; unfold maxLen; omega) (by have := HN.out; omega) ?_; intro S2 w2 hown2 hgr hat; obtain ⟨A2, c2, rfl, hA2⟩ := own_slice hown2; have HG := keepf hgr; have HO2 := keepf hown2; have HA2 := keepf hat; clear hgr hown2 hat hA2))
  go_ret
  have h1 := HO2.out
  have h2 := HA2.out
  rw [Nat.zero_add, List.nil_append] at h1
  rw [Nat.zero_add] at h2
  have hc : Chg NoS w w2 := ((Chg.refl (fun i => i = w.heap.size) w).alloc (.cells #[] 3)).trans ((Chg.refl (fun i => i = w.heap.size) _).grown HG.out (fun k e _ => by simp [Value.ownBlock] at e; exact e.symm)) (fun _ _ h => h) |>.mono (fun i hi e => by omega)
  refine ⟨A2, c2, rfl, h1, hc, fun i hi he => ?_⟩
  rcases h2 with h | h
  · rw [h] at he; simp [Value.ownBlock] at he; omega
  · rw [h] at he; simp at he; omega

/-- A table's codes and lengths, as they lie in its block. -/
theorem tab_codes {w : World} {g n : Nat} {ls : List Int} (h : Tb w g ls) (hl : ls.length ≤ 320) : Src w 1 (some ⟨g, 323, none⟩) ls.length 320 (ccells ((List.range ls.length).map (cd ls))) := by
  obtain ⟨T, S, h1, h2, _⟩ := h
  refine ⟨by simp [ccells], fun h => (by cases h), fun ad e j u hu => ?_⟩
  cases e
  have hj : j < ls.length := by
    have := (List.getElem?_eq_some_iff.1 hu).1
    simpa [ccells] using this
  have hc := h1.cell (323 + j)
  rw [h2.code j (by omega)] at hc
  simp [ccells, hj] at hu
  subst hu
  rw [Addr.add_mid]
  exact hc
theorem tab_lens {w : World} {g n : Nat} {ls : List Int} (h : Tb w g ls) (hl : ls.length ≤ 320) : Src w 1 (some ⟨g, 3, none⟩) ls.length 320 (icells ls) := by
  obtain ⟨T, S, h1, h2, _⟩ := h
  refine ⟨by simp [icells], fun h => (by cases h), fun ad e j u hu => ?_⟩
  cases e
  have hj : j < ls.length := by
    have := (List.getElem?_eq_some_iff.1 hu).1
    simpa [icells] using this
  have hc := h1.cell (3 + j)
  rw [h2.len j (by omega)] at hc
  simp [icells, hj] at hu
  subst hu
  rw [Addr.add_mid, hc]
  simp [List.getD_eq_getElem?_getD, hj]

/-- The codes of lengths that may be. -/
def codesOf (ls : List Int) : List Nat := (List.range ls.length).map (cd ls)
theorem codesOf_len (ls : List Int) : (codesOf ls).length = ls.length := by simp [codesOf]

/-- Behind Codes and the document's Codes, where the lengths may be. -/
def CodesTo (w : World) (ls : List Int) (e : Ending) (w' : World) : Prop :=
  ∃ A cap, e = .returned (.tuple #[.slice A ls.length cap, .int .i64 0]) ∧ w'.ownsRow 0 31 1 (.slice A ls.length cap) ls.length (ccells (codesOf ls)) ∧ Chg NoS w w' ∧ (∀ i, i < w.heap.size → (Value.slice A ls.length cap).ownBlock ≠ some i)

theorem codes_no (ls : List Int) (A : Option Addr) (c : Nat) (w : World) (hM : ¬ May ls) (hL : ls.length ≤ 1000) (hb : in64 ls) (hS : Src w 1 A ls.length c (icells ls)) :
    Calls Try.prog 9 #[.slice A ls.length c] w fun e w' => e = .returned (.tuple #[.slice none 0 0, .int .i64 13]) ∧ Chg NoS w w' := by
  have HP := keepf (fun W h => new_no ls A c W hM hL hb h)
  have HS := keepf hS
  clear hS hb
  go_enter Try.func9, Try.ntmps9
  go_wp2_with (first
    | (go_at_call 13; refine (HP.out _ HS.out).mono ?_; rintro e w1 ⟨rfl, hc⟩; have HC := keepf hc; clear hc))
  go_ret2
  exact ⟨rfl, HC.out⟩

set_option maxHeartbeats 1000000 in
set_option maxRecDepth 100000 in
theorem codes_ok (ls : List Int) (A : Option Addr) (c : Nat) (w : World) (hM : May ls) (hb : in64 ls) (hS : Src w 1 A ls.length c (icells ls)) :
    Calls Try.prog 9 #[.slice A ls.length c] w (CodesTo w ls) := by
  have HP := keepf (fun W h => new_ok ls A c W hM hb h)
  have HS := keepf hS
  have HM := keepf hM
  clear hS hb hM
  go_enter Try.func9, Try.ntmps9
  go_upto_region 4 with (first
    | (go_at_call 13; refine (HP.out _ HS.out).mono ?_; rintro e w1 ⟨g, rfl, ht, hc, hg⟩; have HC := keepf hc; have HT := keepf ht; have HG := keepf hg; clear hc ht hg))
  have hn320 : (ls.length : Int) ≤ 320 := by have := HM.out.2.1; omega
  have c1 : w1.cell? ⟨g, 1, none⟩ = some (.int .i64 (ls.length : Nat)) := by
    obtain ⟨T, S, h1, h2, _⟩ := HT.out
    rw [h1.cell, h2.n]
  have HSR := keepf (fun W hc => (tab_codes (n := 0) (HT.out.chg (K := NoS) (w' := W) hc (fun h => h)) HM.out.2.1))
  first
    | (go_loud (go_region_held3 (fun w' => w'.cell? ⟨g, 1, none⟩ = some (.int .i64 (ls.length : Nat)))
        (first | go_keep | assumption)
        (first
          | (go_at_call 25; refine (clone32 g 323 ls.length 320 _ _ (HSR.out _ ((Chg.refl NoS w1).drew)) (ccells_one _) (by have := HM.out.2.1; omega)).mono ?_; rintro e w3 ⟨A3, c3, rfl, ho3, hc3, hf3⟩; have e1 := (hc3.cell (p := ⟨g, 1, none⟩) (by exact cell_lt c1) (fun h => h)).trans c1; have HO3 := keepf ho3; have HC3 := keepf hc3; have HF3 := keepf hf3; clear ho3 hc3 hf3))))
    | fail "region"
  go_wp2_with fail
  go_ret2
  refine ⟨A3, c3, rfl, HO3.out, HC.out.trans (Chg.undrewN (n := 1) HC3.out) (fun _ _ h => h), fun i hi => HF3.out i (by have := HC.out.size; show i < w1.heap.size; omega)⟩

set_option maxHeartbeats 1000000 in
set_option maxRecDepth 100000 in
theorem tlens_any (g : Nat) (ls : List Int) (w : World) (hT : Tb w g ls) (hl : ls.length ≤ 320) :
    Calls Try.prog 23 #[.pointer (some ⟨g, 0, none⟩)] w (NewRow w 3 1 ls.length (icells ls)) := by
  have hn320 : (ls.length : Int) ≤ 320 := by omega
  have HL := keepf hl
  have HSR := keepf (fun W hc => (tab_lens (n := 0) (hT.chg (K := NoS) (w' := W) hc (fun h => h)) hl))
  obtain ⟨T, S, h1, h2, _⟩ := hT
  have c0 : w.cell? ⟨g, 0, none⟩ = some (.bool true) := by rw [h1.cell, h2.made]
  have c1 : w.cell? ⟨g, 1, none⟩ = some (.int .i64 (ls.length : Nat)) := by rw [h1.cell, h2.n]
  clear h1 h2 hl
  go_enter Try.func23, Try.ntmps23
  go_upto_region 3 with (go_at_call 31; refine (ready_any g _ c0).mono ?_; rintro e w' ⟨rfl, rfl⟩)
  first
    | (go_loud (go_region_held3 (fun w' => w'.cell? ⟨g, 1, none⟩ = some (.int .i64 (ls.length : Nat)))
        (first | go_keep | assumption)
        (first
          | (go_at_call 36; refine (cloneInt g 3 ls.length 320 _ _ (HSR.out _ ((Chg.refl NoS w).drew)) (icells_one _) (by have := HL.out; omega)).mono ?_; rintro e w3 ⟨A3, c3, rfl, ho3, hc3, hf3⟩; have e1 := (hc3.cell (p := ⟨g, 1, none⟩) (by exact cell_lt c1) (fun h => h)).trans c1; have HO3 := keepf ho3; have HC3 := keepf hc3; have HF3 := keepf hf3; clear ho3 hc3 hf3))))
    | fail "region"
  go_wp2_with fail
  go_ret
  exact ⟨A3, c3, rfl, HO3.out, Chg.undrewN (n := 1) HC3.out, fun i hi => HF3.out i hi⟩
end Go.Proofs.Ytkhhiaggmncehaa
