/- pairs: the nodes of a level, two by two. -/
import Derived.Test.YtkhhiaggmncehaaNodes
import Derived.Deep.AppendLies
import Derived.Deep.RegionHeld3
namespace Go.Proofs.Ytkhhiaggmncehaa
open Go.RowKit
set_option linter.unusedVariables false
set_option linter.unusedSimpArgs false

def pairsTo (L : List Nd) : Nat → List Nd
  | 0 => []
  | j + 1 => pairsTo L j ++ [((L.getD (2 * j) (0, false)).1 + (L.getD (2 * j + 1) (0, false)).1, true)]
def pairsOf (L : List Nd) : List Nd := pairsTo L (L.length / 2)
theorem pairsTo_len (L : List Nd) (j : Nat) : (pairsTo L j).length = j := by
  induction j with
  | zero => rfl
  | succ j ih => simp [pairsTo, ih]

set_option maxHeartbeats 1000000 in
set_option maxRecDepth 100000 in
theorem pairs_any (L : List Nd) (A : Option Addr) (c : Nat) (w : World) (hL : L.length ≤ 100000) (hb : ∀ x ∈ L, 0 ≤ x.1 ∧ x.1 ≤ 1152921504606846976) (hS : Src w 2 A L.length c (ncells L)) :
    Calls Try.prog 51 #[.slice A L.length c] w (NewN w (pairsOf L)) := by
  obtain ⟨i0, hi, hz0, hz1, hz2⟩ := info_parts info_node
  have HS := keepf hS
  have HB := keepf hb
  obtain ⟨n, hn⟩ : ∃ n, n = L.length := ⟨_, rfl⟩
  have HN := keepf hn
  rw [← hn] at hL ⊢
  clear hn hS hb
  go_enter Try.func51, Try.ntmps51
  go_wp2_with fail
  go_loopw [3, 4] (fun va vb wr => ∃ j : Nat, ∃ A2 : Option Addr, ∃ c2 : Nat, 2 * j ≤ n ∧ vb = .int .i64 (2 * j + 1 : Nat) ∧ va = .slice A2 j c2 ∧ Hid (wr.ownsRow 0 95 2 (.slice A2 j c2) j (ncells (pairsTo L j))) ∧ Hid (Chg NoS w wr) ∧ Hid (∀ a, A2 = some a → w.heap.size ≤ a.block)) (fun _ vb _ => n + 2 - (intOf vb).toNat)
  case atStart => exact ⟨0, none, 0, Nat.zero_le _, rfl, rfl, own_nil _ _ _ _, Chg.refl _ _, fun a h => by cases h⟩
  case round =>
    obtain ⟨j, A2, c2, hj, rfl, rfl, HO, HC1, HF⟩ := hrel
    obtain ⟨p, hp⟩ : ∃ p, p = 2 * j := ⟨_, rfl⟩
    have HP := keepf hp
    rw [← hp] at hj ⊢
    by_cases hlt : p + 1 < n
    · obtain ⟨b, off, rfl, hcell⟩ := HS.out.plain (by rw [ncells_len, ← HN.out]; omega)
      obtain ⟨x, hx⟩ : ∃ x, L[p]? = some x := ⟨_, List.getElem?_eq_getElem (by have := HN.out; omega)⟩
      obtain ⟨y, hy⟩ : ∃ y, L[p + 1]? = some y := ⟨_, List.getElem?_eq_getElem (by have := HN.out; omega)⟩
      have hx1 := HB.out x (List.mem_of_getElem? hx)
      have hy1 := HB.out y (List.mem_of_getElem? hy)
      have hc1 := (HC1.out.cell (p := ⟨b, off + p * 2, none⟩) (by exact cell_lt (hcell _ _ (ncells_w hx))) (fun h => h)).trans (hcell _ _ (ncells_w hx))
      have hc2 := (HC1.out.cell (p := ⟨b, off + (p + 1) * 2, none⟩) (by exact cell_lt (hcell _ _ (ncells_w hy))) (fun h => h)).trans (hcell _ _ (ncells_w hy))
      have HX := keepf hx
      have HY := keepf hy
      have hs : IntKind.i64.wrap (x.1 + y.1) = x.1 + y.1 := by rw [IntKind.wrap_i64]; omega
      obtain ⟨x, xb⟩ := x
      obtain ⟨y, yb⟩ := y
      simp only at hc1 hc2 hx1 hy1 hs
      have hw : IntKind.i64.wrap (p : Int) = p := by rw [IntKind.wrap_i64]; omega
      have i1 : (0 : Int) ≤ (p : Int) + 1 := by omega
      have i2 : (p : Int) + 1 < n := by omega
      have i3 : ((p : Int) + 1).toNat = p + 1 := by omega
      have i4 : (p : Int) < n := by omega
      have i5 : p < n := by omega
      have hj2 : j ≤ 100000 := by have := HP.out; omega
      have lb : b < wr.heap.size := cell_lt hc1
      have lw : b < w.heap.size := by exact cell_lt (hcell _ _ (ncells_w hx))
      have ab : (Value.slice A2 j c2).ownBlock ≠ some b := by
        rcases A2 with _ | a2
        · simp [Value.ownBlock]
        · have h3 := HF.out a2 rfl
          simp [Value.ownBlock]
          omega
      clear hcell hx hy hp
      go_upto_region 5 with fail
      first
        | (go_loud (go_region_held3 (fun w' => w'.cell? ⟨b, off + p * 2, none⟩ = some (.int .i64 x) ∧ w'.cell? ⟨b, off + (p + 1) * 2, none⟩ = some (.int .i64 y))
            (first
              | go_keep
              | (go_split_ands
                 refine ⟨?_, ?_⟩
                 · (rw [hgrow.cell_far _ (by simp; omega) (Ne.symm ab)]; assumption)
                 · (rw [hgrow.cell_far _ (by simp; omega) (Ne.symm ab)]; assumption)))
            ((refine step_append_lies _ (by rfl) _ _ _ (by rfl) 0 95 i0 _ 2 16 Try.underlying93 hi hz0 hz1 hz2 rfl (by omega) (.slice A2 j c2) j (ncells (pairsTo L j)) (by rfl) ((own_chg (S := NoS) HO.out ((Chg.refl _ _).alloc _) (fun _ _ h => h)).drew)
                  ⟨wr.heap.size, 0, none⟩ 1 1 (encN (x + y, true)) (by rfl) (by rfl) (World.news_of_block (cs := #[.int .i64 (x + y), .bool true]) (t := 95) (fr := (0, 0)) (heap_alloc_new wr _)) (by intro u hu; simp [encN] at hu; rcases hu with rfl | rfl <;> rfl)
                  (by omega) (by unfold maxLen; omega) (by omega) (Nat.zero_le _) (wr.heap.size + 1) (by simp) ?_; intro gg cap w1 hown1 hgrow hat hlt1))))
        | fail "region"
      go_wp2_with fail
      go_roundw
      case rel =>
        have hpp : p / 2 = j := by have := HP.out; omega
        refine ⟨j + 1, some ⟨gg, 0, none⟩, cap, by have := HP.out; omega, ?_, rfl, ?_, (((Chg.refl _ wr).alloc _).drew.grown hgrow (S := fun i => (Value.slice A2 j c2).ownBlock = some i) (fun i hi _ => hi)) |> (HC1.out.trans · (fun i hi h => ?_)), ?_⟩
        · have := HP.out; have e : 2 * (j + 1) + 1 = p + 1 + 2 := by omega
          rw [e]; go_num
        · show w1.ownsRow _ _ _ _ _ (ncells (pairsTo L j ++ [_]))
          rw [ncells_app, ← HP.out]
          simp only [List.getD_eq_getElem?_getD, HX.out, HY.out, Option.getD_some]
          exact hown1
        · rcases A2 with _ | a2
          · simp [Value.ownBlock] at h
          · have h3 := HF.out a2 rfl
            simp [Value.ownBlock] at h
            omega
        · rintro a h
          injection h with h
          subst h
          have hs := HC1.out.size
          show w.heap.size ≤ gg
          rcases hat with h3 | h3
          · rcases A2 with _ | a2
            · simp [Value.ownBlock] at h3
            · have h4 := HF.out a2 rfl
              simp [Value.ownBlock] at h3
              omega
          · omega
      case measure => simp [intOf]; omega
    · have he : j = n / 2 := by omega
      have HE := keepf he
      clear he
      go_wp2_with fail
      go_ret
      refine ⟨A2, c2, ?_, ?_, HC1.out, HF.out⟩
      · unfold pairsOf; rw [pairsTo_len, ← HN.out, ← HE.out]; rfl
      · unfold pairsOf; rw [← HN.out, ← HE.out]; show wr.ownsRow _ _ _ _ _ _; rw [pairsTo_len]; exact HO.out
end Go.Proofs.Ytkhhiaggmncehaa
