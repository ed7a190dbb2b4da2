/- Tokens turned: from the document's into the program's (of), and back; the document's Expand at every input. -/
import Derived.Test.YtomkejeofcpchaaRefT
namespace Go.Proofs.Ytomkejeofcpchaa
open Go.RowKit
set_option linter.unusedVariables false
set_option linter.unusedSimpArgs false

theorem rexpand_any (l : List Tk) (A : Option Addr) (c : Nat) (most : Int) (w : World) (hS : Src w 3 A l.length c (kcells l)) (hl : l.length ≤ maxLen) :
    Calls Try.prog 10 #[.slice A l.length c, .int .i64 most] w (ExpTo w l most) := by
  rcases Decidable.em (most < 0 ∨ 16777216 < most) with h | h
  · exact rexpand_arg l A c most w h
  · obtain ⟨m, rfl⟩ : ∃ m : Nat, most = m := ⟨most.toNat, by omega⟩
    exact rexpand_in l A c m w hS hl (by omega)

/-- The same tokens, in a new row. -/
def TurnTo (w : World) (l : List Tk) (n : Nat) (e : Ending) (w' : World) : Prop := ∃ A c, e = .returned (.slice A n c) ∧ Src w' 3 A n c (kcells l) ∧ Chg NoS w w'
theorem info_rtok : (Try.prog.info? 46).map (fun i => (i.zero, i.size, i.bytes)) = some (some (.agg #[.int .u8 0, .int .i64 0, .int .i64 0]), 3, 24) := by kernel_rfl

set_option maxHeartbeats 1000000 in
set_option maxRecDepth 100000 in
theorem of_any (l : List Tk) (A : Option Addr) (c : Nat) (w : World) (hS : Src w 3 A l.length c (kcells l)) (hl : l.length ≤ 100000) :
    Calls Try.prog 9 #[.slice A l.length c] w (TurnTo w l l.length) := by
  obtain ⟨i0, hi, hz0, hz1, hz2⟩ := info_parts info_tok
  have HS := keepf hS
  obtain ⟨n, hn⟩ : ∃ n, n = l.length := ⟨_, rfl⟩
  have HN := keepf hn
  rw [← hn] at hl HS ⊢
  clear hn hS
  go_enter Try.func9, Try.ntmps9
  go_wp2_with fail
  go_loopw [3, 4] (fun vo vk wr => ∃ k : Nat, ∃ A2 : Option Addr, ∃ c2 : Nat, k ≤ n ∧ vk = .int .i64 k ∧ vo = .slice A2 k c2 ∧ Hid (wr.ownsRow 0 42 3 (.slice A2 k c2) k (kcells (l.take k))) ∧ Hid (Chg NoS w wr) ∧ Hid (∀ a, A2 = some a → w.heap.size ≤ a.block)) (fun _ vk _ => n - (intOf vk).toNat)
  case atStart => exact ⟨0, none, 0, Nat.zero_le _, rfl, rfl, own_nil _ _ _ _, Chg.refl _ _, fun a h => by cases h⟩
  case round =>
    obtain ⟨k, A2, c2, hk, rfl, rfl, HO, HC1, HF⟩ := hrel
    by_cases hlt : k < n
    · obtain ⟨t, ht⟩ : ∃ t, l[k]? = some t := ⟨_, List.getElem?_eq_getElem (by have := HN.out; omega)⟩
      obtain ⟨b, off, rfl, c0, c1, c2'⟩ := tok_cells HS.out HC1.out ht
      have lb : b < wr.heap.size := cell_lt c0
      have lw : b < w.heap.size := by
        obtain ⟨b2, off2, e, d0, _⟩ := tok_cells HS.out (Chg.refl _ _) ht
        injection e with e
        injection e with e
        subst e
        exact cell_lt d0
      have HTK := keepf (take_succ_at ht)
      have HT := keepf ht
      obtain ⟨tb, tl, tf⟩ := t
      simp only at c0 c1 c2'
      have ab : (Value.slice A2 k c2).ownBlock ≠ some b := by
        rcases A2 with _ | a2
        · simp [Value.ownBlock]
        · have h3 := HF.out a2 rfl
          simp [Value.ownBlock]
          omega
      have i5 : (k : Int) < n := by omega
      have hk2 : k ≤ 100000 := by omega
      clear ht
      go_upto_region 5 with fail
      first
        | (go_loud (go_region_held3 (fun w' => w'.cell? ⟨b, off + k * 3, none⟩ = some (.int .u8 (tb : Nat)) ∧ w'.cell? ⟨b, off + k * 3 + 1, none⟩ = some (.int .i64 tl) ∧ w'.cell? ⟨b, off + k * 3 + 2, none⟩ = some (.int .i64 tf))
            (first
              | (go_keep; done)
              | (go_split_ands
                 refine ⟨?_, ?_, ?_⟩
                 · (rw [hgrow.cell_far _ (by simp; omega) (Ne.symm ab)]; assumption)
                 · (rw [hgrow.cell_far _ (by simp; omega) (Ne.symm ab)]; assumption)
                 · (rw [hgrow.cell_far _ (by simp; omega) (Ne.symm ab)]; assumption)))
            ((refine step_append_lies _ (by rfl) _ _ _ (by rfl) 0 42 i0 _ 3 24 Try.underlying28 hi hz0 hz1 hz2 rfl (by omega) (.slice A2 k c2) k (kcells (l.take k)) (by rfl) ((own_chg (S := NoS) HO.out ((Chg.refl _ _).alloc _) (fun _ _ h => h)).drew)
                  ⟨wr.heap.size, 0, none⟩ 1 1 (encT ⟨tb, tl, tf⟩) (by rfl) (by rfl) (World.news_of_block (cs := #[.int .u8 (tb : Nat), .int .i64 tl, .int .i64 tf]) (t := 42) (fr := (0, 0)) (heap_alloc_new wr _)) (encT_one _)
                  (by omega) (by unfold maxLen; omega) (by omega) (Nat.zero_le _) (wr.heap.size + 1) (by simp) ?_; intro gg cap w1 hown1 hgrow hat hlt1))))
        | fail "region"
      have HO1 := keepf hown1
      have HG1 := keepf hgrow
      have HA1 := keepf hat
      clear hown1 hgrow hat hlt1
      go_wp2_with fail
      go_roundw
      case rel =>
        have HG2 := HG1.out
        refine ⟨k + 1, some ⟨gg, 0, none⟩, cap, by omega, by go_num, rfl, ?_, ?_, ?_⟩
        · show w1.ownsRow _ _ _ _ _ _
          rw [HTK.out, kcells_app, show kcells [⟨tb, tl, tf⟩] = encT ⟨tb, tl, tf⟩ from by simp [kcells]]
          exact HO1.out
        · exact grow_chg HC1.out HF.out (((Chg.refl NoS wr).alloc _).drew) HG1.out
        · rintro a h
          injection h with h
          subst h
          have hs := HC1.out.size
          show w.heap.size ≤ gg
          rcases HA1.out with h3 | h3
          · rcases A2 with _ | a2
            · simp [Value.ownBlock] at h3
            · have h4 := HF.out a2 rfl
              simp [Value.ownBlock] at h3
              omega
          · omega
      case measure => simp [intOf]; omega
    · have HE := keepf (show k = l.length by have := HN.out; omega)
      go_wp2_with fail
      go_ret
      have h := HO.out
      rw [HE.out, List.take_length] at h
      refine ⟨A2, c2, by rw [HE.out, HN.out]; rfl, by rw [HN.out]; exact src_own h, HC1.out⟩

set_option maxHeartbeats 1000000 in
set_option maxRecDepth 100000 in
theorem back_any (l : List Tk) (A : Option Addr) (c : Nat) (w : World) (hS : Src w 3 A l.length c (kcells l)) (hl : l.length ≤ 100000) :
    Calls Try.prog 13 #[.slice A l.length c] w (TurnTo w l l.length) := by
  obtain ⟨i0, hi, hz0, hz1, hz2⟩ := info_parts info_rtok
  have HS := keepf hS
  obtain ⟨n, hn⟩ : ∃ n, n = l.length := ⟨_, rfl⟩
  have HN := keepf hn
  rw [← hn] at hl HS ⊢
  clear hn hS
  go_enter Try.func13, Try.ntmps13
  go_wp2_with fail
  go_loopw [3, 4] (fun vo vk wr => ∃ k : Nat, ∃ A2 : Option Addr, ∃ c2 : Nat, k ≤ n ∧ vk = .int .i64 k ∧ vo = .slice A2 k c2 ∧ Hid (wr.ownsRow 0 46 3 (.slice A2 k c2) k (kcells (l.take k))) ∧ Hid (Chg NoS w wr) ∧ Hid (∀ a, A2 = some a → w.heap.size ≤ a.block)) (fun _ vk _ => n - (intOf vk).toNat)
  case atStart => exact ⟨0, none, 0, Nat.zero_le _, rfl, rfl, own_nil _ _ _ _, Chg.refl _ _, fun a h => by cases h⟩
  case round =>
    obtain ⟨k, A2, c2, hk, rfl, rfl, HO, HC1, HF⟩ := hrel
    by_cases hlt : k < n
    · obtain ⟨t, ht⟩ : ∃ t, l[k]? = some t := ⟨_, List.getElem?_eq_getElem (by have := HN.out; omega)⟩
      obtain ⟨b, off, rfl, c0, c1, c2'⟩ := tok_cells HS.out HC1.out ht
      have lb : b < wr.heap.size := cell_lt c0
      have lw : b < w.heap.size := by
        obtain ⟨b2, off2, e, d0, _⟩ := tok_cells HS.out (Chg.refl _ _) ht
        injection e with e
        injection e with e
        subst e
        exact cell_lt d0
      have HTK := keepf (take_succ_at ht)
      have HT := keepf ht
      obtain ⟨tb, tl, tf⟩ := t
      simp only at c0 c1 c2'
      have ab : (Value.slice A2 k c2).ownBlock ≠ some b := by
        rcases A2 with _ | a2
        · simp [Value.ownBlock]
        · have h3 := HF.out a2 rfl
          simp [Value.ownBlock]
          omega
      have i5 : (k : Int) < n := by omega
      have hk2 : k ≤ 100000 := by omega
      clear ht
      go_upto_region 5 with fail
      first
        | (go_loud (go_region_held3 (fun w' => w'.cell? ⟨b, off + k * 3, none⟩ = some (.int .u8 (tb : Nat)) ∧ w'.cell? ⟨b, off + k * 3 + 1, none⟩ = some (.int .i64 tl) ∧ w'.cell? ⟨b, off + k * 3 + 2, none⟩ = some (.int .i64 tf))
            (first
              | (go_keep; done)
              | (go_split_ands
                 refine ⟨?_, ?_, ?_⟩
                 · (rw [hgrow.cell_far _ (by simp; omega) (Ne.symm ab)]; assumption)
                 · (rw [hgrow.cell_far _ (by simp; omega) (Ne.symm ab)]; assumption)
                 · (rw [hgrow.cell_far _ (by simp; omega) (Ne.symm ab)]; assumption)))
            ((refine step_append_lies _ (by rfl) _ _ _ (by rfl) 0 46 i0 _ 3 24 Try.underlying22 hi hz0 hz1 hz2 rfl (by omega) (.slice A2 k c2) k (kcells (l.take k)) (by rfl) ((own_chg (S := NoS) HO.out ((Chg.refl _ _).alloc _) (fun _ _ h => h)).drew)
                  ⟨wr.heap.size, 0, none⟩ 1 1 (encT ⟨tb, tl, tf⟩) (by rfl) (by rfl) (World.news_of_block (cs := #[.int .u8 (tb : Nat), .int .i64 tl, .int .i64 tf]) (t := 46) (fr := (0, 0)) (heap_alloc_new wr _)) (encT_one _)
                  (by omega) (by unfold maxLen; omega) (by omega) (Nat.zero_le _) (wr.heap.size + 1) (by simp) ?_; intro gg cap w1 hown1 hgrow hat hlt1))))
        | fail "region"
      have HO1 := keepf hown1
      have HG1 := keepf hgrow
      have HA1 := keepf hat
      clear hown1 hgrow hat hlt1
      go_wp2_with fail
      go_roundw
      case rel =>
        have HG2 := HG1.out
        refine ⟨k + 1, some ⟨gg, 0, none⟩, cap, by omega, by go_num, rfl, ?_, ?_, ?_⟩
        · show w1.ownsRow _ _ _ _ _ _
          rw [HTK.out, kcells_app, show kcells [⟨tb, tl, tf⟩] = encT ⟨tb, tl, tf⟩ from by simp [kcells]]
          exact HO1.out
        · exact grow_chg HC1.out HF.out (((Chg.refl NoS wr).alloc _).drew) HG1.out
        · rintro a h
          injection h with h
          subst h
          have hs := HC1.out.size
          show w.heap.size ≤ gg
          rcases HA1.out with h3 | h3
          · rcases A2 with _ | a2
            · simp [Value.ownBlock] at h3
            · have h4 := HF.out a2 rfl
              simp [Value.ownBlock] at h3
              omega
          · omega
      case measure => simp [intOf]; omega
    · have HE := keepf (show k = l.length by have := HN.out; omega)
      go_wp2_with fail
      go_ret
      have h := HO.out
      rw [HE.out, List.take_length] at h
      refine ⟨A2, c2, by rw [HE.out, HN.out]; rfl, by rw [HN.out]; exact src_own h, HC1.out⟩
end Go.Proofs.Ytomkejeofcpchaa
