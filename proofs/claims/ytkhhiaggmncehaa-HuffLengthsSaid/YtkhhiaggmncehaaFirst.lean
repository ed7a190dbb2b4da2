/- lesserFirst: the symbols of counts above 0, those of lesser counts first. -/
import Derived.Test.YtkhhiaggmncehaaLesser
import Derived.Laws.EntriesVeiled
namespace Go.Proofs.Ytkhhiaggmncehaa
open Go.RowKit
set_option linter.unusedVariables false
set_option linter.unusedSimpArgs false

/-- The symbols below k that have a count above 0. -/
def usedTo (cs : List Int) : Nat → List Int
  | 0 => []
  | k + 1 => if 0 < cs.getD k 0 then usedTo cs k ++ [(k : Int)] else usedTo cs k
theorem usedTo_pos {cs : List Int} {k : Nat} {z : Int} (h : cs[k]? = some z) (hz : 0 < z) : usedTo cs (k + 1) = usedTo cs k ++ [(k : Int)] := by
  simp [usedTo, List.getD_eq_getElem?_getD, h, hz]
theorem usedTo_neg {cs : List Int} {k : Nat} {z : Int} (h : cs[k]? = some z) (hz : ¬ 0 < z) : usedTo cs (k + 1) = usedTo cs k := by
  simp [usedTo, List.getD_eq_getElem?_getD, h, hz]
theorem usedTo_len (cs : List Int) (k : Nat) : (usedTo cs k).length ≤ k := by
  induction k with
  | zero => simp [usedTo]
  | succ k ih => unfold usedTo; split <;> (try simp) <;> omega
theorem usedTo_mem (cs : List Int) (k : Nat) (x : Int) : x ∈ usedTo cs k ↔ 0 ≤ x ∧ x < k ∧ 0 < keyOf cs x := by
  induction k with
  | zero => simp [usedTo]; omega
  | succ k ih =>
    unfold usedTo
    split
    · rename_i h
      rw [List.mem_append, ih, List.mem_singleton]
      constructor
      · rintro (⟨h1, h2, h3⟩ | rfl)
        · exact ⟨h1, by omega, h3⟩
        · exact ⟨by omega, by omega, by simpa [keyOf] using h⟩
      · rintro ⟨h1, h2, h3⟩
        by_cases h4 : x = k
        · exact .inr h4
        · exact .inl ⟨h1, by omega, h3⟩
    · rename_i h
      rw [ih]
      constructor
      · rintro ⟨h1, h2, h3⟩; exact ⟨h1, by omega, h3⟩
      · rintro ⟨h1, h2, h3⟩
        refine ⟨h1, ?_, h3⟩
        by_cases h4 : x = k
        · subst h4; exact absurd (by simpa [keyOf] using h3) h
        · omega
theorem usedTo_nodup (cs : List Int) (k : Nat) : (usedTo cs k).Nodup := by
  induction k with
  | zero => simp [usedTo]
  | succ k ih =>
    unfold usedTo
    split
    · rw [List.nodup_append]
      refine ⟨ih, by simp, fun a ha b hb => ?_⟩
      rw [List.mem_singleton] at hb
      subst hb
      have := ((usedTo_mem cs k a).1 ha).2.1
      omega
    · exact ih

/-- A row is the symbols of counts above 0, lesser counts first. -/
structure UsedIs (cs d : List Int) : Prop where
  perm : d.Perm (usedTo cs cs.length)
  sorted : Sorted (keyOf cs) d 0 d.length

def FirstTo (w : World) (cs : List Int) (e : Ending) (w' : World) : Prop :=
  ∃ A c d, e = .returned (.slice A d.length c) ∧ w'.ownsRow 0 3 1 (.slice A d.length c) d.length (icells d) ∧ UsedIs cs d ∧ Chg NoS w w' ∧ ∀ a, A = some a → w.heap.size ≤ a.block

theorem icells_snoc (ls : List Int) (z : Int) : icells (ls ++ [z]) = icells ls ++ [.int .i64 z] := by simp [icells]
theorem srcOneAt {w : World} {u : Value} {t : TypeId} {n : Nat} (h : n = w.heap.size) : Src (w.alloc (.cells #[u] t)) 1 (some ⟨n, 0, none⟩) 1 1 [u] := by
  subst h
  refine ⟨rfl, fun h => (by cases h), fun ad e j x hx => ?_⟩
  injection e with e
  subst e
  rcases j with _ | j
  · simp at hx; subst hx; exact (Blk.new w t #[u]).cell 0
  · simp at hx

theorem ins_nil (f : Value) (w : World) : Calls Try.prog 57 #[.slice none 0 0, .int .i64 0, .int .i64 0, f] w fun e w' => e = .returned (.tuple #[]) ∧ w = w' := by
  go_enter Try.func57, Try.ntmps57
  go_wp2_with fail
  go_loop [8] (fun v => v = .int .i64 1) (fun v => 0)
  case atStart => rfl
  case round =>
    subst hrel
    go_wp2_with fail
    go_end0
    exact ⟨rfl, rfl⟩

theorem stable_nil (f : Value) (w : World) : Calls Try.prog 53 #[.slice none 0 0, .int .i64 0, f] w fun e w' => e = .returned (.tuple #[]) ∧ w = w' := by
  go_enter Try.func53, Try.ntmps53
  go_wp2_with fail
  go_loop [7, 8] (fun va vb => va = .int .i64 0 ∧ vb = .int .i64 20) (fun va vb => 0)
  case atStart => exact ⟨rfl, rfl⟩
  case round =>
    obtain ⟨rfl, rfl⟩ := hrel
    go_wp2_with (go_at_call 57; refine (ins_nil _ _).mono ?_; rintro e w' ⟨rfl, rfl⟩)
    go_loop [6, 7, 8] (fun vc va vb => vc = .int .i64 20) (fun vc va vb => 0)
    case atStart => rfl
    case round =>
      subst hrel
      go_wp2_with fail
      go_end0
      exact ⟨rfl, rfl⟩

theorem sortStable_nil (f : Value) (w : World) : Calls Try.prog 46 #[.slice none 0 0, f] w fun e w' => e = .returned (.tuple #[]) ∧ w = w' := by
  go_enter Try.func46, Try.ntmps46
  go_wp2_with (go_at_call 53; refine (stable_nil _ _).mono ?_; rintro e w' ⟨rfl, rfl⟩)
  go_end0
  exact ⟨rfl, rfl⟩

set_option maxHeartbeats 4000000 in
set_option maxRecDepth 100000 in
theorem first_any (cs : List Int) (A : Option Addr) (c : Nat) (w : World) (h0 : 1 ≤ cs.length) (hL : cs.length ≤ 1000) (hS : Src w 1 A cs.length c (icells cs)) :
    Calls Try.prog 38 #[.slice A cs.length c] w (FirstTo w cs) := by
  obtain ⟨b, off, rfl, hcell⟩ := hS.plain (by rw [icells_len]; omega)
  have hlow : b < w.heap.size := by
    have h1 := hcell 0 _ (icells_get (List.getElem?_eq_getElem (by omega)))
    exact cell_lt h1
  have HS := keepf hS
  have HC := keepf hcell
  have HB := keepf (Blk.new w 22 #[.slice (some ⟨b, off, none⟩) cs.length c])
  obtain ⟨n, hn⟩ : ∃ n, n = cs.length := ⟨_, rfl⟩
  have HN := keepf hn
  rw [← hn] at HB hL h0 ⊢
  clear hn hS hcell
  have eg : Hid (∀ args w, (callFunc 47 args).run Try.prog w = .ok (.enter 47 args) w) := enters_of Try.func47 (by kernel_rfl) rfl
  obtain ⟨i0, hi, hz0, hz1, hz2⟩ := info_parts info_int
  have b0 := HB.out.cell 0
  simp at b0
  go_enter Try.func38, Try.ntmps38
  go_wp2_with fail
  go_loopw [3, 8] (fun va vb wr => ∃ k : Nat, ∃ A2 : Option Addr, ∃ c2 : Nat, k ≤ n ∧ vb = .int .i64 k ∧ va = .slice A2 (usedTo cs k).length c2 ∧ Hid (wr.ownsRow 0 3 1 (.slice A2 (usedTo cs k).length c2) (usedTo cs k).length (icells (usedTo cs k))) ∧ Hid (Blk wr w.heap.size 22 #[.slice (some ⟨b, off, none⟩) n c]) ∧ Hid (Chg NoS w wr) ∧ Hid (∀ a, A2 = some a → w.heap.size < a.block)) (fun _ vb _ => n - (intOf vb).toNat)
  case atStart => exact ⟨0, none, 0, Nat.zero_le _, rfl, rfl, own_nil _ _ _ _, HB.out, (Chg.refl _ _).alloc _, fun a h => by cases h⟩
  case round =>
    obtain ⟨k, A2, c2, hk, rfl, rfl, HO, HB1, HC1, HF⟩ := hrel
    have c0 := HB1.out.cell 0
    simp at c0
    by_cases hlt : k < n
    · obtain ⟨z, hz⟩ : ∃ z, cs[k]? = some z := ⟨_, List.getElem?_eq_getElem (by have := HN.out; omega)⟩
      have hc := (HC1.out.cell (p := ⟨b, off + k, none⟩) (by exact cell_lt (HC.out k _ (icells_get hz))) (fun h => h)).trans (HC.out k _ (icells_get hz))
      have HZ := keepf hz
      clear hz
      by_cases h1 : 0 < z
      · have d1 : decide (0 < z) = true := by simpa using h1
        have hul := keepf (usedTo_len cs k)
        have hnk := keepf (own_ne_blk HO.out HB1.out (by decide))
        go_wp2_with (first
          | (at_builtin; go_loud (refine wpList_append_src rfl (.tmp 15) (.tmp 17) 22 rfl 3 i0 (.int .i64 0) 1 8 Try.underlying22 hi hz0 hz1 hz2 rfl (by decide) (.slice A2 (usedTo cs k).length c2) _ _ rfl (own_chg (S := NoS) HO.out ((Chg.refl _ _).alloc _) (fun _ _ h => h)) _ _ _ [.int .i64 k] rfl (srcOneAt (by simp)) (by simp [Value.oneCell']) (by have := hul.out; unfold maxLen; omega) (by have := hul.out; omega) ?_); intro S2 w2 hown2 hgr hat; obtain ⟨A3, c3, rfl, hA3⟩ := own_slice hown2; have HB2 := keepf (HB1.out.alloc (.cells #[.int .i64 k] 3) |>.grown hgr (fun e => hnk.out e.symm)); have HG2 := keepf hgr; have HO2 := keepf hown2; have HA2 := keepf hat; clear hgr hown2 hat hA3))
        go_roundw
        case rel =>
          refine ⟨k + 1, A3, c3, by omega, by go_num, ?_, ?_, HB2.out, (HC1.out.alloc _).grown HG2.out ?_, ?_⟩
          · rw [usedTo_pos HZ.out h1]; simp
          · have h2 := HO2.out
            rw [usedTo_pos HZ.out h1, icells_snoc]
            exact keepf (by simpa using h2)
          · intro i hi hlt2
            rcases A2 with _ | a2
            · simp [Value.ownBlock] at hi
            · have h3 := HF.out a2 rfl
              simp [Value.ownBlock] at hi
              omega
          · rintro a rfl
            have hs := HC1.out.size
            rcases HA2.out with h3 | h3
            · rcases A2 with _ | a2
              · simp [Value.ownBlock] at h3
              · have h4 := HF.out a2 rfl
                simp [Value.ownBlock] at h3
                omega
            · have h4 := HB1.out.lt
              simp [Value.ownBlock] at h3
              omega
        case measure => simp [intOf]; omega
      · have d1 : decide (0 < z) = false := by simpa using h1
        go_wp2_with fail
        go_roundw
        case rel => exact ⟨k + 1, A2, c2, by omega, by go_num, by rw [usedTo_neg HZ.out h1], by rw [usedTo_neg HZ.out h1]; exact HO.out, HB1.out, HC1.out, HF.out⟩
        case measure => simp [intOf]; omega
    · obtain rfl : n = k := by omega
      obtain ⟨d, hd⟩ : ∃ d, d = usedTo cs n := ⟨_, rfl⟩
      rw [← hd] at HO ⊢
      have hul := usedTo_len cs n
      rw [← hd] at hul
      have hgood : Good n d := fun x hx => by
        rw [hd] at hx
        have h1 := (usedTo_mem cs n x).1 hx
        exact ⟨h1.1, h1.2.1⟩
      have HD := keepf hd
      have HGO := keepf hgood
      clear hd hgood
      have hnk := keepf (own_ne_blk HO.out HB1.out (by decide))
      rcases A2 with _ | ad
      · have hd0 : d = [] := by
          have h1 := HO.out.2
          rcases h1 with ⟨_, h2⟩ | ⟨g', cap, cur, hv, _⟩
          · exact List.eq_nil_of_length_eq_zero h2
          · cases hv
        subst hd0
        obtain ⟨rfl⟩ : c2 = 0 := by
          have h1 := HO.out.2
          rcases h1 with ⟨h3, h2⟩ | ⟨g', cap, cur, hv, _⟩
          · injection h3
          · cases hv
        go_wp2_with (go_at_call 46; refine (sortStable_nil _ _).mono ?_; rintro e w' ⟨rfl, rfl⟩)
        go_ret
        exact ⟨none, 0, [], rfl, own_nil _ _ _ _, ⟨by rw [← HN.out, ← HD.out], fun i j h1 h2 h3 => absurd h3 (by simp)⟩, HC1.out, fun a h => by cases h⟩
      · obtain ⟨gs, rfl⟩ : ∃ gs, ad = ⟨gs, 0, none⟩ := by
          have h1 := HO.out.2
          rcases h1 with ⟨h3, h2⟩ | ⟨g', cap, cur, hv, _⟩
          · injection h3 with h3; cases h3
          · injection hv with hv; injection hv with hv; exact ⟨g', hv⟩
        have hgs : w.heap.size < gs := HF.out _ rfl
        have hrow : Row wr gs c2 d := HO.out
        have hcmp : CmpOf 47 #[.pointer (some ⟨w.heap.size, 0, none⟩)] (keyOf cs) n gs wr := by
          intro x y W hx0 hx hy0 hy hW
          have h1 : W.cell? ⟨w.heap.size, 0, none⟩ = some (.slice (some ⟨b, off, none⟩) n c) := (HB1.out.chg hW (by omega)).cell 0
          have h2 : Src W 1 (some ⟨b, off, none⟩) cs.length c (icells cs) := (HS.out.below (w0 := w) HC1.out).chg hW (by rintro a h3 _; injection h3 with h3; subst h3; show ¬ b = gs; omega) (by simp [icells])
          rw [HN.out] at h1 hx hy
          exact less_any _ _ c cs x y W h1 h2 hx0 hx hy0 hy
        have HP := keepf (sortStable_any _ _ eg.out (keyOf cs) n gs c2 wr hcmp d wr (by omega) hrow HGO.out (Chg.refl _ _))
        clear hrow hcmp
        go_wp2_with (go_at_call 46; refine HP.out.mono ?_; rintro e w3 ⟨rfl, d3, hr3, hs3, hq3, hc3⟩; have HR3 := keepf hr3; have HS3 := keepf hs3; have HQ3 := keepf hq3; have HC3 := keepf hc3; clear hr3 hs3 hq3 hc3)
        go_ret
        have hl := HS3.out.len
        refine ⟨some ⟨gs, 0, none⟩, c2, d3, ?_, HR3.out, ⟨?_, ?_⟩, HC1.out.trans HC3.out (fun i h1 h2 => by omega), ?_⟩
        · simp [hl]
        · rw [← HN.out, ← HD.out]; exact HS3.out.perm
        · rw [hl]; exact HQ3.out
        · rintro a h; injection h with h; subst h; exact Nat.le_of_lt hgs
end Go.Proofs.Ytkhhiaggmncehaa
