/- blocks.of: the block in which a place stands, made where it is not there. -/
import Derived.Test.YtnbjigopgbjneaaSoM
import Derived.WalkKit
import Derived.Deep.QuietTactic
import Derived.BigQuiet
import Derived.Outline
import Derived.WalkLawsBesides
namespace Go.Proofs.Ytnbjigopgbjneaa
open Go.RowKit
set_option linter.unusedVariables false

set_option maxRecDepth 100000 in
theorem zero_blk : (Try.prog.info? 85).bind (·.zero) = some (.agg (blkCs (fun _ => 0) 0)) := by kernel_rfl

/-- More blocks may be there; those that were there lie where they lay. -/
def Ext (w : World) (a a' : Nat → Option Nat) : Prop := (∀ k d, a k = some d → a' k = some d) ∧ ∀ k d, a' k = some d → a k = some d ∨ w.heap.size ≤ d

theorem Ext.refl (w : World) (a : Nat → Option Nat) : Ext w a a := ⟨fun _ _ h => h, fun _ _ h => .inl h⟩

theorem Ext.trans {w w' : World} {a b c : Nat → Option Nat} (h : Ext w a b) (k : Ext w' b c) (hs : w.heap.size ≤ w'.heap.size) : Ext w a c :=
  ⟨fun i d e => k.1 i d (h.1 i d e), fun i d e => by
    rcases k.2 i d e with e1 | e1
    · exact h.2 i d e1
    · exact .inr (by omega)⟩

/-- The block of a place. -/
def OfTo (w : World) (b m : Nat) (a : Nat → Option Nat) (c : Nat → Nat) (q : Nat) (e : Ending) (w' : World) : Prop :=
  ∃ d a' m', e = .returned (.pointer (some ⟨d, 0, none⟩)) ∧ MapP w' b m' a' ∧ m' ≤ m + 1 ∧ BlAt w' a' c ∧ a' q = some d ∧ Ext w a a' ∧ Chg (fun i => i = b) w w'

set_option maxHeartbeats 1000000 in
theorem of_any (b m : Nat) (a : Nat → Option Nat) (c : Nat → Nat) (p : Nat) (w : World) (hM : MapP w b m a) (hB : BlAt w a c) (hp : p ≤ 9223372036854775807) (hm : m ≤ 1000000000) :
    Calls Try.prog 39 #[.map (some b), .int .i64 (p : Nat)] w (OfTo w b m a c (p / 1024)) := by
  have HM := keepf hM
  have HB := keepf hB
  have hq : (p : Int).tdiv 1024 = ((p / 1024 : Nat) : Int) := by rw [Int.tdiv_eq_ediv_of_nonneg (by omega)]; omega
  obtain ⟨q, hqe⟩ : ∃ q, q = p / 1024 := ⟨_, rfl⟩
  rw [← hqe] at hq ⊢
  have hq2 : q < 9223372036854775808 := by omega
  clear hM hB hqe
  rcases hf : a q with _ | d
  · have HF := keepf hf
    clear hf
    go_enter Try.func39, Try.ntmps39
    go_wp2_with (first
      | (at_lookup; go_loud (refine look_map_none rfl (.tmp 6) (.tmp 8) rfl b m a q rfl HM.out rfl hq2 HF.out ?_))
      | (refine alloc_big rfl 85 rfl _ zero_blk ?_; intro w1 g hg hblk hch; have HG := keepf hg; have HBL := keepf hblk; have HCH := keepf hch; clear hg hblk hch)
      | (at_mapUpdate; go_loud (refine store_map rfl (.tmp 13) (.tmp 15) (.tmp 16) rfl b m a q g rfl (HM.out.chg HCH.out (fun h => h)) rfl rfl hq2 (by unfold maxLen; omega) ?_); intro w2 hm2 hg2; have HM2 := keepf hm2; have HG2 := keepf hg2; clear hm2 hg2))
    go_ret
    have hbl := HM.out.lt
    have hgs := HG.out
    have hc2 : Chg (fun i => i = b) w w2 := (HCH.out.mono (fun _ _ h => h.elim)).grown HG2.out (fun k e hk => by injection e with e; exact e.symm)
    have hd2 : Blk w2 g 85 (blkCs (fun _ => 0) 0) := HBL.out.grown HG2.out (by simp; omega)
    have hB2 : BlAt w2 a c := HB.out.chg hc2 (fun k d hk e => by
      have := (HB.out.lie k d hk)
      exact HM.out.ne this e)
    exact ⟨g, setP a q g, m + 1, rfl, HM2.out, Nat.le_refl _, hB2.more HF.out hd2 (fun j e hj => by have := HB.out.lt hj; omega), by simp [setP], ⟨fun k d hk => by
      unfold setP
      split
      · rename_i e; subst e; have := HF.out; rw [hk] at this; cases this
      · exact hk, fun k d hk => by
      unfold setP at hk
      split at hk
      · cases hk; exact .inr (by omega)
      · exact .inl hk⟩, hc2⟩
  · have HF := keepf hf
    clear hf
    go_enter Try.func39, Try.ntmps39
    go_wp2_with (first
      | (at_lookup; go_loud (refine look_map_some rfl (.tmp 6) (.tmp 8) rfl b m a q d rfl HM.out rfl hq2 HF.out ?_)))
    go_ret
    exact ⟨d, a, m, rfl, HM.out, by omega, HB.out, HF.out, Ext.refl _ _, Chg.refl _ _⟩

end Go.Proofs.Ytnbjigopgbjneaa
