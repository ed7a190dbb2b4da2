/- A byte more; bytes again. -/
import Derived.Test.YtbdnhhhagpgibaaPack
import Derived.BigRegion
namespace Go.Proofs.Ytbdnhhhagpgibaa
open Go.RowKit
set_option linter.unusedVariables false
set_option linter.unusedSimpArgs false

theorem put_done {w w2 : World} {g gr a most x : Nat} {bs out : List Nat} {S So S2 fx : Value} {o : Obj} (hP : Pk w g gr bs a S most out So fx) (hlt : out.length < most)
    (ho : w2.ownsRow 0 5 1 S2 (out.length + 1) (ucells out ++ [.int .u8 (x : Nat)])) (hg : (w.alloc o).grownBy w2 So.ownBlock) (hat : S2.ownBlock = So.ownBlock ∨ S2.ownBlock = some (w.alloc o).heap.size) :
    Pk (w2.setCell ⟨g, 2, none⟩ S2) g gr bs a S most (out ++ [x]) S2 fx ∧ Mv g gr w So (w2.setCell ⟨g, 2, none⟩ S2) S2 := by
  have hsz : (w.alloc o).heap.size = w.heap.size + 1 := by simp
  have hlg := hP.blk.lt
  have hne : some g ≠ So.ownBlock := fun e => own_ne_blk hP.own hP.blk (by decide) e.symm
  have hb2 : Blk w2 g 46 _ := (hP.blk.alloc o).grown hg hne
  have hc1 : Chg (fun i => So.ownBlock = some i) w w2 := ((Chg.refl _ w).alloc o).grown hg (fun k e _ => e)
  have hc2 : Chg (fun i => i = g ∨ So.ownBlock = some i) w (w2.setCell ⟨g, 2, none⟩ S2) := (hc1.mono (fun _ _ e => .inr e)).setCell (p := ⟨g, 2, none⟩) (fun _ => .inl rfl) _
  have hne2 := own_ne_blk ho hb2 (by decide)
  have hmv : Mv g gr w So (w2.setCell ⟨g, 2, none⟩ S2) S2 := by
    refine ⟨hc2.mono (fun i _ e => e.imp id .inr), fun i hi e => ?_⟩
    rcases hat with h | h
    · rw [← h]; exact e
    · rw [h] at e; injection e with e; omega
  refine ⟨⟨?_, ⟨hP.rd.1.chg hc2 ?_, own_chg hP.rd.2 hc2 ?_⟩, ?_, ?_, ?_, hP.le, hP.len, hP.byt, hP.mst, by simp; omega⟩, hmv⟩
  · have h := hb2.set_ 2 S2
    simpa using h
  · rintro (e | e)
    · exact hP.ne e.symm
    · exact own_ne_blk hP.own hP.rd.1 (by decide) e
  · rintro i hi (e | e)
    · exact own_ne_blk hP.rd.2 hP.blk (by decide) (by rw [hi, e])
    · exact hP.sep i hi e
  · have h := own_chg (S := fun i => i = g) ho ((Chg.refl (fun i => i = g) _).setCell (p := ⟨g, 2, none⟩) (fun _ => rfl) S2) (fun i hi e => hne2 (by rw [hi, e]))
    simpa [ucells] using h
  · intro i hi e
    rcases hat with h | h
    · exact hP.sep i hi (by rw [← h]; exact e)
    · rw [h] at e
      injection e with e
      have := own_lt hP.rd.2 hi
      omega
  · exact hP.fix.imp id (fun ⟨c, h1, h2⟩ => ⟨c, h1, hP.cd h2 hmv.1⟩)

/-- Behind a byte more, or too much. -/
def PutTo2 (w : World) (g gr : Nat) (bs : List Nat) (a : Nat) (S : Value) (most : Nat) (out out' : List Nat) (So fx : Value) (e : Ending) (w' : World) : Prop :=
  ∃ So', e = .returned (.int .i64 0) ∧ Pk w' g gr bs a S most out' So' fx ∧ Mv g gr w So w' So'

theorem pput_no (w : World) (g gr a most x : Nat) (bs out : List Nat) (S So fx : Value) (hP : Pk w g gr bs a S most out So fx) (h : most ≤ out.length) :
    Calls Try.prog 50 #[.pointer (some ⟨g, 0, none⟩), .int .u8 x] w fun e w' => e = .returned (.int .i64 3) ∧ ∃ m, w' = w.drewN m := by
  have c1 := hP.c1
  have c2 := hP.c2
  obtain ⟨A, cap, rfl, hA⟩ := own_slice hP.own
  have d1 : decide ((most : Int) ≤ out.length) = true := by simp; omega
  have d2 : decide (most ≤ out.length) = true := by simp; omega
  have hm := hP.mst
  have hL := hP.ole
  clear hP hA
  go_enter Try.func50, Try.ntmps50
  go_wp2
  go_quiet (fail)
  go_wp2_with fail
  go_ret
  exact ⟨rfl, _, rfl⟩

set_option maxRecDepth 100000 in
theorem pput (w : World) (g gr a most x : Nat) (bs out : List Nat) (S So fx : Value) (hP : Pk w g gr bs a S most out So fx) (h : out.length < most) :
    Calls Try.prog 50 #[.pointer (some ⟨g, 0, none⟩), .int .u8 x] w (PutTo2 w g gr bs a S most out (out ++ [x]) So fx) := by
  have c1 := hP.c1
  have c2 := hP.c2
  have hf := hP.blk.frozen 2
  obtain ⟨A, cap, rfl, hA⟩ := own_slice hP.own
  have d1 : decide ((most : Int) ≤ out.length) = false := by simp; omega
  have d2 : decide (most ≤ out.length) = false := by simp; omega
  have hm := hP.mst
  have hL := hP.ole
  obtain ⟨i0, hi, hz0, hz1, hz2⟩ := info_parts info_u8
  have HP := keepf hP
  have HLT := keepf h
  have HNE := keepf (show some g ≠ (Value.slice A out.length cap).ownBlock from fun e => own_ne_blk hP.own hP.blk (by decide) e.symm)
  clear hP hA h
  go_enter Try.func50, Try.ntmps50
  go_wp2
  go_quiet (fail)
  go_wp2_with (first
    | (at_builtin; go_loud (refine wpList_append_src rfl (.tmp 19) (.tmp 21) 22 rfl 5 i0 (.int .u8 0) 1 1 Try.underlying22 hi hz0 hz1 hz2 rfl (by decide) (.slice A out.length cap) _ _ rfl (own_chg (S := NoS) (own_drewN HP.out.own nq) ((Chg.refl _ _).alloc _) (fun _ _ h => h)) _ _ _ [.int .u8 (x : Nat)] rfl (src_one _ _ _) (by simp [Value.oneCell']) (by unfold maxLen; omega) (by omega) ?_); intro S2 w2 hown2 hgr hat; obtain ⟨A2, c2, rfl, hA2⟩ := own_slice hown2; have hb2 := ((HP.out.blk.drewN nq).alloc _).grown hgr HNE.out; have q2 := hb2.frozen 2; have e2 := hb2.cell 2; have HG := keepf hgr; have HO2 := keepf hown2; have HA2 := keepf hat; clear hgr hown2 hat hA2 hb2))
  go_ret
  obtain ⟨h1, h2⟩ := put_done (HP.out.drewN nq) HLT.out HO2.out HG.out HA2.out
  exact ⟨_, rfl, h1, ⟨h2.1.undrewN, h2.2⟩⟩
end Go.Proofs.Ytbdnhhhagpgibaa
