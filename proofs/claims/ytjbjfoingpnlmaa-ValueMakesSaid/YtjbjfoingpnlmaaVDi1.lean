/- Append of values at a step of a region that draws its order. -/
import Derived.Test.YtjbjfoingpnlmaaVSrt
import Derived.Test.YtjbjfoingpnlmaaHeldZ
import Derived.Test.YtjbjfoingpnlmaaVMk
import Derived.Deep.AppendLies
namespace Go.Proofs.Ytjbjfoingpnlmaa
open Go.RowKit
set_option linter.unusedVariables false
set_option linter.unusedSimpArgs false

theorem step_appV {w wr W : World} {ops : Array Oper} {o : Oper} {a : Act} {K : Act → World → Prop} {Q : Exit → Act → World → Prop} {E : Prop} {es new : List VC} {ts tn : List VT} {n c m cx : Nat} {A X : Option Addr} (hgd : o.guard = none) (s x : Operand)
    (ho : o.op = .call { callee := .builtin .append, args := #[s, x], argTypes := #[22, 22] }) (hs : a.eval s = .slice A n c) (hx : a.eval x = .slice X m cx)
    (h : GV w wr es ts n A c) (hc : Chg NoS wr W) (hn : n ≤ 2000000000) (hm : m ≤ 2000000000) (hsrc : Src W 4 X m cx (vcells new)) (hlen : new.length = m) (htl : tn.length = m) (his : ∀ (j : Nat) (t : VT) (e : VC), tn[j]? = some t → new[j]? = some e → ValIs w t e)
    (k : ∀ A3 c3 w', GV w w' (es ++ new) (ts ++ tn) (n + m) A3 c3 → (∀ (g : Nat) (T : TypeId) (cs : Array Value), Blk W g T cs → (Value.slice A n c).ownBlock ≠ some g → Blk w' g T cs ∧ (Value.slice A3 (n + m) c3).ownBlock ≠ some g) → K (a.put o.dst (.slice A3 (n + m) c3)) w') :
    if Region.wanted o (yielded ops a.tmps) = true then Oper.wp Try.prog o a W K Q else E := by
  have hw : Region.wanted o (yielded ops a.tmps) = true := by simp [Region.wanted, hgd]
  rw [if_pos hw]
  obtain ⟨i0, hi, hz0, hz1, hz2⟩ := info_partsV info_VC
  have hown := own_chg (S := NoS) h.own hc (fun _ _ e => e)
  have hend : ∀ v' w', w'.ownsRow 0 24 4 v' (n + m) (vcells es ++ vcells new) → W.grownBy w' (Value.slice A n c).ownBlock → (v'.ownBlock = (Value.slice A n c).ownBlock ∨ v'.ownBlock = some W.heap.size) → K (a.put o.dst v') w' := by
    intro S2 w4 hown4 hgr4 hat4
    obtain ⟨A4, c4, rfl, hA4⟩ := own_slice hown4
    refine k A4 c4 w4 ⟨by rw [vcells_app]; exact hown4, ?_, ?_, by rw [List.length_append, h.len, hlen], by rw [List.length_append, h.tlen, htl], is_app h.len h.tlen h.is his⟩ (fun g T cs hb hne => ⟨hb.grown hgr4 (fun e => hne e.symm), fun e => ?_⟩)
    · refine (h.chg.trans hc (fun _ _ e => e)).grown hgr4 (fun kk e hk => ?_)
      rcases A with _ | b
      · simp [Value.ownBlock] at e
      · have e2 : b.block = kk := by simpa [Value.ownBlock] using e
        have := h.new b rfl
        omega
    · rintro b rfl
      have hsz := h.chg.size
      have hsz2 := hc.size
      rcases hat4 with e | e
      · rcases A with _ | d
        · simp [Value.ownBlock] at e
        · have e2 : b.block = d.block := by simpa [Value.ownBlock] using e
          rw [e2]
          exact h.new d rfl
      · have e2 : b.block = W.heap.size := by simpa [Value.ownBlock] using e
        omega
    · rcases hat4 with h2 | h2
      · exact hne (h2.symm.trans e)
      · have h3 := hb.lt
        have h4 : some W.heap.size = some g := h2.symm.trans e
        simp only [Option.some.injEq] at h4
        omega
  have hu : Try.prog.underlying 22 = some (.slice 24) := Try.underlying22
  rcases X with _ | ad
  · obtain ⟨h0, h1⟩ := hsrc.2.1 rfl
    subst h0 h1
    have hnn : new = [] := List.eq_nil_of_length_eq_zero hlen
    subst hnn
    have hrun := run_append_owned_none (P := Try.prog) (w := W) 0 22 o.type 24 i0 4 hu hi (.slice A n c) n (vcells es) hown
    unfold Oper.wp execOp
    simp only [ho, resolve, invoke, builtin, Sem.run_bind, Sem.run_pure, Result.andThen_ok, List.map_toArray, List.map_cons, List.map_nil, hs, hx, hrun]
    exact hend _ _ (by rw [show vcells [] = [] from rfl, List.append_nil]; exact hown) (World.grownBy.refl W _) (.inl rfl)
  · obtain ⟨v', w', hr, h2, h3, _, h5⟩ := run_append_own_at (P := Try.prog) W 0 22 o.type 24 i0 _ 4 56 hu hi hz0 hz1 hz2 rfl (by decide) (.slice A n c) n (vcells es) hown ad m cx (vcells new) hsrc.1 (hsrc.2.2 ad rfl) (vcells_cell _) (by unfold maxLen; omega) (by omega) (Nat.zero_le _)
    unfold Oper.wp execOp
    simp only [ho, resolve, invoke, builtin, Sem.run_bind, Sem.run_pure, Result.andThen_ok, List.map_toArray, List.map_cons, List.map_nil, hs, hx, hr]
    exact hend _ _ h2 h3 h5
end Go.Proofs.Ytjbjfoingpnlmaa
