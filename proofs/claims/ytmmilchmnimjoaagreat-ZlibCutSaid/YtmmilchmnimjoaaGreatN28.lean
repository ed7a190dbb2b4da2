/- Merged by program: CutM. -/
import Derived.Test.YtmmilchmnimjoaaGreatN17
/- Packed bytes that end too early: plain mathematics of the machine, no program. -/
namespace Go.Proofs.YtmmilchmnimjoaaGreat
open Go.RowKit
set_option linter.unusedVariables false
set_option linter.unusedSimpArgs false
def StOk (s : St) : Prop :=
  match s.m with
  | .lens ls _ _ _ _ => May ls
  | .coded ls ds _ => May ls ∧ May ds
  | .dist _ ls ds _ => May ls ∧ May ds
  | _ => True
theorem Step.ok {bs : List Nat} {most : Nat} {s t : St} (h : Step bs most s (.inl t)) (hs : StOk s) : StOk t := by
  cases h with
  | head e =>
    unfold stHead at e
    repeat' split at e
    all_goals first
      | cases e; done
      | (injection e with e; subst e; first | exact trivial | exact ⟨fixS_may, fixD_may⟩)
  | stored e =>
    unfold stStored at e
    repeat' split at e
    all_goals first
      | cases e; done
      | (injection e with e; subst e; exact trivial)
  | plain e =>
    unfold stPlain at e
    repeat' split at e
    all_goals first
      | cases e; done
      | (injection e with e; subst e; exact trivial)
  | own e =>
    unfold stOwn at e
    repeat' split at e
    all_goals first
      | cases e; done
      | (injection e with e; subst e; exact trivial)
  | kinds e =>
    unfold stKinds at e
    repeat' split at e
    all_goals first
      | cases e; done
      | (injection e with e; subst e; first | exact trivial | assumption)
  | lensEnd h e =>
    unfold stEnd at e
    repeat' split at e
    all_goals first
      | cases e; done
      | (rename_i h1 h2 h3; injection e with e; subst e; exact ⟨Classical.not_not.1 h2, Classical.not_not.1 h3⟩)
  | lens h o e =>
    unfold stLens stRun at e
    repeat' split at e
    all_goals first
      | cases e; done
      | (injection e with e; subst e; exact hs)
  | coded o e =>
    unfold stCoded at e
    repeat' split at e
    all_goals first
      | cases e; done
      | (injection e with e; subst e; first | exact trivial | exact hs)
  | dist o e =>
    unfold stDist at e
    repeat' split at e
    all_goals first
      | cases e; done
      | (injection e with e; subst e; exact hs)
theorem Agree.cut {bs bs2 : List Nat} (h : Agree bs bs2 (8 * bs2.length)) {ls : List Int} {a n s : Nat} (hM : May ls) (ha : a ≤ 8 * bs2.length) (hn : 8 * bs2.length < a + n) (ho : Out ls (leftBits false bs a) s n 0) :
    Out ls (leftBits false bs2 a) 0 (8 * bs2.length - a) 10 := by
  generalize hk : (0 : Int) = k at ho
  cases ho with
  | ok _ _ hh h0 =>
    have e : 8 * bs2.length - a = (leftBits false bs2 a).length := (leftBits_len ..).symm
    have hd := deepL_of hM.2.2.1 hh.1 hh.2.2.1
    rw [e]
    refine .cut (by omega) (fun m q hm => ?_)
    have h1 := hm.2.1
    exact h0 m q (by omega) (h.symm.hit (by omega) hm)
  | cut _ _ => omega
  | code _ _ => omega
theorem Step.cut {bs bs2 : List Nat} {most : Nat} {s t : St} (hA : Agree bs bs2 (8 * bs2.length)) (ho : StOk s) (hs : s.a ≤ 8 * bs2.length) (ht : 8 * bs2.length < t.a) (h : Step bs most s (.inl t)) : Step bs2 most s (.inr (.err 10)) := by
  cases h with
  | @head a out _ e =>
    refine .head ?_
    have h3 : t.a = a + 3 := by
      unfold stHead at e
      repeat' split at e
      all_goals first
        | (injection e with e; rw [← e]; done)
        | cases e
    unfold stHead
    rw [if_pos (by omega)]
  | @stored a out last _ e =>
    refine .stored ?_
    have h3 : t.a = (a + 7) / 8 * 8 + 32 := by
      unfold stStored at e
      repeat' split at e
      all_goals first
        | (injection e with e; rw [← e]; done)
        | cases e
    unfold stStored
    rw [if_pos (by omega)]
  | @plain a out k last _ e =>
    refine .plain ?_
    simp only at hs
    unfold stPlain at e ⊢
    by_cases h1 : k = 0
    · rw [if_pos h1] at e
      split at e
      · injection e with e
        subst e
        simp only at ht
        omega
      · cases e
    · rw [if_neg h1] at e ⊢
      have h3 : t.a = a + 8 := by
        repeat' split at e
        all_goals first
          | (injection e with e; rw [← e]; done)
          | cases e
      rw [if_pos (by omega)]
  | @own a out last _ e =>
    refine .own ?_
    have h3 : t.a = a + 14 := by
      unfold stOwn at e
      repeat' split at e
      all_goals first
        | (injection e with e; rw [← e]; done)
        | cases e
    unfold stOwn
    rw [if_pos (by omega)]
  | @kinds a out todo l n ns last _ e =>
    refine .kinds ?_
    simp only at hs
    cases todo with
    | nil =>
      simp only [stKinds] at e
      split at e
      · injection e with e
        subst e
        simp only at ht
        omega
      · cases e
    | cons s r =>
      simp only [stKinds] at e ⊢
      have h3 : t.a = a + 3 := by
        repeat' split at e
        all_goals first
          | (injection e with e; rw [← e]; done)
          | cases e
      rw [if_pos (by omega)]
  | @lensEnd a out ls l n ns last _ h e =>
    exfalso
    simp only at hs
    unfold stEnd at e
    repeat' split at e
    all_goals first
      | cases e; done
      | (injection e with e; subst e; simp only at ht; omega)
  | @lens a out ls l n ns last s m k _ h o e =>
    simp only at hs
    by_cases hk : k = 0
    · subst hk
      by_cases hc : 8 * bs2.length < a + m
      · refine .lens h (hA.cut ho hs hc o) ?_
        unfold stLens
        rw [if_pos (by decide)]
      · refine .lens h (hA.out (by omega) o) ?_
        unfold stLens at e ⊢
        rw [if_neg (by simp)] at e ⊢
        have hrun : ∀ {b times : Nat} {v : Int}, stRun b out ls l n ns last times v = .inl t → t.a = b := fun {b times v} hr => by
          unfold stRun at hr
          split at hr
          · cases hr
          · injection hr with hr
            rw [← hr]
        by_cases h1 : s = 16
        · rw [if_pos h1] at e ⊢
          have h3 : t.a = a + m + 2 := by
            split at e
            · cases e
            · split at e
              · cases e
              · exact hrun e
          rw [if_pos (by omega)]
        · rw [if_neg h1] at e ⊢
          by_cases h4 : s = 17
          · rw [if_pos h4] at e ⊢
            have h3 : t.a = a + m + 3 := by
              split at e
              · cases e
              · exact hrun e
            rw [if_pos (by omega)]
          · rw [if_neg h4] at e ⊢
            by_cases h5 : s = 18
            · rw [if_pos h5] at e ⊢
              have h3 : t.a = a + m + 7 := by
                split at e
                · cases e
                · exact hrun e
              rw [if_pos (by omega)]
            · rw [if_neg h5] at e
              have := hrun e
              omega
    · unfold stLens at e
      rw [if_pos hk] at e
      cases e
  | @coded a out ls ds last s m k _ o e =>
    simp only at hs
    by_cases hk : k = 0
    · subst hk
      by_cases hc : 8 * bs2.length < a + m
      · refine .coded (hA.cut ho.1 hs hc o) ?_
        unfold stCoded
        rw [if_pos (by decide)]
      · refine .coded (hA.out (by omega) o) ?_
        unfold stCoded at e ⊢
        rw [if_neg (by simp)] at e ⊢
        by_cases h1 : s = 256
        · rw [if_pos h1] at e
          injection e with e
          subst e
          simp only at ht
          omega
        · rw [if_neg h1] at e ⊢
          by_cases h2 : s < 256
          · rw [if_pos h2] at e
            split at e
            · cases e
            · injection e with e
              subst e
              simp only at ht
              omega
          · rw [if_neg h2] at e ⊢
            cases h3 : lenOf s with
            | none => rw [h3] at e; cases e
            | some xn =>
              obtain ⟨x, n⟩ := xn
              rw [h3] at e
              simp only at e ⊢
              split at e
              · cases e
              · injection e with e
                subst e
                simp only at ht
                rw [if_pos (by omega)]
    · unfold stCoded at e
      rw [if_pos hk] at e
      cases e
  | @dist a out x ls ds last s m k _ o e =>
    simp only at hs
    by_cases hk : k = 0
    · subst hk
      by_cases hc : 8 * bs2.length < a + m
      · refine .dist (hA.cut ho.2 hs hc o) ?_
        unfold stDist
        rw [if_pos (by decide)]
      · refine .dist (hA.out (by omega) o) ?_
        unfold stDist at e ⊢
        rw [if_neg (by simp)] at e ⊢
        cases h3 : distOf s with
        | none => rw [h3] at e; cases e
        | some yn =>
          obtain ⟨y, n⟩ := yn
          rw [h3] at e
          simp only at e ⊢
          have h5 : t.a = a + m + n := by
            repeat' split at e
            all_goals first
              | (injection e with e; rw [← e]; done)
              | cases e
          rw [if_pos (by omega)]
    · unfold stDist at e
      rw [if_pos hk] at e
      cases e
theorem Runs.cut {bs bs2 : List Nat} {most : Nat} {s : St} {out : List Nat} {a : Nat} (hA : Agree bs bs2 (8 * bs2.length)) (ha : 8 * bs2.length < a) (h : Runs bs most s (.ok out a)) (hs : s.a ≤ 8 * bs2.length) (ho : StOk s) : Runs bs2 most s (.err 10) := by
  generalize hr : Res.ok out a = r at h
  induction h with
  | stop h =>
    subst hr
    obtain ⟨h1, _⟩ := h.last
    omega
  | @go s t r h k ih =>
    rcases Nat.lt_or_ge (8 * bs2.length) t.a with h1 | h1
    · exact .stop (h.cut hA ho hs h1)
    · exact .go (h.behind hA h1) (ih h1 (h.ok ho) hr)
theorem bitAt_take (bs : List Nat) {n i : Nat} (h : i < 8 * n) (hn : n ≤ bs.length) : bitAt false bs i = bitAt false (bs.take n) i := by
  unfold bitAt
  simp only [List.getD_eq_getElem?_getD, List.getElem?_take_of_lt (show i / 8 < n by omega)]
theorem agree_cut (bs : List Nat) (n : Nat) (hn : n ≤ bs.length) : Agree bs (bs.take n) (8 * (bs.take n).length) := by
  have hl : (bs.take n).length = n := by rw [List.length_take]; omega
  rw [hl]
  exact ⟨by omega, by rw [hl]; exact Nat.le_refl _, fun i hi => bitAt_take bs hi hn⟩
theorem packed_cut {k : Nat} {bs : List Nat} {L : List Bool} {most m : Nat} (h : Packed k bs L) (hb : ∀ x ∈ bs, x < 256) (hm : bs.length ≤ most) (hc : m < (bytesOf false L).length) : Runs ((bytesOf false L).take m) most st0 (.err 10) := by
  have hl : ((bytesOf false L).take m).length = m := by rw [List.length_take]; omega
  refine (packed_runs (most := most) h hb hm).cut (agree_cut _ _ (by omega)) ?_ (Nat.zero_le _) trivial
  rw [hl]
  rw [bytesOf_length] at hc
  unfold nby at hc
  omega
theorem agree_more (bs ms : List Nat) : Agree bs (bs ++ ms) (8 * bs.length) := by
  refine ⟨Nat.le_refl _, by rw [List.length_append]; omega, fun i hi => ?_⟩
  have := bitAt_take (bs ++ ms) hi (by rw [List.length_append]; omega)
  rw [List.take_left] at this
  exact this.symm
theorem packed_more {k : Nat} {bs ms : List Nat} {L : List Bool} {most : Nat} (h : Packed k bs L) (hb : ∀ x ∈ bs, x < 256) (hm : bs.length ≤ most) : Runs (bytesOf false L ++ ms) most st0 (.ok bs L.length) :=
  (packed_runs (most := most) h hb hm).behind (agree_more _ ms) (by rw [bytesOf_length]; unfold nby; omega)
end Go.Proofs.YtmmilchmnimjoaaGreat
