/- put: a token's bytes, behind others. -/
import Derived.Test.YtomkejeofcpchaaTokens
namespace Go.Proofs.Ytomkejeofcpchaa
open Go.RowKit
set_option linter.unusedVariables false
set_option linter.unusedSimpArgs false

theorem info_byte : (Try.prog.info? 5).map (fun i => (i.zero, i.size, i.bytes)) = some (some (.int .u8 0), 1, 1) := by kernel_rfl

/-- Bytes of the call's own that grow, from those of the slice V on. -/
structure OLoop (w wr : World) (V : Value) (o : List Nat) (A2 : Option Addr) (c2 : Nat) : Prop where
  own : wr.ownsRow 0 5 1 (.slice A2 o.length c2) o.length (ocells o)
  chg : Chg (fun i => V.ownBlock = some i) w wr
  new : ∀ a, A2 = some a → V.ownBlock = some a.block ∨ w.heap.size ≤ a.block
theorem OLoop.start {w : World} {A : Option Addr} {c : Nat} {o : List Nat} (h : w.ownsRow 0 5 1 (.slice A o.length c) o.length (ocells o)) : OLoop w w (.slice A o.length c) o A c :=
  ⟨h, Chg.refl _ _, fun a ha => by subst ha; exact .inl rfl⟩
theorem OLoop.turn {w wr w2 wr' : World} {V : Value} {o : List Nat} {A2 A3 : Option Addr} {c2 c3 x : Nat} (h : OLoop w wr V o A2 c2) (hc : Chg NoS wr w2) (hg : w2.grownBy wr' (Value.slice A2 o.length c2).ownBlock)
    (ho : wr'.ownsRow 0 5 1 (.slice A3 (o.length + 1) c3) (o.length + 1) (ocells o ++ [.int .u8 (x : Nat)]))
    (hat : (Value.slice A3 (o.length + 1) c3).ownBlock = (Value.slice A2 o.length c2).ownBlock ∨ (Value.slice A3 (o.length + 1) c3).ownBlock = some w2.heap.size) : OLoop w wr' V (o ++ [x]) A3 c3 := by
  have hs := h.chg.size
  have hs2 := hc.size
  refine ⟨?_, ?_, ?_⟩
  · rw [List.length_append, List.length_singleton, ocells_app]
    exact ho
  · have h4 := ((Chg.refl (fun i => (Value.slice A2 o.length c2).ownBlock = some i) w2).grown hg (fun k e _ => e))
    refine (h.chg.trans hc (fun _ _ h => absurd h (fun h => h))).trans h4 (fun i hi e => ?_)
    rcases A2 with _ | a
    · simp [Value.ownBlock] at e
    · have e2 : a.block = i := by simpa [Value.ownBlock] using e
      rcases h.new a rfl with h5 | h5
      · rw [← e2]; exact h5
      · omega
  · rintro a rfl
    rcases hat with e | e
    · rcases A2 with _ | b
      · simp [Value.ownBlock] at e
      · have e2 : a.block = b.block := by simpa [Value.ownBlock] using e
        rw [e2]
        exact h.new b rfl
    · have e2 : a.block = w2.heap.size := by simpa [Value.ownBlock] using e
      exact .inr (by omega)

def PutL (w : World) (V : Value) (o : List Nat) (e : Ending) (w' : World) : Prop := ∃ A2 c2, e = .returned (.slice A2 o.length c2) ∧ OLoop w w' V o A2 c2

theorem OLoop.back {w0 w wr : World} {V : Value} {o : List Nat} {A2 : Option Addr} {c2 : Nat} (h : OLoop w0 wr V o A2 c2) (hc : Chg NoS w w0) (hb : ∀ i, V.ownBlock = some i → i < w.heap.size) : OLoop w wr V o A2 c2 :=
  ⟨h.own, (hc.mono (fun _ _ h => absurd h (fun h => h))).trans h.chg (fun i hi e => e), fun a ha => (h.new a ha).imp id (fun h => Nat.le_trans hc.size h)⟩

set_option maxHeartbeats 1000000 in
theorem tput_one (t : Tk) (out : List Nat) (A : Option Addr) (c : Nat) (w : World) (ht : t.l = 0) (ho : w.ownsRow 0 5 1 (.slice A out.length c) out.length (ocells out)) (hl : out.length ≤ 20000000) :
    Calls Try.prog 17 #[t.val, .slice A out.length c] w (PutL w (.slice A out.length c) (t.put out)) := by
  have HO := keepf (OLoop.start ho)
  obtain ⟨i0, hi, hz0, hz1, hz2⟩ := info_parts info_byte
  have HP := keepf (show t.put out = out ++ [t.b] from if_pos ht)
  obtain ⟨b, l, f⟩ := t
  simp only at ht
  subst ht
  obtain ⟨n, hn⟩ : ∃ n, n = out.length := ⟨_, rfl⟩
  rw [← hn] at hl ho ⊢
  have HN := keepf hn
  have HOW := keepf ho
  clear hn ho
  go_enter Try.func17, Try.ntmps17
  go_wp2_with (first
    | (at_builtin; refine wpList_append_src rfl (.tmp 8) (.tmp 11) 24 rfl 5 i0 _ 1 1 Try.underlying24 hi hz0 hz1 hz2 rfl (by decide) (.slice A n c) n (ocells out) rfl (own_chg (S := NoS) HOW.out (((Chg.refl _ _).alloc _).alloc _) (fun _ _ h => h)) (some ⟨w.heap.size + 1, 0, none⟩) 1 1 [.int .u8 (b : Nat)] rfl (src_new #[.int .u8 (b : Nat)] _ (by simp) rfl) (by intro u hu; simp only [List.mem_singleton] at hu; subst hu; rfl) (by unfold maxLen; omega) (by omega) ?_
       intro S2 w4 hown4 hgr4 hat4
       obtain ⟨A4, c4, rfl, hA4⟩ := own_slice hown4
       have HG4 := keepf hgr4
       have HO4 := keepf hown4
       have HA4 := keepf hat4
       clear hown4 hgr4 hat4 hA4))
  go_ret
  have h := HO.out.turn (x := b) (((Chg.refl NoS w).alloc _).alloc _) (by rw [← HN.out]; exact HG4.out) (by rw [← HN.out]; exact HO4.out) (by rw [← HN.out]; exact HA4.out)
  refine ⟨A4, c4, ?_, ?_⟩
  · rw [HP.out, List.length_append, ← HN.out]; rfl
  · rw [HP.out, HN.out]; exact h

set_option maxHeartbeats 1000000 in
theorem tput_rep (t : Tk) (out : List Nat) (A : Option Addr) (c : Nat) (w : World) (ht : t.l ≠ 0) (hw : t.wellB = true) (hf : t.f ≤ out.length) (ho : w.ownsRow 0 5 1 (.slice A out.length c) out.length (ocells out)) (hl : out.length ≤ 20000000) :
    Calls Try.prog 17 #[t.val, .slice A out.length c] w (PutL w (.slice A out.length c) (t.put out)) := by
  have hA0 : ∀ i, (Value.slice A out.length c).ownBlock = some i → i < w.heap.size := fun i hi => own_lt ho hi
  obtain ⟨i0, hi, hz0, hz1, hz2⟩ := info_parts info_byte
  have HP := keepf (show t.put out = repL t.f.toNat t.l.toNat out from if_neg ht)
  obtain ⟨b, l, f⟩ := t
  simp only at ht
  unfold Tk.wellB at hw
  simp only [ht, if_false, decide_eq_true_eq] at hw
  obtain ⟨x, rfl⟩ : ∃ x : Nat, l = x := ⟨l.toNat, by omega⟩
  obtain ⟨y, rfl⟩ : ∃ y : Nat, f = y := ⟨f.toNat, by omega⟩
  simp only [Int.toNat_natCast] at HP
  have hx : 3 ≤ x ∧ x ≤ 258 := by omega
  have hx1 := hx.1
  have hx2 := hx.2
  have hy : 1 ≤ y := by omega
  have hyo : y ≤ out.length := by simp only at hf; omega
  have u0 : ((x : Int) == 0) = false := by simp; omega
  have HO := keepf (OLoop.start (own_chg (S := NoS) ho ((Chg.refl _ _).alloc (.cells #[.int .u8 (b : Nat), .int .i64 (x : Nat), .int .i64 (y : Nat)] 42)) (fun _ _ h => h)))
  have HA0 := keepf hA0
  obtain ⟨n, hn⟩ : ∃ n, n = out.length := ⟨_, rfl⟩
  rw [← hn] at hl HO HA0 hyo ⊢
  have HN := keepf hn
  clear hn ho hA0 hf hw ht hx
  go_enter Try.func17, Try.ntmps17
  go_wp2_with fail
  go_loopw [1, 15] (fun vo vj wr => ∃ j : Nat, ∃ A2 : Option Addr, ∃ c2 : Nat, j ≤ x ∧ vj = .int .i64 j ∧ vo = .slice A2 (n + j) c2 ∧ Hid (OLoop (w.alloc (.cells #[.int .u8 (b : Nat), .int .i64 (x : Nat), .int .i64 (y : Nat)] 42)) wr (.slice A n c) (repL y j out) A2 c2)) (fun _ vj _ => x - (intOf vj).toNat)
  case atStart => exact ⟨0, A, c, Nat.zero_le _, rfl, rfl, HO.out⟩
  case round =>
    clear HO
    obtain ⟨j, A2, c2, hj, rfl, rfl, HR⟩ := hrel
    have hln := repL_len y j out
    rw [← HN.out] at hln
    obtain ⟨m, hm⟩ : ∃ m, m = n + j := ⟨_, rfl⟩
    have hmm : (repL y j out).length = m := by omega
    have HMM := keepf hmm
    have HNJ := keepf hm
    rw [← hm] at hln ⊢
    clear hmm
    by_cases hlt : j < x
    · have HOW := keepf (show wr.ownsRow 0 5 1 (.slice A2 m c2) m (ocells (repL y j out)) by rw [← HMM.out]; exact HR.out.own)
      obtain ⟨gb, cb, hA2, hc1, hc2⟩ := own_form HOW.out (by omega)
      injection hA2 with hA2 e1 e2
      subst hA2
      clear e1 e2 hc1 hc2
      have e0 := HOW.out.cellAt (m - y) (by omega)
      have hxx : (repL y j out)[m - y]? = some ((repL y j out).getD (m - y) 0) := by
        rw [List.getD_eq_getElem?_getD, List.getElem?_eq_getElem (by have := HMM.out; omega)]
        rfl
      rw [ocells_at hxx] at e0
      obtain ⟨z, hz⟩ : ∃ z, (repL y j out).getD (m - y) 0 = z := ⟨_, rfl⟩
      rw [hz] at e0
      have hsn := repL_snoc y j out
      rw [HMM.out, hz] at hsn
      have HSN := keepf hsn
      have q2 := (HR.out.chg.cell (p := ⟨w.heap.size, 2, none⟩) (by simp) (fun e => by have := HA0.out _ e; simp at this)).trans ((Blk.new w 42 #[.int .u8 (b : Nat), .int .i64 (x : Nat), .int .i64 (y : Nat)]).cell 2)
      simp at q2
      have hml : m ≤ 20000300 := by omega
      have j0 : (0 : Int) ≤ (m : Int) - y := by omega
      have j1 : (m : Int) - y < m := by omega
      have j2 : ((m : Int) - y).toNat = m - y := by omega
      have j3 : y ≤ m := by omega
      clear hxx hz hsn hm hln
      go_wp2_with (first
        | (at_builtin; refine wpList_append_src rfl (.tmp 17) (.tmp 26) 24 rfl 5 i0 _ 1 1 Try.underlying24 hi hz0 hz1 hz2 rfl (by decide) (.slice (some ⟨gb, 0, none⟩) m c2) m (ocells (repL y j out)) rfl (own_chg (S := NoS) HOW.out ((Chg.refl _ _).alloc _) (fun _ _ h => h)) (some ⟨wr.heap.size, 0, none⟩) 1 1 [.int .u8 (z : Nat)] rfl (src_new #[.int .u8 (z : Nat)] _ (by simp) rfl) (by intro u hu; simp only [List.mem_singleton] at hu; subst hu; rfl) (by unfold maxLen; omega) (by omega) ?_
           intro S2 w4 hown4 hgr4 hat4
           obtain ⟨A4, c4, rfl, hA4⟩ := own_slice hown4
           have HG4 := keepf hgr4
           have HO4 := keepf hown4
           have HA4 := keepf hat4
           clear hown4 hgr4 hat4 hA4))
      go_roundw
      case rel =>
        have h := HR.out.turn (x := z) ((Chg.refl NoS wr).alloc _) (by rw [HMM.out]; exact HG4.out) (by rw [HMM.out]; exact HO4.out) (by rw [HMM.out]; exact HA4.out)
        rw [← HSN.out] at h
        exact ⟨j + 1, A4, c4, by omega, by go_num, by rw [HNJ.out]; rfl, h⟩
      case measure => simp [intOf]; omega
    · obtain rfl : j = x := by omega
      go_wp2_with fail
      go_ret
      refine ⟨A2, c2, by rw [HP.out, HMM.out]; rfl, ?_⟩
      rw [HP.out]
      exact HR.out.back ((Chg.refl _ _).alloc _) HA0.out

theorem tput_any (t : Tk) (out : List Nat) (A : Option Addr) (c : Nat) (w : World) (hw : t.wellB = true) (hf : t.f ≤ out.length) (ho : w.ownsRow 0 5 1 (.slice A out.length c) out.length (ocells out)) (hl : out.length ≤ 20000000) :
    Calls Try.prog 17 #[t.val, .slice A out.length c] w (PutL w (.slice A out.length c) (t.put out)) := by
  rcases Decidable.em (t.l = 0) with h | h
  · exact tput_one t out A c w h ho hl
  · exact tput_rep t out A c w h hw hf ho hl
end Go.Proofs.Ytomkejeofcpchaa
