/- Contracts of All and Size. -/
import Derived.Test.YtnbjigopgbjneaaSetS
namespace Go.Proofs.Ytnbjigopgbjneaa
open Go.RowKit
set_option linter.unusedVariables false

/-- A span, as cells. -/
def encC (y : Sp) : List Value := [.int .i64 y.1, .int .i64 y.2]

theorem info_span : (Try.prog.info? 55).map (fun i => (i.zero, i.size, i.bytes)) = some (some (.agg #[.int .i64 0, .int .i64 0]), 2, 16) := by kernel_rfl

theorem src_two (w : World) (u v : Value) (t : TypeId) : Src (w.alloc (.cells #[u, v] t)) 2 (some ⟨w.heap.size, 0, none⟩) 1 1 [u, v] :=
  ⟨rfl, fun h => (by cases h), fun ad had j x hx => by
    cases had
    match j, hx with
    | 0, hx => simp at hx; subst hx; simp [Addr.add]
    | 1, hx => simp at hx; subst hx; simp [Addr.add]
    | j + 2, hx => simp at hx⟩

theorem src_two_at {w : World} {u v : Value} {t : TypeId} {n : Nat} (h : n = w.heap.size) : Src (w.alloc (.cells #[u, v] t)) 2 (some ⟨n, 0, none⟩) 1 1 [u, v] := by
  subst h
  exact src_two w u v t

theorem encC_one (y : Sp) : ∀ u ∈ encC y, u.oneCell' = true := by
  intro u hu
  simp [encC] at hu
  rcases hu with rfl | rfl <;> rfl

/-- A new slice of the spans F is handed back; nothing that was there has changed. -/
def RowTo (w : World) (F : List Sp) (e : Ending) (w' : World) : Prop :=
  ∃ A cap, e = .returned (.slice A F.length cap) ∧ w'.ownsRow 0 55 2 (.slice A F.length cap) F.length (F.flatMap encC) ∧ Chg NoS w w' ∧ (∀ i, (Value.slice A F.length cap).ownBlock = some i → w.heap.size ≤ i)

/-- The variable at block O holds a row of its own of the spans out. -/
structure OutAt (w0 W : World) (O : Nat) (out : List Sp) (V : Value) : Prop where
  b : Blk W O 43 #[V]
  r : W.ownsRow 0 55 2 V out.length (out.flatMap encC)
  n : ∀ i, V.ownBlock = some i → w0.heap.size ≤ i

def OutIn (w0 W : World) (O : Nat) (out : List Sp) : Prop := ∃ V, OutAt w0 W O out V

theorem OutAt.ne {w0 W : World} {O : Nat} {out : List Sp} {V : Value} (h : OutAt w0 W O out V) : V.ownBlock ≠ some O := own_ne_blk h.r h.b (by decide)

theorem OutIn.chg {S : Nat → Prop} {w0 W W' : World} {O : Nat} {out : List Sp} (h : OutIn w0 W O out) (hc : Chg S W W') (hO : ¬ S O) (hS : ∀ i, w0.heap.size ≤ i → ¬ S i) : OutIn w0 W' O out := by
  obtain ⟨V, h⟩ := h
  exact ⟨V, h.b.chg hc hO, own_chg h.r hc (fun i hi => hS i (h.n i hi)), h.n⟩

theorem OutAt.alloc {w0 W : World} {O : Nat} {out : List Sp} {V : Value} (h : OutAt w0 W O out V) (o : Obj) : OutAt w0 (W.alloc o) O out V :=
  ⟨h.b.alloc o, own_chg h.r ((Chg.refl NoS _).alloc o) (fun _ _ h => h), h.n⟩

/-- One span more behind the row: the row grown and the variable set. -/
theorem OutAt.snoc {w0 W W2 : World} {O : Nat} {out : List Sp} {V V2 : Value} {y : Sp} {o : Obj} (h : OutAt w0 W O out V) (hw : w0.heap.size ≤ W.heap.size)
    (hg : (W.alloc o).grownBy W2 V.ownBlock) (hO : W2.ownsRow 0 55 2 V2 (out.length + 1) (out.flatMap encC ++ encC y)) (hat : V2.ownBlock = V.ownBlock ∨ V2.ownBlock = some (W.alloc o).heap.size) :
    OutAt w0 (W2.setCell ⟨O, 0, none⟩ V2) O (out ++ [y]) V2 := by
  have hn2 : ∀ i, V2.ownBlock = some i → w0.heap.size ≤ i := fun i hi => by
    rcases hat with e | e
    · exact h.n i (e ▸ hi)
    · rw [e] at hi
      injection hi with hi
      simp at hi
      omega
  have hb2 : Blk W2 O 43 #[V] := (h.b.alloc o).grown hg (fun e => h.ne e.symm)
  refine ⟨hb2.set_ 0 V2, ?_, hn2⟩
  have hne : V2.ownBlock ≠ some O := own_ne_blk hO hb2 (by decide)
  have := own_chg (S := fun k => k = O) hO (chg_set W2 O 0 V2) (fun i hi he => hne (by rw [hi, he]))
  simpa using this

theorem OutAt.snoc_chg {S : Nat → Prop} {w0 W W2 : World} {O : Nat} {out : List Sp} {V V2 : Value} {o : Obj} (h : OutAt w0 W O out V) (hc : Chg S w0 W) (hS : S O)
    (hg : (W.alloc o).grownBy W2 V.ownBlock) : Chg S w0 (W2.setCell ⟨O, 0, none⟩ V2) :=
  (((hc.alloc o).grown hg (fun k e hk => by have := h.n k e; omega)).setCell (p := ⟨O, 0, none⟩) (fun _ => hS) _)

theorem out_new (w : World) : OutIn w (w.alloc (.cells #[.slice none 0 0] 43)) w.heap.size [] :=
  ⟨.slice none 0 0, Blk.new _ _ _, own_nil _ _ _ _, fun i h => by simp [Value.ownBlock] at h⟩

/-- Behind the spans ys the row has just these. -/
def AllI (O : Nat) (w0 : World) (ys : List Sp) (W : World) : Prop := OutIn w0 W O ys ∧ Chg (fun i => i = O) w0 W

set_option maxHeartbeats 1000000 in
theorem all1_step (O : Nat) (w0 : World) (all : List Sp) (hn : all.length ≤ 100000000) :
    StepOf 42 #[.pointer (some ⟨O, 0, none⟩)] all (AllI O w0) := by
  rintro ys ⟨y1, y2⟩ zs W hall ⟨⟨V, hV⟩, hc⟩
  have hl : ys.length + 1 ≤ 100000000 := by
    have := congrArg List.length hall
    simp at this
    omega
  show Calls Try.prog 42 #[.agg #[.int .i64 y1, .int .i64 y2], .pointer (some ⟨O, 0, none⟩)] W _
  obtain ⟨A, cap, rfl, _⟩ := own_slice hV.r
  have c0 := hV.b.cell 0
  simp at c0
  have hlt := hV.b.lt
  have HV := keepf (hV.alloc (.cells #[.int .i64 y1, .int .i64 y2] 55))
  have HC := keepf (hc.alloc (.cells #[.int .i64 y1, .int .i64 y2] 55))
  clear hV hc hall
  obtain ⟨i0, hi, hz0, hz1, hz2⟩ := info_parts info_span
  go_enter Try.func42, Try.ntmps42
  go_wp2_with (first
    | (at_builtin; go_loud (refine wpList_append_src rfl (.tmp 3) (.tmp 5) 43 rfl 55 i0 (.agg #[.int .i64 0, .int .i64 0]) 2 16 Try.underlying43 hi hz0 hz1 hz2 rfl (by decide) (.slice A ys.length cap) _ _ rfl (own_chg (S := NoS) HV.out.r ((Chg.refl _ _).alloc _) (fun _ _ h => h)) _ _ _ (encC (y1, y2)) rfl (src_two_at (by simp)) (encC_one _) (by unfold maxLen; omega) (by omega) ?_); intro S2 w2 hown2 hgr hat; obtain ⟨A2, c2, rfl, hA2⟩ := own_slice hown2; have HB2 := keepf (show Blk w2 O 43 #[.slice A ys.length cap] from ((HV.out.b.alloc _).grown hgr (fun e => HV.out.ne e.symm))); have d0 := HB2.out.cell 0; have f0 := HB2.out.frozen 0; simp at d0; have HG2 := keepf hgr; have HO2 := keepf hown2; have HA2 := keepf hat; clear hgr hown2 hat hA2))
  go_end0
  have hs := HC.out.size
  exact ⟨rfl, ⟨_, HV.out.snoc hs HG2.out HO2.out HA2.out⟩, HV.out.snoc_chg HC.out rfl HG2.out⟩

set_option maxHeartbeats 1000000 in
theorem all_any (v : Option Addr) (F : List Sp) (w : World) (h : SetV w v F) (hn : F.length ≤ 100000000) :
    Calls Try.prog 31 #[.pointer v] w (RowTo w F) := by
  have H := keepf (h.no ((Chg.refl _ w).alloc (.cells #[.slice none 0 0] 43)))
  clear h
  have hO := out_new w
  have HO := keepf hO
  clear hO
  have e34 : ∀ args w, (callFunc 42 args).run Try.prog w = .ok (.enter 42 args) w := enters_of Try.func42 (by kernel_rfl) rfl
  go_enter Try.func31, Try.ntmps31
  go_wp2_with fail
  refine (tree_any v F _ H.out).mono ?_
  rintro e w' ⟨t, o, rfl, ha, hf, rfl⟩
  have hb := HO.out.choose_spec.b
  have HE := keepf (each_any _ _ e34 (flat t) (AllI w.heap.size (w.alloc (.cells #[.slice none 0 0] 43))) (fun i => i = w.heap.size) (w.alloc (.cells #[.slice none 0 0] 43)) (fun _ _ h => h.2) (noNode_of hb (by decide)) (all1_step _ _ _ (by rw [hf]; exact hn)) t o _ [] [] ha (by simp) ⟨⟨_, Blk.new _ _ _, own_nil _ _ _ _, fun i h => by simp [Value.ownBlock] at h⟩, Chg.refl _ _⟩)
  have HF := keepf hf
  clear e34 ha hf hb
  go_wp2_with fail
  refine HE.out.mono ?_
  rintro e w2 ⟨rfl, ⟨V, hV⟩, hc⟩
  rw [List.nil_append, HF.out] at hV
  obtain ⟨A, cap, rfl, _⟩ := own_slice hV.r
  have c0 := hV.b.cell 0
  simp at c0
  have HV := keepf hV
  have HC := keepf hc
  clear hV hc
  go_wp2_with fail
  go_ret
  exact ⟨A, cap, rfl, HV.out.r, ((Chg.refl NoS w).alloc _).trans HC.out (fun i h1 h2 => by omega), fun i hi => by have := HV.out.n i hi; simp at this; omega⟩

end Go.Proofs.Ytnbjigopgbjneaa
