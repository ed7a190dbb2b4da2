/- Bytes as they lie, and rows of bytes and of numbers that grow: for the words of a file. -/
import Derived.Test.YtnbjigopgbjneaaOpen
import Derived.Test.YtnbjigopgbjneaaLexM
import Derived.Test.YtnbjigopgbjneaaProg
import Derived.WalkKit
import Derived.WalkMore
import Derived.Deep.AppendLies
namespace Go.Proofs.Ytnbjigopgbjneaa
open Go.RowKit
set_option linter.unusedVariables false
set_option linter.unusedSimpArgs false

def lcells (bs : List Nat) : List Value := bs.map fun b => .int .u8 (b : Nat)

theorem lcells_one (bs : List Nat) : ∀ u ∈ lcells bs, u.oneCell' = true := by
  intro u hu
  obtain ⟨b, _, rfl⟩ := List.mem_map.1 hu
  rfl

theorem lcells_at {bs : List Nat} {k x : Nat} (h : bs[k]? = some x) : (lcells bs)[k]? = some (.int .u8 (x : Nat)) := by simp [lcells, h]

theorem lcells_app (a b : List Nat) : lcells (a ++ b) = lcells a ++ lcells b := by simp [lcells]

theorem lcells_len (a : List Nat) : (lcells a).length = a.length := by simp [lcells]

/-- A byte is there, and what is from it on. -/
theorem drop_at {bs : List Nat} {k : Nat} (h : k < bs.length) : ∃ x, bs[k]? = some x ∧ bs.drop k = x :: bs.drop (k + 1) :=
  ⟨bs[k], List.getElem?_eq_getElem h, List.drop_eq_getElem_cons h⟩

theorem lcell {w w' : World} {A : Option Addr} {n c : Nat} {bs : List Nat} (h : Src w 1 A n c (lcells bs)) (hc : Chg NoS w w') (hk : 0 < bs.length) :
    ∃ b off, A = some ⟨b, off, none⟩ ∧ ∀ j x, bs[j]? = some x → w'.cell? ⟨b, off + j, none⟩ = some (.int .u8 (x : Nat)) := by
  obtain ⟨b, off, rfl, hcell⟩ := h.plain (by rw [lcells_len]; omega)
  refine ⟨b, off, rfl, fun j x hj => ?_⟩
  have e0 := hcell j (.int .u8 (x : Nat)) (lcells_at hj)
  exact (hc.cell (p := ⟨b, _, none⟩) (by exact cell_lt e0) (fun h => h)).trans e0

/-- Four results. -/
theorem results_tmp4l {fn : Func} {t u v x : Tmp} (h : fn.results = #[.tmp t, .tmp u, .tmp v, .tmp x]) (tmps : Array Value) (P : Program) (w : World) :
    (results fn tmps).run P w = .ok (.tuple #[tmps.getD t undef, tmps.getD u undef, tmps.getD v undef, tmps.getD x undef]) w := by
  simp [results, h]

theorem ret_l64 {a b : Int} (h : a = b) : Ending.returned (.int .i64 a) = .returned (.int .i64 b) := by rw [h]

/-- A row of the call's own, of elements of one cell, that grows. -/
structure GR (t : TypeId) (w wr : World) (xs : List Value) (n : Nat) (A : Option Addr) (c : Nat) : Prop where
  own : wr.ownsRow 0 t 1 (.slice A n c) n xs
  chg : Chg NoS w wr
  new : ∀ a, A = some a → w.heap.size ≤ a.block

theorem GR.start {t : TypeId} (w : World) : GR t w w [] 0 none 0 := ⟨own_nil w 0 t 1, Chg.refl _ _, fun _ h => by cases h⟩

theorem GR.call {t : TypeId} {w wr w2 : World} {xs : List Value} {n c : Nat} {A : Option Addr} (h : GR t w wr xs n A c) (hc : Chg NoS wr w2) : GR t w w2 xs n A c :=
  ⟨own_chg (S := NoS) h.own hc (fun _ _ e => e), h.chg.trans hc (fun _ _ e => e), h.new⟩

theorem GR.turn {t : TypeId} {w wr w2 wr' : World} {xs ys : List Value} {n m c c3 : Nat} {A A3 : Option Addr} (h : GR t w wr xs n A c) (hc : Chg NoS wr w2) (hg : w2.grownBy wr' (Value.slice A n c).ownBlock)
    (ho : wr'.ownsRow 0 t 1 (.slice A3 m c3) m ys)
    (hat : (Value.slice A3 m c3).ownBlock = (Value.slice A n c).ownBlock ∨ (Value.slice A3 m c3).ownBlock = some w2.heap.size) : GR t w wr' ys m A3 c3 := by
  have hs := h.chg.size
  have hs2 := hc.size
  refine ⟨ho, ?_, ?_⟩
  · refine (h.chg.trans hc (fun _ _ e => e)).grown hg (fun k e hk => ?_)
    rcases A with _ | a
    · simp [Value.ownBlock] at e
    · have e2 : a.block = k := by simpa [Value.ownBlock] using e
      have := h.new a rfl
      omega
  · rintro a rfl
    rcases hat with e | e
    · rcases A with _ | b
      · simp [Value.ownBlock] at e
      · have e2 : a.block = b.block := by simpa [Value.ownBlock] using e
        rw [e2]
        exact h.new b rfl
    · have e2 : a.block = w2.heap.size := by simpa [Value.ownBlock] using e
      omega

theorem GR.none {t : TypeId} {w w' : World} (h : Chg NoS w w') : GR t w w' [] 0 none 0 := ⟨own_nil w' 0 t 1, h, fun _ h => by cases h⟩

theorem info_byL : (Try.prog.info? 5).map (fun i => (i.zero, i.size, i.bytes)) = some (some (.int .u8 0), 1, 1) := by kernel_rfl

theorem info_partsL {o : Option TypeInfo} {z : Value} {a b : Nat} (h : o.map (fun i => (i.zero, i.size, i.bytes)) = some (some z, a, b)) : ∃ i, o = some i ∧ i.zero = some z ∧ i.size = a ∧ i.bytes = b := by
  rcases o with _ | i
  · cases h
  · simp at h
    exact ⟨i, rfl, h.1, h.2.1, h.2.2⟩

/-- A byte is appended. -/
theorem app8 {w wr W : World} {ops : Array Oper} {rest : List Oper} {o : Oper} {a : Act} {Q : Exit → Act → World → Prop} {out : List Nat} {m c y B : Nat} {A : Option Addr} (hgd : o.guard = none) (s x : Operand)
    (ho : o.op = .call { callee := .builtin .append, args := #[s, x], argTypes := #[30, 30] }) (hs : a.eval s = .slice A m c) (hx : a.eval x = .slice (some ⟨B, 0, none⟩) 1 1)
    (h : GR 5 w wr (lcells out) m A c) (hm : m ≤ 2000000) (hc : Chg NoS wr W) (hy : W.cell? ⟨B, 0, none⟩ = some (.int .u8 (y : Nat)))
    (k : ∀ A3 c3 w', GR 5 w w' (lcells (out ++ [y])) (m + 1) A3 c3 → wpList Try.prog ops Q rest (a.put o.dst (.slice A3 (m + 1) c3)) w') :
    wpList Try.prog ops Q (o :: rest) a W := by
  obtain ⟨i0, hi, hz0, hz1, hz2⟩ := info_partsL info_byL
  refine wpList_append_src hgd s x 30 ho 5 i0 _ 1 1 Try.underlying30 hi hz0 hz1 hz2 rfl (by decide) (.slice A m c) m (lcells out) hs (own_chg (S := NoS) h.own hc (fun _ _ e => e)) (some ⟨B, 0, none⟩) 1 1 [.int .u8 (y : Nat)] hx ⟨rfl, fun e => (by cases e), fun ad e j u hj => ?_⟩ (by intro u hu; simp only [List.mem_singleton] at hu; subst hu; rfl) (by unfold maxLen; omega) (by omega) ?_
  · cases e
    rcases j with _ | j
    · simp at hj; subst hj; simpa [Addr.add] using hy
    · simp at hj
  · intro S2 w4 hown4 hgr4 hat4
    obtain ⟨A4, c4, rfl, hA4⟩ := own_slice hown4
    refine k A4 c4 w4 (h.turn hc hgr4 ?_ hat4)
    rw [lcells_app]
    exact hown4

theorem GR.back {t : TypeId} {w w1 wr : World} {xs : List Value} {n c : Nat} {A : Option Addr} (h : GR t w1 wr xs n A c) (hc : Chg NoS w w1) : GR t w wr xs n A c :=
  ⟨h.own, hc.trans h.chg (fun _ _ e => e), fun a ha => Nat.le_trans hc.size (h.new a ha)⟩

def dcells (ds : List Nat) : List Value := ds.map fun d => .int .i64 (d : Nat)

theorem dcells_at {ds : List Nat} {k x : Nat} (h : ds[k]? = some x) : (dcells ds)[k]? = some (.int .i64 (x : Nat)) := by simp [dcells, h]

theorem dcells_app (a b : List Nat) : dcells (a ++ b) = dcells a ++ dcells b := by simp [dcells]

theorem dcells_len (a : List Nat) : (dcells a).length = a.length := by simp [dcells]

theorem info_i64L : (Try.prog.info? 3).map (fun i => (i.zero, i.size, i.bytes)) = some (some (.int .i64 0), 1, 8) := by kernel_rfl

theorem dcell {w w' : World} {A : Option Addr} {n c : Nat} {ds : List Nat} (h : Src w 1 A n c (dcells ds)) (hc : Chg NoS w w') (hk : 0 < ds.length) :
    ∃ b off, A = some ⟨b, off, none⟩ ∧ ∀ j x, ds[j]? = some x → w'.cell? ⟨b, off + j, none⟩ = some (.int .i64 (x : Nat)) := by
  obtain ⟨b, off, rfl, hcell⟩ := h.plain (by rw [dcells_len]; omega)
  refine ⟨b, off, rfl, fun j x hj => ?_⟩
  have e0 := hcell j (.int .i64 (x : Nat)) (dcells_at hj)
  exact (hc.cell (p := ⟨b, _, none⟩) (by exact cell_lt e0) (fun h => h)).trans e0

/-- A byte is appended, in a region that draws its order. -/
theorem step8 {w wr W : World} {ops : Array Oper} {o : Oper} {a : Act} {K : Act → World → Prop} {Q : Exit → Act → World → Prop} {E : Prop} {out : List Nat} {m c y B : Nat} {A : Option Addr} (hgd : o.guard = none) (s x : Operand)
    (ho : o.op = .call { callee := .builtin .append, args := #[s, x], argTypes := #[30, 30] }) (hs : a.eval s = .slice A m c) (hx : a.eval x = .slice (some ⟨B, 0, none⟩) 1 1)
    (h : GR 5 w wr (lcells out) m A c) (hm : m ≤ 2000000) (hc : Chg NoS wr W) (hy : W.cell? ⟨B, 0, none⟩ = some (.int .u8 (y : Nat)))
    (k : ∀ g c3 w', GR 5 w w' (lcells (out ++ [y])) (m + 1) (some ⟨g, 0, none⟩) c3 → K (a.put o.dst (.slice (some ⟨g, 0, none⟩) (m + 1) c3)) w') :
    if Region.wanted o (yielded ops a.tmps) = true then Oper.wp Try.prog o a W K Q else E := by
  obtain ⟨i0, hi, hz0, hz1, hz2⟩ := info_partsL info_byL
  refine step_append_lies W hgd s x 30 ho 0 5 i0 _ 1 1 Try.underlying30 hi hz0 hz1 hz2 rfl (by decide) (.slice A m c) m (lcells out) hs (own_chg (S := NoS) h.own hc (fun _ _ e => e)) ⟨B, 0, none⟩ 1 1 [.int .u8 (y : Nat)] hx rfl (fun j u hj => ?_) (by intro u hu; simp only [List.mem_singleton] at hu; subst hu; rfl) (by decide) (by unfold maxLen; omega) (by omega) (Nat.zero_le _) W.heap.size rfl ?_
  · rcases j with _ | j
    · simp at hj; subst hj; simpa [Addr.add] using hy
    · simp at hj
  · intro g c4 w4 hown4 hgr4 hat4 hlt4
    refine k g c4 w4 (h.turn hc hgr4 ?_ ?_)
    · rw [lcells_app]
      exact hown4
    · rcases hat4 with e | e
      · exact .inl e.symm
      · exact .inr (by rw [e]; rfl)

end Go.Proofs.Ytnbjigopgbjneaa
