/- What the walk of SourceReads carries: a source, and the pieces that were put. -/
import Derived.Test.YtnbjigopgbjneaaSoRf
namespace Go.Proofs.Ytnbjigopgbjneaa
open Go.RowKit Go.Deep Go.ChangeShapes Go.WideShapes
set_option linter.unusedVariables false
set_option linter.unusedSimpArgs false

theorem el_fourS {H : Type} {en : TypeId × Value → H} {P : Program} {w : World} {base fuel : Nat} {spare : Nat → Bool} {held : Bool} {e : TypeId} {cs : List Value} {y : DataW H × List MemPlace} {f0 f1 f2 f3 : Field}
    (he : P.underlying e = some (.struct #[f0, f1, f2, f3])) (hone : oneCellFields P #[f0, f1, f2, f3] = true) (hC : P.cellsOf e = 4) (h : DataW.trod en P w base spare held fuel e cs = some y) :
    ∃ u v x z m y0 y1 y2 y3, cs = [u, v, x, z] ∧ DataW.trod en P w base spare held m f0.type [u] = some y0 ∧ DataW.trod en P w base spare held m f1.type [v] = some y1 ∧ DataW.trod en P w base spare held m f2.type [x] = some y2 ∧ DataW.trod en P w base spare held m f3.type [z] = some y3 := by
  obtain ⟨xs, m, rfl, _, hl, hx, hf⟩ := DataW.trod_struct he h
  rw [hC] at hl
  obtain ⟨o0, c0⟩ := hone_of hone 0 f0 rfl
  obtain ⟨o1, c1⟩ := hone_of hone 1 f1 rfl
  obtain ⟨o2, c2⟩ := hone_of hone 2 f2 rfl
  obtain ⟨o3, c3⟩ := hone_of hone 3 f3 rfl
  have h0 := hf 0 f0 rfl
  have h1 := hf 1 f1 rfl
  have h2 := hf 2 f2 rfl
  have h3 := hf 3 f3 rfl
  rw [o0, c0] at h0
  rw [o1, c1] at h1
  rw [o2, c2] at h2
  rw [o3, c3] at h3
  match cs, hl with
  | [u, v, x, z], _ =>
    simp at hx
    rw [List.getElem?_eq_getElem (by omega)] at h0 h1 h2 h3
    exact ⟨u, v, x, z, m, _, _, _, _, rfl, by simpa using h0, by simpa using h1, by simpa using h2, by simpa using h3⟩

/-- A step: bytes that are put, and what is read. -/
structure StS where
  p : Int
  A : Option Addr
  cap : Nat
  bs : List Nat
  fr : Int
  mo : Int

instance : Inhabited StS := ⟨⟨0, none, 0, [], 0, 0⟩⟩

def encSt (x : StS) : List Value := [.int .i64 x.p, .slice x.A x.bs.length x.cap, .int .i64 x.fr, .int .i64 x.mo]

theorem encSt_len (x : StS) : (encSt x).length = 4 := rfl

/-- It may be. -/
structure StAt (w : World) (x : StS) : Prop where
  src : Src w 1 x.A x.bs.length x.cap (lcells x.bs)
  cap : x.bs.length ≤ x.cap
  len : x.bs.length ≤ 9223372036854775807
  p : -9223372036854775808 ≤ x.p ∧ x.p ≤ 9223372036854775807
  fr : -9223372036854775808 ≤ x.fr ∧ x.fr ≤ 9223372036854775807
  mo : -9223372036854775808 ≤ x.mo ∧ x.mo ≤ 9223372036854775807

theorem step_el {H : Type} {en : TypeId × Value → H} {w : World} {base n : Nat} {spare : Nat → Bool} {held : Bool} {cs : List Value} {y : DataW H × List MemPlace}
    (h : DataW.trod en Try.prog w base spare held n 32 cs = some y) : ∃ x : StS, cs = encSt x ∧ StAt w x := by
  obtain ⟨u, v, x, z, m, y0, y1, y2, y3, rfl, h0, h1, h2, h3⟩ := el_fourS Try.underlying32 (by kernel_rfl) (by kernel_rfl) h
  obtain ⟨z0, e0, g0⟩ := el_int Try.underlying3 h0
  obtain ⟨z2, e2, g2⟩ := el_int Try.underlying3 h2
  obtain ⟨z3, e3, g3⟩ := el_int Try.underlying3 h3
  have hform : ∃ A len cap, v = .slice A len cap := by
    rcases open_slice Try.underlying30 h1 with ⟨h4, _⟩ | ⟨a, len', cap', m', n', D, Pl, hcs, _⟩
    · simp only [List.cons.injEq, and_true] at h4
      exact ⟨_, _, _, h4⟩
    · simp only [List.cons.injEq, and_true] at hcs
      exact ⟨_, _, _, hcs⟩
  obtain ⟨A, len, cap, rfl⟩ := hform
  simp only [List.cons.injEq, and_true] at e0 e2 e3
  subst e0 e2 e3
  obtain ⟨hm, bs, hl, hS, hg⟩ := open_rows encL (fun p : Nat => p < 256) 1 Try.underlying30 (by kernel_rfl) (fun _ => rfl) (fun n cs y h _ => byte_elL h) h1
  rw [flat_bytesL] at hS
  subst hl
  unfold maxLen at hm
  exact ⟨⟨z0, A, cap, bs, z2, z3⟩, rfl, ⟨hS, open_capL Try.underlying30 h1, hm, bounds_i64 g0, bounds_i64 g2, bounds_i64 g3⟩⟩

/-- The cells of the k-th step. -/
theorem st_cells {w : World} {B : Option Addr} {n c : Nat} {xs : List StS} (h : Src w 4 B n c (xs.flatMap encSt)) (hl : xs.length = n) {k : Nat} (hk : k < n) :
    ∃ b off, B = some ⟨b, off, none⟩ ∧ ∃ y, xs[k]? = some y ∧ w.cell? ⟨b, off + k * 4, none⟩ = some (.int .i64 y.p) ∧ w.cell? ⟨b, off + k * 4 + 1, none⟩ = some (.slice y.A y.bs.length y.cap) ∧ w.cell? ⟨b, off + k * 4 + 2, none⟩ = some (.int .i64 y.fr) ∧ w.cell? ⟨b, off + k * 4 + 3, none⟩ = some (.int .i64 y.mo) := by
  obtain ⟨b, off, rfl, hc⟩ := h.plain (by rw [flat_len _ 4 encSt_len]; omega)
  obtain ⟨y, hy⟩ : ∃ y, xs[k]? = some y := ⟨xs[k], List.getElem?_eq_getElem (by omega)⟩
  have hj : ∀ j u, (encSt y)[j]? = some u → j < 4 → w.cell? ⟨b, off + k * 4 + j, none⟩ = some u := fun j u hu h4 => by
    have := hc (k * 4 + j) u (by rw [flat_get encSt 4 encSt_len xs k j _ hy h4]; exact hu)
    rw [← Nat.add_assoc] at this
    exact this
  refine ⟨b, off, rfl, y, hy, ?_, hj 1 _ rfl (by omega), hj 2 _ rfl (by omega), hj 3 _ rfl (by omega)⟩
  simpa using hj 0 _ rfl (by omega)

/-- Behind so many steps. -/
structure SrI (w wr : World) (n g M : Nat) (S : Nat → Prop) (PL : List PcS) (V : Value) (F : List Sp) (c : Nat → Nat) : Prop where
  so : SoAt wr S g n M F c
  row : wr.ownsRow 0 36 2 V PL.length (PL.flatMap encPc)
  new : ∀ i, V.ownBlock = some i → w.heap.size ≤ i
  pcs : ∀ x ∈ PL, PcAt w x
  kn : Knows n PL F c
  ch : Chg NoS w wr
  lo : ∀ i, S i → w.heap.size ≤ i

theorem SrI.no {w wr w' : World} {n g M : Nat} {S : Nat → Prop} {PL : List PcS} {V : Value} {F : List Sp} {c : Nat → Nat} (h : SrI w wr n g M S PL V F c) (hc : Chg NoS wr w') : SrI w w' n g M S PL V F c :=
  ⟨h.so.no hc, own_chg h.row hc (fun _ _ h => h), h.new, h.pcs, h.kn, h.ch.then_ hc, h.lo⟩

theorem SrI.mono {w wr : World} {n g M M' : Nat} {S : Nat → Prop} {PL : List PcS} {V : Value} {F : List Sp} {c : Nat → Nat} (h : SrI w wr n g M S PL V F c) (hM : M ≤ M') : SrI w wr n g M' S PL V F c := by
  obtain ⟨b, o, t, a, hb⟩ := h.so
  exact ⟨⟨b, o, t, a, hb.blk, hb.tree, hb.fl, hb.form, hb.le, hb.map.mono hM, hb.bl, hb.fp, hb.cov⟩, h.row, h.new, h.pcs, h.kn, h.ch, h.lo⟩

theorem SrI.prow {w wr : World} {n g M : Nat} {S : Nat → Prop} {PL : List PcS} {A : Option Addr} {cp : Nat} {F : List Sp} {c : Nat → Nat} (h : SrI w wr n g M S PL (.slice A PL.length cp) F c) (hf : PL.length ≤ 30) : PcRow wr A PL.length cp PL :=
  ⟨src_own h.row, rfl, fun x hx => (h.pcs x hx).no h.ch, hf⟩

/-- The source's blocks are no row's of pieces. -/
theorem SoAt.noPc {w : World} {S : Nat → Prop} {g n m : Nat} {F : List Sp} {c : Nat → Nat} (h : SoAt w S g n m F c) {i : Nat} (hi : S i) {cs : Array Value} (hb : Blk w i 36 cs) : False := by
  obtain ⟨b, o, t, a, h⟩ := h
  rcases (h.fp i).1 hi with rfl | rfl | ⟨k, hk⟩
  · exact Blk.ne_ h.blk hb (by decide) rfl
  · exact h.map.ne hb rfl
  · exact Blk.ne_ (h.bl.lie k i hk) hb (by decide) rfl

theorem own_blk {w : World} {e : TypeId} {v : Value} {size n i : Nat} {xs : List Value} (h : w.ownsRow 0 e size v n xs) (hi : v.ownBlock = some i) : ∃ cs, Blk w i e cs := by
  rcases h.2 with ⟨rfl, _⟩ | ⟨g', cap, cur, rfl, hb, hh, r⟩
  · simp [Value.ownBlock] at hi
  · have e1 : g' = i := by simpa [Value.ownBlock] using hi
    subst e1
    exact ⟨cur, hh⟩

/-- What is known behind a Put that may be. -/
theorem knows_put {n : Nat} {PL : List PcS} {F : List Sp} {c c' : Nat → Nat} (h : Knows n PL F c) (x : PcS) (hp : x.p + x.bs.length ≤ n) (hn : n ≤ 200)
    (h2 : ∀ q : Nat, Num F q → c' q = c q) (h3 : ∀ q : Nat, x.p ≤ q → q < x.p + x.bs.length → ¬ Num F q → c' q = x.bs.getD (q - x.p) 0) : Knows n (PL ++ [x]) (putF ((x.p : Int), ((x.p + x.bs.length : Nat) : Int)) F) c' := by
  have hF := putF_form h.form (x := ((x.p : Int), ((x.p + x.bs.length : Nat) : Int))) (by simp only; omega)
  refine ⟨hF, fun y hy => ?_, fun q hq => ?_, fun q hq => ?_⟩
  · have hok := hF.ok y hy
    have hnum : Num (putF ((x.p : Int), ((x.p + x.bs.length : Nat) : Int)) F) (y.2 - 1) := ⟨y, hy, by omega, by omega⟩
    rcases (putF_num h.form (y.2 - 1)).1 hnum with ⟨z, hz, h5⟩ | ⟨_, h5⟩
    · have := h.le z hz
      omega
    · simp only at h5
      omega
  · rw [byteO_app]
    by_cases h4 : Num F q
    · rw [h.yes q h4, h2 q h4]
    · rw [h.no q h4]
      rcases (putF_num h.form q).1 hq with h5 | ⟨_, h5, h6⟩
      · exact absurd h5 h4
      · simp only at h5 h6
        rw [h3 q (by omega) (by omega) h4]
        show (if _ then _ else _) = _
        rw [if_pos (by omega)]
  · rw [byteO_app]
    have h4 : ¬ Num F q := fun h5 => hq ((putF_num h.form q).2 (.inl h5))
    rw [h.no q h4]
    show (if _ then _ else _) = _
    rw [if_neg]
    intro h5
    exact hq ((putF_num h.form q).2 (.inr ⟨by simp [emptyB]; omega, by simp only; omega, by simp only; omega⟩))

/-- The spans of what is known are the marks'. -/
theorem knows_spans {n : Nat} {PL : List PcS} {F L : List Sp} {c : Nat → Nat} (h : Knows n PL F c) (hL : Form L) (hg : ∀ z, Num L z ↔ Gm n (fun q => (byteO PL q).isSome) z) : F = L := by
  refine form_ext h.form hL (fun z => ?_)
  rw [hg]
  constructor
  · intro hz
    have hz0 : 0 ≤ z := by
      obtain ⟨y, hy, h1⟩ := hz
      have := h.form.ok y hy
      omega
    obtain ⟨q, rfl⟩ : ∃ q : Nat, z = q := ⟨z.toNat, by omega⟩
    refine ⟨hz0, by have := h.in_ hz; omega, ?_⟩
    rw [Int.toNat_natCast]
    show (byteO PL q).isSome = true
    rw [h.yes q hz]
    rfl
  · rintro ⟨h0, h1, h2⟩
    obtain ⟨q, rfl⟩ : ∃ q : Nat, z = q := ⟨z.toNat, by omega⟩
    rw [Int.toNat_natCast] at h2
    change (byteO PL q).isSome = true at h2
    rcases Classical.em (Num F (q : Int)) with h3 | h3
    · exact h3
    · rw [h.no q h3] at h2
      cases h2

/-- Bytes are put, and the piece is told. -/
theorem SrI.put {w wr w1 w2 : World} {n g M : Nat} {S : Nat → Prop} {PL : List PcS} {V V2 : Value} {F : List Sp} {c : Nat → Nat} {x : PcS} {e : Ending} {ob : Obj} (h : SrI w wr n g M S PL V F c) (hn : n ≤ 200) (hp : x.p + x.bs.length ≤ n) (hx : PcAt w x)
    (hput : SoPutTo wr S g n M F c x.p x.bs e w1)
    (hg : (w1.alloc ob).grownBy w2 V.ownBlock) (hO : w2.ownsRow 0 36 2 V2 (PL.length + 1) (PL.flatMap encPc ++ encPc x)) (hat : V2.ownBlock = V.ownBlock ∨ V2.ownBlock = some (w1.alloc ob).heap.size) :
    ∃ S' c', SrI w w2 n g (M + 100) S' (PL ++ [x]) V2 (putF ((x.p : Int), ((x.p + x.bs.length : Nat) : Int)) F) c' := by
  obtain ⟨S', c', _, h1, h2, h3, h4, h5, h6⟩ := hput
  have hrow1 : w1.ownsRow 0 36 2 V PL.length (PL.flatMap encPc) := own_chg h.row h6 (fun i hi hs => by
    obtain ⟨cs, hb⟩ := own_blk h.row hi
    exact h.so.noPc hs hb)
  have hc12 : Chg (fun i => V.ownBlock = some i) w1 w2 := ((Chg.refl _ w1).alloc ob).grown hg (fun k e _ => e)
  have hlow : ∀ i, S' i → w.heap.size ≤ i := fun i hi => by
    rcases h4 i hi with h7 | h7
    · exact h.lo i h7
    · exact Nat.le_trans h.ch.size h7
  have hso2 : SoAt w2 S' g n (M + x.bs.length) _ c' := h1.chg hc12 (fun i hi hs => by
    obtain ⟨cs, hb⟩ := own_blk hrow1 hi
    exact h1.noPc hs hb) (fun i cs hi hb => by
    obtain ⟨cs2, hb2⟩ := own_blk hrow1 hi
    exact Blk.ne_ hb2 hb (by decide) rfl)
  have hch2 : Chg NoS w w2 := (h.ch.trans h6 (fun i h7 h8 => by have := h.lo i h8; omega)).trans hc12 (fun i h7 h8 => by have := h.new i h8; omega)
  have := hx.len
  refine ⟨S', c', SrI.mono (M := M + x.bs.length) ⟨hso2, by simpa using hO, fun i hi => ?_, fun y hy => ?_, knows_put h.kn x hp hn h2 h3, hch2, hlow⟩ (by omega)⟩
  · rcases hat with e1 | e1
    · exact h.new i (e1 ▸ hi)
    · rw [e1] at hi
      injection hi with hi
      have h7 := h.ch.size
      have h8 := h6.size
      simp at hi
      omega
  · rcases List.mem_append.1 hy with h7 | h7
    · exact h.pcs y h7
    · rw [List.mem_singleton] at h7
      subst h7
      exact hx

end Go.Proofs.Ytnbjigopgbjneaa
