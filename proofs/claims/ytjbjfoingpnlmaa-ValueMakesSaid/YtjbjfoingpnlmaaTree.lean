/- Values (api.Value) as trees: how they lie in memory, and that what comes in is one. -/
import Derived.Test.YtjbjfoingpnlmaaOpen
import Derived.Test.YtjbjfoingpnlmaaProg
import Derived.OpenShut
import Derived.Deep.Slices
import Derived.Deep.Fields
import Derived.Lib.SmallJoins
namespace Go.Proofs.Ytjbjfoingpnlmaa
open Go.RowKit Go.Deep Go.ChangeShapes Go.WideShapes
set_option linter.unusedVariables false

/-- A value: its kind, its number, its text, and those in it. -/
inductive VT
  | mk (k n : Int) (s : ByteArray) (l : List VT)
/-- A value's four cells. -/
structure VC where
  k : Int
  n : Int
  s : ByteArray
  A : Option Addr
  len : Nat
  cap : Nat
deriving Inhabited
def VC.cells (c : VC) : List Value := [.int .i64 c.k, .int .i64 c.n, .string c.s, .slice c.A c.len c.cap]
def VC.val (c : VC) : Value := .agg #[.int .i64 c.k, .int .i64 c.n, .string c.s, .slice c.A c.len c.cap]
/-- What a value's own numbers and lengths may be. -/
structure VC.Good (c : VC) : Prop where
  k : -9223372036854775808 ≤ c.k ∧ c.k ≤ 9223372036854775807
  n : -9223372036854775808 ≤ c.n ∧ c.n ≤ 9223372036854775807
  s : c.s.size ≤ maxLen
  nil : c.A = none → c.len = 0 ∧ c.cap = 0
  cap : c.len ≤ c.cap
  len : c.len ≤ maxLen
mutual
/-- The tree t lies at the cells c. -/
inductive ValIs (w : World) : VT → VC → Prop
  | mk (c : VC) (l : List VT) (hg : c.Good) (hl : l.length = c.len) (hr : RowIs w c.A 0 l) : ValIs w (.mk c.k c.n c.s l) c
/-- The trees l lie behind one another from the place j of a row on. -/
inductive RowIs (w : World) : Option Addr → Nat → List VT → Prop
  | nil (A : Option Addr) (j : Nat) : RowIs w A j []
  | cons (ad : Addr) (j : Nat) (t : VT) (l : List VT) (e : VC) (hcell : ∀ i, i < 4 → w.cell? (ad.add (j * 4 + i)) = e.cells[i]?) (h : ValIs w t e) (hr : RowIs w (some ad) (j + 1) l) : RowIs w (some ad) j (t :: l)
end
theorem ValIs.good {w : World} {t : VT} {c : VC} (h : ValIs w t c) : c.Good := by cases h with | mk c l hg hl hr => exact hg
theorem ValIs.inv {w : World} {k n : Int} {s : ByteArray} {l : List VT} {c : VC} (h : ValIs w (.mk k n s l) c) : c.k = k ∧ c.n = n ∧ c.s = s ∧ c.Good ∧ l.length = c.len ∧ RowIs w c.A 0 l := by
  cases h with | mk c l hg hl hr => exact ⟨rfl, rfl, rfl, hg, hl, hr⟩
theorem RowIs.inv {w : World} {A : Option Addr} {j : Nat} {t : VT} {l : List VT} (h : RowIs w A j (t :: l)) : ∃ ad e, A = some ad ∧ (∀ i, i < 4 → w.cell? (ad.add (j * 4 + i)) = e.cells[i]?) ∧ ValIs w t e ∧ RowIs w A (j + 1) l := by
  cases h with | cons ad j t l e hcell h hr => exact ⟨ad, e, rfl, hcell, h, hr⟩
mutual
theorem ValIs.chg {w w' : World} (hc : Chg NoS w w') : ∀ {t : VT} {c : VC}, ValIs w t c → ValIs w' t c
  | _, _, .mk c l hg hl hr => .mk c l hg hl (RowIs.chg hc hr)
theorem RowIs.chg {w w' : World} (hc : Chg NoS w w') : ∀ {A : Option Addr} {j : Nat} {l : List VT}, RowIs w A j l → RowIs w' A j l
  | _, _, _, .nil A j => .nil A j
  | _, _, _, .cons ad j t l e hcell h hr => .cons ad j t l e (fun i hi => by
      have h0 := hcell i hi
      have hlt : ∃ u, e.cells[i]? = some u := ⟨_, List.getElem?_eq_getElem (show i < e.cells.length from hi)⟩
      obtain ⟨u, hu⟩ := hlt
      rw [hu] at h0 ⊢
      exact (hc.cell (by exact cell_lt h0) (fun e => e)).trans h0) (ValIs.chg hc h) (RowIs.chg hc hr)
end
/-- Where a row begins that has something. -/
theorem RowIs.start {w : World} {A : Option Addr} {t : VT} {l : List VT} (h : RowIs w A 0 (t :: l)) : ∃ b off, A = some ⟨b, off, none⟩ := by
  obtain ⟨⟨b, off, sp⟩, e, rfl, hc, hv, hr⟩ := h.inv
  have h0 := hc 0 (by decide)
  have hs : sp = none := by simpa [Addr.add] using World.cell?_spot (h0.trans (show e.cells[0]? = some _ from rfl))
  exact ⟨b, off, by rw [hs]⟩
/-- An element's four cells, plain. -/
theorem RowIs.plain {w : World} {b off j : Nat} {t : VT} {l : List VT} (h : RowIs w (some ⟨b, off, none⟩) j (t :: l)) : ∃ e : VC,
    w.cell? ⟨b, off + j * 4, none⟩ = some (.int .i64 e.k) ∧ w.cell? ⟨b, off + j * 4 + 1, none⟩ = some (.int .i64 e.n) ∧ w.cell? ⟨b, off + j * 4 + 2, none⟩ = some (.string e.s) ∧ w.cell? ⟨b, off + j * 4 + 3, none⟩ = some (.slice e.A e.len e.cap) ∧ ValIs w t e ∧ RowIs w (some ⟨b, off, none⟩) (j + 1) l := by
  obtain ⟨ad, e, hA, hc, hv, hr⟩ := h.inv
  cases hA
  have hadd : ∀ i, (⟨b, off, none⟩ : Addr).add i = ⟨b, off + i, none⟩ := fun i => by unfold Addr.add; split <;> simp_all
  have h0 := hc 0 (by decide)
  have h1 := hc 1 (by decide)
  have h2 := hc 2 (by decide)
  have h3 := hc 3 (by decide)
  rw [hadd] at h0 h1 h2 h3
  exact ⟨e, h0, h1, h2, h3, hv, hr⟩
/-- A row of trees out of its elements. -/
theorem row_of {w : World} {ad : Addr} {len : Nat} (f : Nat → VC × VT) (hf : ∀ j, j < len → (∀ i, i < 4 → w.cell? (ad.add (j * 4 + i)) = (f j).1.cells[i]?) ∧ ValIs w (f j).2 (f j).1) : ∀ (m j : Nat), j + m = len → ∃ l : List VT, l.length = m ∧ RowIs w (some ad) j l := by
  intro m
  induction m with
  | zero => intro j _; exact ⟨[], rfl, .nil _ _⟩
  | succ m ih =>
    intro j hj
    obtain ⟨l, hl, hr⟩ := ih (j + 1) (by omega)
    obtain ⟨h1, h2⟩ := hf j (by omega)
    exact ⟨(f j).2 :: l, by rw [List.length_cons, hl], .cons ad j _ l _ h1 h2 hr⟩
theorem el_four {H : Type} {en : TypeId × Value → H} {P : Program} {w : World} {base fuel : Nat} {spare : Nat → Bool} {held : Bool} {e : TypeId} {cs : List Value} {y : DataW H × List MemPlace} {f0 f1 f2 f3 : Field}
    (he : P.underlying e = some (.struct #[f0, f1, f2, f3])) (hone : oneCellFields P #[f0, f1, f2, f3] = true) (hC : P.cellsOf e = 4) (h : DataW.trod en P w base spare held fuel e cs = some y) :
    ∃ u v x z m y0 y1 y2 y3, fuel = m + 1 ∧ cs = [u, v, x, z] ∧ DataW.trod en P w base spare held m f0.type [u] = some y0 ∧ DataW.trod en P w base spare held m f1.type [v] = some y1 ∧ DataW.trod en P w base spare held m f2.type [x] = some y2 ∧ DataW.trod en P w base spare held m f3.type [z] = some y3 := by
  obtain ⟨xs, m, rfl, _, hl, hx, hf⟩ := DataW.trod_struct he h
  rw [hC] at hl
  obtain ⟨o0, c0⟩ := hone_of hone 0 f0 rfl
  obtain ⟨o1, c1⟩ := hone_of hone 1 f1 rfl
  obtain ⟨o2, c2⟩ := hone_of hone 2 f2 rfl
  obtain ⟨o3, c3⟩ := hone_of hone 3 f3 rfl
  have h0 := hf 0 f0 rfl
  have h1 := hf 1 f1 rfl
  have h2 := hf 2 f2 rfl
  have h3 := hf 3 f3 rfl
  rw [o0, c0] at h0
  rw [o1, c1] at h1
  rw [o2, c2] at h2
  rw [o3, c3] at h3
  match cs, hl with
  | [u, v, x, z], _ =>
    simp at hx
    rw [List.getElem?_eq_getElem (by omega)] at h0 h1 h2 h3
    exact ⟨u, v, x, z, m, _, _, _, _, rfl, rfl, by simpa using h0, by simpa using h1, by simpa using h2, by simpa using h3⟩
set_option maxHeartbeats 1000000 in
/-- What comes in as a value is a tree. -/
theorem vt_el {H : Type} {en : TypeId × Value → H} {w : World} {base : Nat} {spare : Nat → Bool} {held : Bool} : ∀ (fuel : Nat) (cs : List Value) (y : DataW H × List MemPlace), DataW.trod en Try.prog w base spare held fuel 24 cs = some y → ∃ (c : VC) (t : VT), cs = c.cells ∧ ValIs w t c := by
  intro fuel
  induction fuel using Nat.strongRecOn with
  | _ fuel ih =>
    intro cs y h
    obtain ⟨u, v, x, z, m, y0, y1, y2, y3, rfl, rfl, h0, h1, h2, h3⟩ := el_four Try.underlying24 (by kernel_rfl) (by kernel_rfl) h
    obtain ⟨z0, e0, g0⟩ := el_int Try.underlying3 h0
    obtain ⟨z1, e1, g1⟩ := el_int Try.underlying3 h1
    obtain ⟨s, e2, _, g2⟩ := DataW.trod_string Try.underlying9 h2
    simp only [List.cons.injEq, and_true] at e0 e1 e2
    subst e0 e1 e2
    rcases DataW.trod_slice Try.underlying22 h3 with ⟨e3, _⟩ | ⟨a, len, cap, elems, rest, n, rfl, e3, _, hb, hl, hm, hlen, hel, _, _⟩
    · simp only [List.cons.injEq, and_true] at e3
      subst e3
      exact ⟨⟨z0, z1, s, none, 0, 0⟩, _, rfl, .mk ⟨z0, z1, s, none, 0, 0⟩ [] ⟨bounds_i64 g0, bounds_i64 g1, g2, fun _ => ⟨rfl, rfl⟩, Nat.le_refl _, Nat.zero_le _⟩ rfl (.nil _ _)⟩
    · simp only [List.cons.injEq, and_true] at e3
      subst e3
      have hex : ∀ j, j < len → ∃ p : VC × VT, (∀ i, i < 4 → w.cell? (a.add (j * 4 + i)) = p.1.cells[i]?) ∧ ValIs w p.2 p.1 := by
        intro j hj
        have h4 := hel j hj
        rw [List.getElem?_eq_getElem (by omega)] at h4
        obtain ⟨cs', hcs', ht'⟩ := Option.bind_eq_some_iff.1 h4
        rw [show Try.prog.cellsOf 24 = 4 from by kernel_rfl] at hcs'
        obtain ⟨_, hcl, hat⟩ := World.cells?_some hcs'
        obtain ⟨c, t, rfl, hv⟩ := ih n (by omega) cs' _ ht'
        exact ⟨(c, t), fun i hi => by rw [← Go.Deep.add_add]; exact hat i hi, hv⟩
      haveI : Inhabited VT := ⟨.mk 0 0 ⟨#[]⟩ []⟩
      obtain ⟨f, hf⟩ := choose_lt hex
      obtain ⟨l, hll, hr⟩ := row_of f hf len 0 (by omega)
      exact ⟨⟨z0, z1, s, some a, len, cap⟩, _, rfl, .mk ⟨z0, z1, s, some a, len, cap⟩ l ⟨bounds_i64 g0, bounds_i64 g1, g2, fun e => (by cases e), hl, Nat.le_trans hl hm⟩ hll hr⟩
/-- A value that comes in as an argument. -/
theorem open_vt {H : Type} {enc : TypeId × Value → H} {w : World} {base b0 : Nat} {spare : Nat → Bool} {held : Bool} {r : Reach} {v : Value} {d : DataW H} {p : List MemPlace} (hv : Value.okWide Try.prog w r b0 24 v)
    (h : DataW.Trod enc Try.prog w base spare held 24 v d p) : ∃ (c : VC) (t : VT), v = c.val ∧ ValIs w t c := by
  obtain ⟨cs, rfl, hsz⟩ := okWide_struct Try.underlying24 hv
  obtain ⟨fuel, hf⟩ := h
  obtain ⟨c, t, hc, hv⟩ := vt_el fuel _ _ hf
  refine ⟨c, t, ?_, hv⟩
  unfold VC.val
  unfold VC.cells at hc
  simp only [Value.cells] at hc
  congr 1
  exact Array.ext' hc
end Go.Proofs.Ytjbjfoingpnlmaa
