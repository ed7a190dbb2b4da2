/- Tokens: what each first byte leads to; a token's eight cells. -/
import Derived.Test.YtmmehaghcfdjdaaLexS
namespace Go.Proofs.Ytmmehaghcfdjdaa
open Go.RowKit
set_option linter.unusedVariables false
set_option linter.unusedSimpArgs false

/-- A token as a value, of whatever package. -/
def tknV (t : Tkn) : Value := .agg #[.int .i64 (t.kind : Nat), .int .i64 (t.from_ : Nat), .int .i64 (t.to : Nat), .int .i64 (t.vk : Nat), .int .i64 t.vn, .string (sb t.vs), .slice none 0 0, .string (sb t.s)]
/-- Behind Next: the error, and the token. -/
def NxTo (w : World) (r : Int × Tkn) (e : Ending) (w' : World) : Prop := e = .returned (.tuple #[tknV r.2, .int .i64 r.1]) ∧ Chg NoS w w'
def nextA (bs : List Nat) (p : Int) (last : Bool) : Int × Tkn := if p < 0 ∨ (bs.length : Int) < p then (2, noT 0) else nextO bs p.toNat last
section
variable {last : Bool} {p x : Nat} {l : List Nat}
theorem tok_91 : tokO last p 91 l = (0, ⟨2, p, p + 1, 0, 0, [], []⟩) := rfl
theorem tok_93 : tokO last p 93 l = (0, ⟨3, p, p + 1, 0, 0, [], []⟩) := rfl
theorem tok_6060 (h : l.head? = some 60) : tokO last p 60 l = (0, ⟨4, p, p + 2, 0, 0, [], []⟩) := by
  unfold tokO
  rw [if_neg (show ¬ 60 = 91 by decide), if_neg (show ¬ 60 = 93 by decide), if_pos (show 60 = 60 ∧ l.head? = some 60 from ⟨rfl, h⟩)]
theorem tok_6262 (h : l.head? = some 62) : tokO last p 62 l = (0, ⟨5, p, p + 2, 0, 0, [], []⟩) := by
  unfold tokO
  rw [if_neg (show ¬ 62 = 91 by decide), if_neg (show ¬ 62 = 93 by decide), if_neg (show ¬ (62 = 60 ∧ l.head? = some 60) from fun e => absurd e.1 (by decide)), if_pos (show 62 = 62 ∧ l.head? = some 62 from ⟨rfl, h⟩)]
theorem tok_62m (h : l = []) (h2 : last = false) : tokO last p 62 l = (6, noT p) := by
  subst h h2
  rfl
theorem tok_62f (h : ¬ l.head? = some 62) (h2 : ¬ (l = [] ∧ last = false)) : tokO last p 62 l = (11, noT p) := by
  unfold tokO
  rw [if_neg (show ¬ 62 = 91 by decide), if_neg (show ¬ 62 = 93 by decide), if_neg (show ¬ (62 = 60 ∧ l.head? = some 60) from fun e => absurd e.1 (by decide)), if_neg (show ¬ (62 = 62 ∧ l.head? = some 62) from fun e => h e.2), if_neg (show ¬ (62 = 62 ∧ l = [] ∧ last = false) from fun e => h2 e.2), if_neg (show ¬ 62 = 60 by decide), if_neg (show ¬ 62 = 40 by decide), if_neg (show ¬ 62 = 47 by decide), if_pos (show isDl 62 = true from rfl)]
theorem tok_40 : tokO last p 40 l = if (txtO last 1 [] (p + 1) l).1 ≠ 0 then ((txtO last 1 [] (p + 1) l).1, noT p) else (0, ⟨1, p, (txtO last 1 [] (p + 1) l).2.2, 4, 0, (txtO last 1 [] (p + 1) l).2.1, []⟩) := by
  unfold tokO
  rw [if_neg (show ¬ 40 = 91 by decide), if_neg (show ¬ 40 = 93 by decide), if_neg (show ¬ (40 = 60 ∧ l.head? = some 60) from fun e => absurd e.1 (by decide)), if_neg (show ¬ (40 = 62 ∧ l.head? = some 62) from fun e => absurd e.1 (by decide)), if_neg (show ¬ (40 = 62 ∧ l = [] ∧ last = false) from fun e => absurd e.1 (by decide)), if_neg (show ¬ 40 = 60 by decide), if_pos (show 40 = 40 from rfl)]
theorem tok_47 : tokO last p 47 l = if rgs l = l.length ∧ last = false then (6, noT p) else if (nameO (l.take (rgs l))).1 ≠ 0 then ((nameO (l.take (rgs l))).1, noT p) else (0, ⟨1, p, p + 1 + rgs l, 5, 0, (nameO (l.take (rgs l))).2, []⟩) := by
  unfold tokO
  rw [if_neg (show ¬ 47 = 91 by decide), if_neg (show ¬ 47 = 93 by decide), if_neg (show ¬ (47 = 60 ∧ l.head? = some 60) from fun e => absurd e.1 (by decide)), if_neg (show ¬ (47 = 62 ∧ l.head? = some 62) from fun e => absurd e.1 (by decide)), if_neg (show ¬ (47 = 62 ∧ l = [] ∧ last = false) from fun e => absurd e.1 (by decide)), if_neg (show ¬ 47 = 60 by decide), if_neg (show ¬ 47 = 40 by decide), if_pos (show 47 = 47 from rfl)]
theorem tok_rest (h1 : x ≠ 91) (h2 : x ≠ 93) (h3 : x ≠ 60) (h4 : x ≠ 62) (h5 : x ≠ 40) (h6 : x ≠ 47) : tokO last p x l =
    if isDl x then (11, noT p)
    else if rgs l = l.length ∧ last = false then (6, noT p)
    else if isNm x then
      if (numOf ((x :: l).take (rgs l + 1))).1 ≠ 0 then ((numOf ((x :: l).take (rgs l + 1))).1, noT p) else (0, ⟨1, p, p + 1 + rgs l, (numOf ((x :: l).take (rgs l + 1))).2.1, (numOf ((x :: l).take (rgs l + 1))).2.2, [], []⟩)
    else (0, ⟨6, p, p + 1 + rgs l, 0, 0, [], (x :: l).take (rgs l + 1)⟩) := by
  unfold tokO
  rw [if_neg h1, if_neg h2, if_neg (fun e => h3 e.1), if_neg (fun e => h4 e.1), if_neg (fun e => h4 e.1), if_neg h3, if_neg h5, if_neg h6]
end
/-- A block of eight cells that is stored over whole. -/
def set8 (w : World) (g : Nat) (a0 a1 a2 a3 a4 a5 a6 a7 : Value) : World :=
  (((((((w.setCell ⟨g, 0, none⟩ a0).setCell ⟨g, 1, none⟩ a1).setCell ⟨g, 2, none⟩ a2).setCell ⟨g, 3, none⟩ a3).setCell ⟨g, 4, none⟩ a4).setCell ⟨g, 5, none⟩ a5).setCell ⟨g, 6, none⟩ a6).setCell ⟨g, 7, none⟩ a7
theorem Blk.eight {w : World} {g : Nat} {t : TypeId} {x0 x1 x2 x3 x4 x5 x6 x7 : Value} (h : Blk w g t #[x0, x1, x2, x3, x4, x5, x6, x7]) (a0 a1 a2 a3 a4 a5 a6 a7 : Value) : Blk (set8 w g a0 a1 a2 a3 a4 a5 a6 a7) g t #[a0, a1, a2, a3, a4, a5, a6, a7] := by
  have h1 := h.set_ 0 a0
  have h2 := h1.set_ 1 a1
  have h3 := h2.set_ 2 a2
  have h4 := h3.set_ 3 a3
  have h5 := h4.set_ 4 a4
  have h6 := h5.set_ 5 a5
  have h7 := h6.set_ 6 a6
  have h8 := h7.set_ 7 a7
  unfold set8
  simpa using h8
theorem Blk.eight_far {w : World} {g g2 : Nat} {t : TypeId} {cs : Array Value} (h : Blk w g t cs) (hne : g ≠ g2) (a0 a1 a2 a3 a4 a5 a6 a7 : Value) : Blk (set8 w g2 a0 a1 a2 a3 a4 a5 a6 a7) g t cs := by
  unfold set8
  exact (((((((h.far (p := ⟨g2, 0, none⟩) hne a0).far (p := ⟨g2, 1, none⟩) hne a1).far (p := ⟨g2, 2, none⟩) hne a2).far (p := ⟨g2, 3, none⟩) hne a3).far (p := ⟨g2, 4, none⟩) hne a4).far (p := ⟨g2, 5, none⟩) hne a5).far (p := ⟨g2, 6, none⟩) hne a6).far (p := ⟨g2, 7, none⟩) hne a7
theorem Chg.eight {w W : World} {g : Nat} (h : Chg NoS w W) (hg : w.heap.size ≤ g) (a0 a1 a2 a3 a4 a5 a6 a7 : Value) : Chg NoS w (set8 W g a0 a1 a2 a3 a4 a5 a6 a7) := by
  have hn : ∀ i, (⟨g, i, none⟩ : Addr).block < w.heap.size → NoS (⟨g, i, none⟩ : Addr).block := fun i e => absurd e (Nat.not_lt.2 hg)
  unfold set8
  exact (((((((h.setCell (hn 0) a0).setCell (hn 1) a1).setCell (hn 2) a2).setCell (hn 3) a3).setCell (hn 4) a4).setCell (hn 5) a5).setCell (hn 6) a6).setCell (hn 7) a7
end Go.Proofs.Ytmmehaghcfdjdaa
