/- What value's functions are to answer, and what is held of a value's box over calls that change none of it. -/
import Derived.Test.YtjbjfoingpnlmaaRVt11
import Derived.Test.YtjbjfoingpnlmaaVPutM
import Derived.Test.YtjbjfoingpnlmaaRVt8
namespace Go.Proofs.Ytjbjfoingpnlmaa
open Go.RowKit
set_option linter.unusedVariables false
set_option linter.unusedSimpArgs false

mutual
theorem few_T : ∀ (t : VT) (left : Int), 0 ≤ fewT t left → fewT t left = left - sizT t
  | .mk _ _ _ l, left => fun h => by
    rw [fewT] at h ⊢
    rw [few_L l (left - 1) h, sizT_mk]
    omega
theorem few_L : ∀ (l : List VT) (left : Int), 0 ≤ fewL l left → fewL l left = left - sizL l
  | [], left => fun h => by rw [fewL, sizL]; omega
  | t :: l, left => fun h => by
    rw [fewL_cons] at h ⊢
    by_cases h0 : 0 ≤ left
    · rw [if_pos h0] at h ⊢
      by_cases h1 : 0 ≤ fewT t left
      · rw [few_L l _ h, few_T t left h1, sizL_cons]
        omega
      · rw [fewL_neg l h1] at h
        exact absurd h h1
    · rw [if_neg h0] at h
      exact absurd h h0
end
/-- A value that is small has at most 300 values in it, itself among them. -/
theorem small_siz {t : VT} (h : 0 ≤ fewT t 300) : sizT t ≤ 300 := by
  have := few_T t 300 h
  omega
/-- What value's functions are to answer, of values of at most 10^6 in one another. -/
structure ValOk : Prop where
  check : ∀ (t : VT) (c : VC) (w : World), ValIs w t c → sizT t ≤ 1000000 → Calls Try.prog 10 #[c.val] w fun e w' => e = .returned (.int .i64 (checkT t)) ∧ Chg NoS w w'
  depth : ∀ (t : VT) (c : VC) (w : World), ValIs w t c → sizT t ≤ 1000000 → Calls Try.prog 12 #[c.val] w fun e w' => e = .returned (.int .i64 (depthT t : Nat)) ∧ Chg NoS w w'
  compare : ∀ (t t' : VT) (c c' : VC) (w : World), ValIs w t c → ValIs w t' c' → sizT t ≤ 1000000 → sizT t' ≤ 1000000 → Calls Try.prog 15 #[c.val, c'.val] w fun e w' => e = .returned (.int .i64 (cmpT t t')) ∧ Chg NoS w w'
  same : ∀ (t t' : VT) (c c' : VC) (w : World), ValIs w t c → ValIs w t' c' → sizT t ≤ 1000000 → sizT t' ≤ 1000000 → Calls Try.prog 17 #[c.val, c'.val] w fun e w' => e = .returned (.bool (decide (cmpT t t' = 0))) ∧ Chg NoS w w'
  get : ∀ (c : VC) (l : List VT) (key : ByteArray) (w : World), ValIs w (.mk c.k c.n c.s l) c → sizL l ≤ 1000000 → key.size ≤ maxLen → Calls Try.prog 19 #[c.val, .string key] w (GetTo w (getT c.k l key))
  put : ∀ (c cx : VC) (l : List VT) (tx : VT) (key : ByteArray) (w : World), ValIs w (.mk c.k c.n c.s l) c → ValIs w tx cx → sizL l ≤ 1000000 → sizT tx ≤ 1000000 → key.size ≤ maxLen → Calls Try.prog 21 #[c.val, .string key, cx.val] w (TreeTo w (putT (.mk c.k c.n c.s l) key tx))
  drop : ∀ (c : VC) (l : List VT) (key : ByteArray) (w : World), ValIs w (.mk c.k c.n c.s l) c → sizL l ≤ 1000000 → key.size ≤ maxLen → Calls Try.prog 23 #[c.val, .string key] w (TreeTo w (dropT (.mk c.k c.n c.s l) key))
  works : ∀ (w : World), Calls Try.prog 14 #[] w fun e w' => e = .returned (.bool true) ∧ Chg NoS w w'
/-- A value's box, whole, and nothing of old changed. -/
structure VSt (w : World) (g : Nat) (cs : Array Value) (W : World) : Prop where
  b : Blk W g 24 cs
  chg : Chg NoS w W
theorem VSt.call {w W W' : World} {g : Nat} {cs : Array Value} (h : VSt w g cs W) (hc : Chg NoS W W') : VSt w g cs W' := ⟨h.b.chg hc (fun e => e), h.chg.trans hc (fun _ _ e => e)⟩
theorem VSt.drew {w W : World} {g : Nat} {cs : Array Value} (h : VSt w g cs W) : VSt w g cs W.drew := ⟨h.b, h.chg.drew⟩
theorem VSt.cells {w W : World} {g : Nat} {a b c d : Value} (h : VSt w g #[a, b, c, d] W) : W.cell? ⟨g, 0, none⟩ = some a ∧ W.cell? ⟨g, 1, none⟩ = some b ∧ W.cell? ⟨g, 2, none⟩ = some c ∧ W.cell? ⟨g, 3, none⟩ = some d := by
  have x0 := h.b.cell 0
  have x1 := h.b.cell 1
  have x2 := h.b.cell 2
  have x3 := h.b.cell 3
  simp at x0 x1 x2 x3
  exact ⟨x0, x1, x2, x3⟩
theorem VSt.of_ {w : World} {g : Nat} {cs : Array Value} {f : FuncId} {args : Array Value} {v : Value} (H : ∀ W, Chg NoS w W → Calls Try.prog f args W fun e w' => e = .returned v ∧ Chg NoS W w') (W : World) (h : VSt w g cs W) : Calls Try.prog f args W fun e w' => e = .returned v ∧ VSt w g cs w' :=
  (H W h.chg).mono fun _ _ ⟨he, hc⟩ => ⟨he, h.call hc⟩
end Go.Proofs.Ytjbjfoingpnlmaa
