/- The walk of ValuePuts: what is put into a dictionary is got, what is dropped is not, and a dictionary that may be stays one (written by mkvputs.py). -/
import Derived.Test.YtjbjfoingpnlmaaVCmpW
import Derived.Test.YtjbjfoingpnlmaaValO
import Derived.Test.YtjbjfoingpnlmaaRVt11
import Derived.Test.YtjbjfoingpnlmaaVPutM
import Derived.Test.YtjbjfoingpnlmaaRVt10
import Derived.Test.YtjbjfoingpnlmaaRVt7
import Derived.Test.YtjbjfoingpnlmaaRVt6
import Derived.Deep.RegionHeld3
import Derived.BigRegion
namespace Go.Proofs.Ytjbjfoingpnlmaa
open Go.RowKit
set_option linter.unusedVariables false
set_option linter.unusedSimpArgs false
/-- What Get tells, and two boxes as they were. -/
def Get2 (w W : World) (g g2 : Nat) (cs cs2 : Array Value) (t : VT) (is : Bool) (e : Ending) (w' : World) : Prop := ∃ (k n : Int) (s : ByteArray) (A : Option Addr) (len cap : Nat), e = .returned (.tuple #[.agg #[.int .i64 k, .int .i64 n, .string s, .slice A len cap], .bool is]) ∧ ValIs w' t ⟨k, n, s, A, len, cap⟩ ∧ VSt2 w g g2 cs cs2 w' ∧ Chg NoS W w'
theorem VSt2.got {w : World} {g g2 : Nat} {cs cs2 : Array Value} {f : FuncId} {args : Array Value} {t : VT} {is : Bool} (H : ∀ W, Chg NoS w W → Calls Try.prog f args W (GetTo W (t, is))) (W : World) (h : VSt2 w g g2 cs cs2 W) : Calls Try.prog f args W (Get2 w W g g2 cs cs2 t is) :=
  (H W h.chg).mono fun _ _ ⟨⟨k, n, s, A, len, cap⟩, he, hv, hc⟩ => ⟨k, n, s, A, len, cap, he, hv, h.call hc, hc⟩
theorem VSt2.alloc {w W : World} {g g2 : Nat} {cs cs2 : Array Value} (h : VSt2 w g g2 cs cs2 W) (o : Obj) : VSt2 w g g2 cs cs2 (W.alloc o) := ⟨h.b.alloc o, h.d.alloc o, h.chg.alloc o⟩
/-- Four values' boxes. -/
structure VSt4 (w : World) (g g2 g3 g4 : Nat) (cs cs2 cs3 cs4 : Array Value) (W : World) : Prop where
  st : VSt2 w g g2 cs cs2 W
  f : Blk W g3 24 cs3
  h : Blk W g4 24 cs4
theorem VSt4.call {w W W' : World} {g g2 g3 g4 : Nat} {cs cs2 cs3 cs4 : Array Value} (h : VSt4 w g g2 g3 g4 cs cs2 cs3 cs4 W) (hc : Chg NoS W W') : VSt4 w g g2 g3 g4 cs cs2 cs3 cs4 W' := ⟨h.st.call hc, h.f.chg hc (fun e => e), h.h.chg hc (fun e => e)⟩
theorem VSt4.drew {w W : World} {g g2 g3 g4 : Nat} {cs cs2 cs3 cs4 : Array Value} (h : VSt4 w g g2 g3 g4 cs cs2 cs3 cs4 W) : VSt4 w g g2 g3 g4 cs cs2 cs3 cs4 W.drew := ⟨h.st.drew, h.f, h.h⟩
theorem VSt4.cells {w W : World} {g g2 g3 g4 : Nat} {a b c d a' b' c' d' a2 b2 c2 d2 a3 b3 c3 d3 : Value} (h : VSt4 w g g2 g3 g4 #[a, b, c, d] #[a', b', c', d'] #[a2, b2, c2, d2] #[a3, b3, c3, d3] W) : W.cell? ⟨g, 0, none⟩ = some a ∧ W.cell? ⟨g, 1, none⟩ = some b ∧ W.cell? ⟨g, 2, none⟩ = some c ∧ W.cell? ⟨g, 3, none⟩ = some d ∧ W.cell? ⟨g2, 0, none⟩ = some a' ∧ W.cell? ⟨g2, 1, none⟩ = some b' ∧ W.cell? ⟨g2, 2, none⟩ = some c' ∧ W.cell? ⟨g2, 3, none⟩ = some d' ∧ W.cell? ⟨g3, 0, none⟩ = some a2 ∧ W.cell? ⟨g3, 1, none⟩ = some b2 ∧ W.cell? ⟨g3, 2, none⟩ = some c2 ∧ W.cell? ⟨g3, 3, none⟩ = some d2 ∧ W.cell? ⟨g4, 0, none⟩ = some a3 ∧ W.cell? ⟨g4, 1, none⟩ = some b3 ∧ W.cell? ⟨g4, 2, none⟩ = some c3 ∧ W.cell? ⟨g4, 3, none⟩ = some d3 := by
  obtain ⟨x0, x1, x2, x3, y0, y1, y2, y3⟩ := h.st.cells
  have z0 := h.f.cell 0
  have z1 := h.f.cell 1
  have z2 := h.f.cell 2
  have z3 := h.f.cell 3
  have u0 := h.h.cell 0
  have u1 := h.h.cell 1
  have u2 := h.h.cell 2
  have u3 := h.h.cell 3
  simp at z0 z1 z2 z3 u0 u1 u2 u3
  exact ⟨x0, x1, x2, x3, y0, y1, y2, y3, z0, z1, z2, z3, u0, u1, u2, u3⟩
theorem VSt4.of_ {w : World} {g g2 g3 g4 : Nat} {cs cs2 cs3 cs4 : Array Value} {f : FuncId} {args : Array Value} {v : Value} (H : ∀ W, Chg NoS w W → Calls Try.prog f args W fun e w' => e = .returned v ∧ Chg NoS W w') (W : World) (h : VSt4 w g g2 g3 g4 cs cs2 cs3 cs4 W) : Calls Try.prog f args W fun e w' => e = .returned v ∧ VSt4 w g g2 g3 g4 cs cs2 cs3 cs4 w' :=
  (H W h.st.chg).mono fun _ _ ⟨he, hc⟩ => ⟨he, h.call hc⟩
def Val4 (w W : World) (g g2 g3 g4 : Nat) (cs cs2 cs3 cs4 : Array Value) (t : VT) (e : Ending) (w' : World) : Prop := ∃ (k n : Int) (s : ByteArray) (A : Option Addr) (len cap : Nat), e = .returned (.agg #[.int .i64 k, .int .i64 n, .string s, .slice A len cap]) ∧ ValIs w' t ⟨k, n, s, A, len, cap⟩ ∧ VSt4 w g g2 g3 g4 cs cs2 cs3 cs4 w' ∧ Chg NoS W w'
theorem VSt4.tree {w : World} {g g2 g3 g4 : Nat} {cs cs2 cs3 cs4 : Array Value} {f : FuncId} {args : Array Value} {t : VT} (H : ∀ W, Chg NoS w W → Calls Try.prog f args W (TreeTo W t)) (W : World) (h : VSt4 w g g2 g3 g4 cs cs2 cs3 cs4 W) : Calls Try.prog f args W (Val4 w W g g2 g3 g4 cs cs2 cs3 cs4 t) :=
  (H W h.st.chg).mono fun _ _ ⟨⟨k, n, s, A, len, cap⟩, he, hv, hc⟩ => ⟨k, n, s, A, len, cap, he, hv, h.call hc, hc⟩
theorem VSt4.same {w : World} {g g2 g3 g4 : Nat} {cs cs2 cs3 cs4 : Array Value} (t : VT) (k n : Int) (s : ByteArray) (A : Option Addr) (len cap : Nat) (k' n' : Int) (s' : ByteArray) (A' : Option Addr) (len' cap' : Nat) (W : World) (h : VSt4 w g g2 g3 g4 cs cs2 cs3 cs4 W) (h1 : ValIs W t ⟨k, n, s, A, len, cap⟩) (h2 : ValIs W t ⟨k', n', s', A', len', cap'⟩) :
    Calls Try.prog 18 #[.agg #[.int .i64 k, .int .i64 n, .string s, .slice A len cap], .agg #[.int .i64 k', .int .i64 n', .string s', .slice A' len' cap']] W fun e w' => e = .returned (.bool true) ∧ VSt4 w g g2 g3 g4 cs cs2 cs3 cs4 w' :=
  (rsame11_any t t ⟨k, n, s, A, len, cap⟩ ⟨k', n', s', A', len', cap'⟩ W h1 h2).mono fun _ _ ⟨he, hc⟩ => ⟨by rw [he, cmpT_self]; rfl, h.call hc⟩
theorem sizL_app : ∀ (a b : List VT), sizL (a ++ b) = sizL a + sizL b
  | [], b => by rw [List.nil_append, show sizL [] = 0 by rw [sizL]]; omega
  | t :: a, b => by rw [List.cons_append, sizL_cons, sizL_cons, sizL_app a b]; omega
theorem siz_nm (key : ByteArray) : sizT (nmT key) = 1 := by rw [nmT, sizT_mk, show sizL [] = 0 by rw [sizL]]
theorem sizL_nil : sizL [] = 0 := by rw [sizL]
theorem sizL_ins (key : ByteArray) (x : VT) : ∀ (N : Nat) (l : List VT), l.length ≤ N → sizL (insL key x l) = sizL l + sizT x + 1 := by
  intro N
  induction N using Nat.strongRecOn with
  | _ N ih =>
    intro l hl
    match l with
    | [] => rw [insL, sizL_cons, sizL_cons, siz_nm, sizL_nil]; omega
    | [a] =>
      rw [insL]
      split <;> simp only [sizL_cons, siz_nm, sizL_nil] <;> omega
    | a :: u :: l' =>
      simp only [List.length_cons] at hl
      by_cases hg : gtT key a
      · rw [ins_gt hg]; simp only [sizL_cons, siz_nm]; omega
      · rw [ins_le hg]
        have := ih (N - 1) (by omega) l' (by omega)
        simp only [sizL_cons]
        omega
theorem sizL_put (key : ByteArray) (x : VT) (l : List VT) : sizL (putL key x l) ≤ sizL l + sizT x + 1 := by
  unfold putL
  split
  · next j _ =>
    unfold replL
    have h1 := sizL_app (l.take (2 * j + 1)) (l.drop (2 * j + 1))
    rw [List.take_append_drop] at h1
    have h2 := sizL_drop (l.drop (2 * j + 1)) 1
    rw [List.drop_drop, show 2 * j + 1 + 1 = 2 * j + 2 by omega] at h2
    rw [sizL_app, sizL_cons]
    omega
  · have := sizL_ins key x _ l (Nat.le_refl _)
    omega
theorem VSt4.alloc {w W : World} {g g2 g3 g4 : Nat} {cs cs2 cs3 cs4 : Array Value} (h : VSt4 w g g2 g3 g4 cs cs2 cs3 cs4 W) (o : Obj) : VSt4 w g g2 g3 g4 cs cs2 cs3 cs4 (W.alloc o) := ⟨h.st.alloc o, h.f.alloc o, h.h.alloc o⟩
theorem VSt4.got {w : World} {g g2 g3 g4 : Nat} {cs cs2 cs3 cs4 : Array Value} {f : FuncId} {args : Array Value} {v : Value} {P : World → Prop} (hP : ∀ V V', Chg NoS V V' → P V → P V') (H : ∀ W, Chg NoS w W → P W → Calls Try.prog f args W fun e w' => e = .returned v ∧ Chg NoS W w') (W : World) (h : VSt4 w g g2 g3 g4 cs cs2 cs3 cs4 W) (p : P W) : Calls Try.prog f args W fun e w' => e = .returned v ∧ VSt4 w g g2 g3 g4 cs cs2 cs3 cs4 w' ∧ P w' :=
  (H W h.st.chg p).mono fun _ _ ⟨he, hc⟩ => ⟨he, h.call hc, hP _ _ hc p⟩
/-- A dictionary that is told, and the boxes as they were. -/
def Dict2 (S : World → Prop) (W : World) (n : Int) (s : ByteArray) (l : List VT) (e : Ending) (w' : World) : Prop := ∃ (A : Option Addr) (len cap : Nat), e = .returned (.agg #[.int .i64 7, .int .i64 n, .string s, .slice A len cap]) ∧ ValIs w' (.mk 7 n s l) ⟨7, n, s, A, len, cap⟩ ∧ S w' ∧ Chg NoS W w'
theorem dict_to {S : World → Prop} {f : FuncId} {args : Array Value} {n : Int} {s : ByteArray} {l : List VT} {W : World} (hS : ∀ V, Chg NoS W V → S V) (H : Calls Try.prog f args W (TreeTo W (.mk 7 n s l))) : Calls Try.prog f args W (Dict2 S W n s l) :=
  H.mono fun _ _ ⟨⟨k', n', s', A, len, cap⟩, he, hv, hc⟩ => by
    obtain ⟨h1, h2, h3, _⟩ := hv.inv
    simp only [] at h1 h2 h3
    subst h1 h2 h3
    exact ⟨A, len, cap, he, hv, hS _ hc, hc⟩
/-- The boxes, and what was put in. -/
structure VStP (w : World) (g g2 g3 g4 : Nat) (cs cs2 cs3 cs4 : Array Value) (t : VT) (c : VC) (W : World) : Prop where
  st : VSt4 w g g2 g3 g4 cs cs2 cs3 cs4 W
  p : ValIs W t c
theorem VStP.call {w W W' : World} {g g2 g3 g4 : Nat} {cs cs2 cs3 cs4 : Array Value} {t : VT} {c : VC} (h : VStP w g g2 g3 g4 cs cs2 cs3 cs4 t c W) (hc : Chg NoS W W') : VStP w g g2 g3 g4 cs cs2 cs3 cs4 t c W' := ⟨h.st.call hc, h.p.chg hc⟩
theorem VStP.of_ {w : World} {g g2 g3 g4 : Nat} {cs cs2 cs3 cs4 : Array Value} {t : VT} {c : VC} {f : FuncId} {args : Array Value} {v : Value} (H : ∀ W, Chg NoS w W → ValIs W t c → Calls Try.prog f args W fun e w' => e = .returned v ∧ Chg NoS W w') (W : World) (h : VStP w g g2 g3 g4 cs cs2 cs3 cs4 t c W) : Calls Try.prog f args W fun e w' => e = .returned v ∧ VStP w g g2 g3 g4 cs cs2 cs3 cs4 t c w' :=
  (H W h.st.st.chg h.p).mono fun _ _ ⟨he, hc⟩ => ⟨he, h.call hc⟩
theorem VStP.tree {w : World} {g g2 g3 g4 : Nat} {cs cs2 cs3 cs4 : Array Value} {t : VT} {c : VC} {f : FuncId} {args : Array Value} {n : Int} {s : ByteArray} {l : List VT} (H : ∀ W, Chg NoS w W → ValIs W t c → Calls Try.prog f args W (TreeTo W (.mk 7 n s l))) (W : World) (h : VStP w g g2 g3 g4 cs cs2 cs3 cs4 t c W) : Calls Try.prog f args W (Dict2 (VStP w g g2 g3 g4 cs cs2 cs3 cs4 t c) W n s l) :=
  dict_to (fun _ hc => h.call hc) (H W h.st.st.chg h.p)
/-- What is left of a dictionary when a name is dropped. -/
theorem drop_put {n : Int} {s key : ByteArray} {x : VT} {l : List VT} (hl : l.length % 2 = 0) (hok : okD none l) : ∃ l2 u, dropT (.mk 7 n s (putL key x l)) key = .mk 7 n s l2 ∧ sizL l2 ≤ sizL l ∧ getT 7 l2 key = (u, false) ∧ dropT (.mk 7 n s l) key = .mk 7 n s l2 := by
  have hg : ∀ l2, findL key l2 = none → getT 7 l2 key = (nilT, false) := fun l2 h => by unfold getT; rw [if_pos rfl, h]
  rw [put_drop hl]
  cases hf : findL key l with
  | none => exact ⟨l, nilT, drop_none hf, Nat.le_refl _, hg l hf, drop_none hf⟩
  | some j =>
    refine ⟨_, nilT, drop_some hf, ?_, hg _ (okD_drop hok hf), drop_some hf⟩
    have h1 := sizL_app (l.take (2 * j)) (l.drop (2 * j))
    rw [List.take_append_drop] at h1
    have h2 := sizL_drop (l.drop (2 * j)) 2
    rw [List.drop_drop] at h2
    rw [sizL_app]
    omega
theorem rem2 (len r : Nat) (h : len % 2 = r) : (len : Int).tmod 2 = (r : Int) ∧ IntKind.i64.wrap (r : Int) = (r : Int) := by
  refine ⟨by rw [Int.tmod_eq_emod_of_nonneg (by omega)]; omega, ?_⟩
  rw [IntKind.wrap_i64] <;> omega
set_option maxHeartbeats 8000000 in
set_option maxRecDepth 100000 in
theorem puts_no1 (H : ValOk) (t t' : VT) (c c' : VC) (key : ByteArray) (w : World) (hv : ValIs w t c) (hv' : ValIs w t' c') (hkm : key.size ≤ maxLen) (hsm1 : ¬ 0 ≤ fewT t 300) :
    Calls Try.prog 7 #[c.val, c'.val, .string key] w fun e w' => e = .returned (.bool true) ∧ Chg NoS w w' := by
  obtain ⟨tk, tn, ts, l⟩ := t
  obtain ⟨h1, h2, h3, _, hll, _⟩ := hv.inv
  subst h1 h2 h3
  have K1 := fun (W : World) (h : Chg NoS w W) => small_any _ c W (hv.chg h)
  have K2 := fun (W : World) (h : Chg NoS w W) => small_any t' c' W (hv'.chg h)
  obtain ⟨k, n, s, A, len, cap⟩ := c
  obtain ⟨k', n', s', A', len', cap'⟩ := c'
  simp only [] at hv hll hsm1
  obtain ⟨cs, hcs⟩ : ∃ cs : Array Value, cs = #[.int .i64 k, .int .i64 n, .string s, .slice A len cap] := ⟨_, rfl⟩
  obtain ⟨cs2, hcs2⟩ : ∃ cs : Array Value, cs = #[.int .i64 k', .int .i64 n', .string s', .slice A' len' cap'] := ⟨_, rfl⟩
  obtain ⟨W, hW⟩ : ∃ W, W = (w.alloc (.cells #[.int .i64 k, .int .i64 n, .string s, .slice A len cap] 24)).alloc (.cells #[.int .i64 k', .int .i64 n', .string s', .slice A' len' cap'] 24) := ⟨_, rfl⟩
  obtain ⟨g, hg⟩ : ∃ g, g = w.heap.size := ⟨_, rfl⟩
  obtain ⟨g2, hg2⟩ : ∃ g, g = w.heap.size + 1 := ⟨_, rfl⟩
  have hs1 : (w.alloc (.cells #[.int .i64 k, .int .i64 n, .string s, .slice A len cap] 24)).heap.size = w.heap.size + 1 := by simp
  have hst : VSt2 w g g2 cs cs2 W := ⟨by rw [hcs, hW, hg]; exact (Blk.new w _ _).alloc _, by rw [hcs2, hW, hg2, ← hs1]; exact Blk.new _ _ _, by rw [hW]; exact ((Chg.refl NoS w).alloc _).alloc _⟩
  have KW := keepf (VSt2.of_ (w := w) (g := g) (g2 := g2) (cs := cs) (cs2 := cs2) (fun W _ => H.works W))
  rw [show decide (0 ≤ fewT (.mk k n s l) 300) = false from by simpa using hsm1] at K1
  have KS1 := keepf (VSt2.of_ (w := w) (g := g) (g2 := g2) (cs := cs) (cs2 := cs2) K1)
  unfold VC.val at KS1 ⊢
  simp only [] at KS1 ⊢
  clear hv hv' H K1 K2 hsm1
  go_enter Try.func7, Try.ntmps7
  go_upto_region 1 with fail
  rw [← hW, ← hg2, ← hg]
  clear hW hg hg2 hs1
  subst hcs hcs2
  obtain ⟨p0, p1, p2, p3, q0, q1, q2, q3⟩ := hst.cells
  go_wp2_with first
    | (go_at_call 9; (with_reducible refine (KS1.out _ (by assumption)).mono ?_); rintro e wq ⟨rfl, hq⟩; obtain ⟨_, _, _, _, _, _, _, _⟩ := hq.cells)
    | (go_at_call 14; (with_reducible refine (KW.out _ (by assumption)).mono ?_); rintro e wq ⟨rfl, hq⟩; obtain ⟨_, _, _, _, _, _, _, _⟩ := hq.cells)
  go_ret
  exact ⟨rfl, (by assumption : VSt2 w g g2 #[.int .i64 k, .int .i64 n, .string s, .slice A len cap] #[.int .i64 k', .int .i64 n', .string s', .slice A' len' cap'] _).chg⟩
set_option maxHeartbeats 8000000 in
set_option maxRecDepth 100000 in
theorem puts_no2 (H : ValOk) (t t' : VT) (c c' : VC) (key : ByteArray) (w : World) (hv : ValIs w t c) (hv' : ValIs w t' c') (hkm : key.size ≤ maxLen) (hsm1 : 0 ≤ fewT t 300) (hsm2 : ¬ 0 ≤ fewT t' 300) :
    Calls Try.prog 7 #[c.val, c'.val, .string key] w fun e w' => e = .returned (.bool true) ∧ Chg NoS w w' := by
  obtain ⟨tk, tn, ts, l⟩ := t
  obtain ⟨h1, h2, h3, _, hll, _⟩ := hv.inv
  subst h1 h2 h3
  have K1 := fun (W : World) (h : Chg NoS w W) => small_any _ c W (hv.chg h)
  have K2 := fun (W : World) (h : Chg NoS w W) => small_any t' c' W (hv'.chg h)
  obtain ⟨k, n, s, A, len, cap⟩ := c
  obtain ⟨k', n', s', A', len', cap'⟩ := c'
  simp only [] at hv hll hsm1 hsm2
  obtain ⟨cs, hcs⟩ : ∃ cs : Array Value, cs = #[.int .i64 k, .int .i64 n, .string s, .slice A len cap] := ⟨_, rfl⟩
  obtain ⟨cs2, hcs2⟩ : ∃ cs : Array Value, cs = #[.int .i64 k', .int .i64 n', .string s', .slice A' len' cap'] := ⟨_, rfl⟩
  obtain ⟨W, hW⟩ : ∃ W, W = (w.alloc (.cells #[.int .i64 k, .int .i64 n, .string s, .slice A len cap] 24)).alloc (.cells #[.int .i64 k', .int .i64 n', .string s', .slice A' len' cap'] 24) := ⟨_, rfl⟩
  obtain ⟨g, hg⟩ : ∃ g, g = w.heap.size := ⟨_, rfl⟩
  obtain ⟨g2, hg2⟩ : ∃ g, g = w.heap.size + 1 := ⟨_, rfl⟩
  have hs1 : (w.alloc (.cells #[.int .i64 k, .int .i64 n, .string s, .slice A len cap] 24)).heap.size = w.heap.size + 1 := by simp
  have hst : VSt2 w g g2 cs cs2 W := ⟨by rw [hcs, hW, hg]; exact (Blk.new w _ _).alloc _, by rw [hcs2, hW, hg2, ← hs1]; exact Blk.new _ _ _, by rw [hW]; exact ((Chg.refl NoS w).alloc _).alloc _⟩
  have KW := keepf (VSt2.of_ (w := w) (g := g) (g2 := g2) (cs := cs) (cs2 := cs2) (fun W _ => H.works W))
  rw [show decide (0 ≤ fewT (.mk k n s l) 300) = true from by simpa using hsm1] at K1
  have KS1 := keepf (VSt2.of_ (w := w) (g := g) (g2 := g2) (cs := cs) (cs2 := cs2) K1)
  rw [show decide (0 ≤ fewT t' 300) = false from by simpa using hsm2] at K2
  have KS2 := keepf (VSt2.of_ (w := w) (g := g) (g2 := g2) (cs := cs) (cs2 := cs2) K2)
  unfold VC.val at KS1 KS2 ⊢
  simp only [] at KS1 KS2 ⊢
  clear hv hv' H K1 K2 hsm1 hsm2
  go_enter Try.func7, Try.ntmps7
  go_upto_region 1 with fail
  rw [← hW, ← hg2, ← hg]
  clear hW hg hg2 hs1
  subst hcs hcs2
  obtain ⟨p0, p1, p2, p3, q0, q1, q2, q3⟩ := hst.cells
  go_wp2_with first
    | (go_at_call 9; (with_reducible refine (KS1.out _ (by assumption)).mono ?_); rintro e wq ⟨rfl, hq⟩; obtain ⟨_, _, _, _, _, _, _, _⟩ := hq.cells)
    | (go_at_call 9; (with_reducible refine (KS2.out _ (by assumption)).mono ?_); rintro e wq ⟨rfl, hq⟩; obtain ⟨_, _, _, _, _, _, _, _⟩ := hq.cells)
    | (go_at_call 14; (with_reducible refine (KW.out _ (by assumption)).mono ?_); rintro e wq ⟨rfl, hq⟩; obtain ⟨_, _, _, _, _, _, _, _⟩ := hq.cells)
  go_ret
  exact ⟨rfl, (by assumption : VSt2 w g g2 #[.int .i64 k, .int .i64 n, .string s, .slice A len cap] #[.int .i64 k', .int .i64 n', .string s', .slice A' len' cap'] _).chg⟩
set_option maxHeartbeats 8000000 in
set_option maxRecDepth 100000 in
theorem puts_no3 (H : ValOk) (t t' : VT) (c c' : VC) (key : ByteArray) (w : World) (hv : ValIs w t c) (hv' : ValIs w t' c') (hkm : key.size ≤ maxLen) (hsm1 : 0 ≤ fewT t 300) (hsm2 : 0 ≤ fewT t' 300) (h3 : ¬ key.size ≤ 300) :
    Calls Try.prog 7 #[c.val, c'.val, .string key] w fun e w' => e = .returned (.bool true) ∧ Chg NoS w w' := by
  obtain ⟨tk, tn, ts, l⟩ := t
  obtain ⟨h1, h2, h3, _, hll, _⟩ := hv.inv
  subst h1 h2 h3
  have K1 := fun (W : World) (h : Chg NoS w W) => small_any _ c W (hv.chg h)
  have K2 := fun (W : World) (h : Chg NoS w W) => small_any t' c' W (hv'.chg h)
  obtain ⟨k, n, s, A, len, cap⟩ := c
  obtain ⟨k', n', s', A', len', cap'⟩ := c'
  simp only [] at hv hll hsm1 hsm2
  obtain ⟨cs, hcs⟩ : ∃ cs : Array Value, cs = #[.int .i64 k, .int .i64 n, .string s, .slice A len cap] := ⟨_, rfl⟩
  obtain ⟨cs2, hcs2⟩ : ∃ cs : Array Value, cs = #[.int .i64 k', .int .i64 n', .string s', .slice A' len' cap'] := ⟨_, rfl⟩
  obtain ⟨W, hW⟩ : ∃ W, W = (w.alloc (.cells #[.int .i64 k, .int .i64 n, .string s, .slice A len cap] 24)).alloc (.cells #[.int .i64 k', .int .i64 n', .string s', .slice A' len' cap'] 24) := ⟨_, rfl⟩
  obtain ⟨g, hg⟩ : ∃ g, g = w.heap.size := ⟨_, rfl⟩
  obtain ⟨g2, hg2⟩ : ∃ g, g = w.heap.size + 1 := ⟨_, rfl⟩
  have hs1 : (w.alloc (.cells #[.int .i64 k, .int .i64 n, .string s, .slice A len cap] 24)).heap.size = w.heap.size + 1 := by simp
  have hst : VSt2 w g g2 cs cs2 W := ⟨by rw [hcs, hW, hg]; exact (Blk.new w _ _).alloc _, by rw [hcs2, hW, hg2, ← hs1]; exact Blk.new _ _ _, by rw [hW]; exact ((Chg.refl NoS w).alloc _).alloc _⟩
  have KW := keepf (VSt2.of_ (w := w) (g := g) (g2 := g2) (cs := cs) (cs2 := cs2) (fun W _ => H.works W))
  rw [show decide (0 ≤ fewT (.mk k n s l) 300) = true from by simpa using hsm1] at K1
  have KS1 := keepf (VSt2.of_ (w := w) (g := g) (g2 := g2) (cs := cs) (cs2 := cs2) K1)
  rw [show decide (0 ≤ fewT t' 300) = true from by simpa using hsm2] at K2
  have KS2 := keepf (VSt2.of_ (w := w) (g := g) (g2 := g2) (cs := cs) (cs2 := cs2) K2)
  have d1 : decide ((300 : Int) < key.size) = true := by simp; omega
  unfold VC.val at KS1 KS2 ⊢
  simp only [] at KS1 KS2 ⊢
  clear hv hv' H K1 K2 hsm1 hsm2
  go_enter Try.func7, Try.ntmps7
  go_upto_region 1 with fail
  rw [← hW, ← hg2, ← hg]
  clear hW hg hg2 hs1
  subst hcs hcs2
  obtain ⟨p0, p1, p2, p3, q0, q1, q2, q3⟩ := hst.cells
  go_wp2_with first
    | (go_at_call 9; (with_reducible refine (KS1.out _ (by assumption)).mono ?_); rintro e wq ⟨rfl, hq⟩; obtain ⟨_, _, _, _, _, _, _, _⟩ := hq.cells)
    | (go_at_call 9; (with_reducible refine (KS2.out _ (by assumption)).mono ?_); rintro e wq ⟨rfl, hq⟩; obtain ⟨_, _, _, _, _, _, _, _⟩ := hq.cells)
    | (go_at_call 14; (with_reducible refine (KW.out _ (by assumption)).mono ?_); rintro e wq ⟨rfl, hq⟩; obtain ⟨_, _, _, _, _, _, _, _⟩ := hq.cells)
  go_ret
  exact ⟨rfl, (by assumption : VSt2 w g g2 #[.int .i64 k, .int .i64 n, .string s, .slice A len cap] #[.int .i64 k', .int .i64 n', .string s', .slice A' len' cap'] _).chg⟩
set_option maxHeartbeats 8000000 in
set_option maxRecDepth 100000 in
theorem puts_no4 (H : ValOk) (t t' : VT) (c c' : VC) (key : ByteArray) (w : World) (hv : ValIs w t c) (hv' : ValIs w t' c') (hkm : key.size ≤ maxLen) (hsm1 : 0 ≤ fewT t 300) (hsm2 : 0 ≤ fewT t' 300) (h3 : key.size ≤ 300) (h4 : t.kind ≠ 7) :
    Calls Try.prog 7 #[c.val, c'.val, .string key] w fun e w' => e = .returned (.bool true) ∧ Chg NoS w w' := by
  obtain ⟨tk, tn, ts, l⟩ := t
  obtain ⟨h1, h2, h3, _, hll, _⟩ := hv.inv
  subst h1 h2 h3
  change c.k ≠ 7 at h4
  have K1 := fun (W : World) (h : Chg NoS w W) => small_any _ c W (hv.chg h)
  have K2 := fun (W : World) (h : Chg NoS w W) => small_any t' c' W (hv'.chg h)
  obtain ⟨k, n, s, A, len, cap⟩ := c
  obtain ⟨k', n', s', A', len', cap'⟩ := c'
  simp only [] at hv hll hsm1 hsm2 h4
  obtain ⟨cs, hcs⟩ : ∃ cs : Array Value, cs = #[.int .i64 k, .int .i64 n, .string s, .slice A len cap] := ⟨_, rfl⟩
  obtain ⟨cs2, hcs2⟩ : ∃ cs : Array Value, cs = #[.int .i64 k', .int .i64 n', .string s', .slice A' len' cap'] := ⟨_, rfl⟩
  obtain ⟨W, hW⟩ : ∃ W, W = (w.alloc (.cells #[.int .i64 k, .int .i64 n, .string s, .slice A len cap] 24)).alloc (.cells #[.int .i64 k', .int .i64 n', .string s', .slice A' len' cap'] 24) := ⟨_, rfl⟩
  obtain ⟨g, hg⟩ : ∃ g, g = w.heap.size := ⟨_, rfl⟩
  obtain ⟨g2, hg2⟩ : ∃ g, g = w.heap.size + 1 := ⟨_, rfl⟩
  have hs1 : (w.alloc (.cells #[.int .i64 k, .int .i64 n, .string s, .slice A len cap] 24)).heap.size = w.heap.size + 1 := by simp
  have hst : VSt2 w g g2 cs cs2 W := ⟨by rw [hcs, hW, hg]; exact (Blk.new w _ _).alloc _, by rw [hcs2, hW, hg2, ← hs1]; exact Blk.new _ _ _, by rw [hW]; exact ((Chg.refl NoS w).alloc _).alloc _⟩
  have KW := keepf (VSt2.of_ (w := w) (g := g) (g2 := g2) (cs := cs) (cs2 := cs2) (fun W _ => H.works W))
  rw [show decide (0 ≤ fewT (.mk k n s l) 300) = true from by simpa using hsm1] at K1
  have KS1 := keepf (VSt2.of_ (w := w) (g := g) (g2 := g2) (cs := cs) (cs2 := cs2) K1)
  rw [show decide (0 ≤ fewT t' 300) = true from by simpa using hsm2] at K2
  have KS2 := keepf (VSt2.of_ (w := w) (g := g) (g2 := g2) (cs := cs) (cs2 := cs2) K2)
  have d1 : decide ((300 : Int) < key.size) = false := by simp; omega
  have e1 : (k == 7) = false := by simpa using h4
  have e2 : decide (k = 7) = false := by simpa using h4
  unfold VC.val at KS1 KS2 ⊢
  simp only [] at KS1 KS2 ⊢
  clear hv hv' H K1 K2 hsm1 hsm2
  go_enter Try.func7, Try.ntmps7
  go_upto_region 1 with fail
  rw [← hW, ← hg2, ← hg]
  clear hW hg hg2 hs1
  subst hcs hcs2
  obtain ⟨p0, p1, p2, p3, q0, q1, q2, q3⟩ := hst.cells
  go_wp2_with first
    | (go_at_call 9; (with_reducible refine (KS1.out _ (by assumption)).mono ?_); rintro e wq ⟨rfl, hq⟩; obtain ⟨_, _, _, _, _, _, _, _⟩ := hq.cells)
    | (go_at_call 9; (with_reducible refine (KS2.out _ (by assumption)).mono ?_); rintro e wq ⟨rfl, hq⟩; obtain ⟨_, _, _, _, _, _, _, _⟩ := hq.cells)
    | (go_at_call 14; (with_reducible refine (KW.out _ (by assumption)).mono ?_); rintro e wq ⟨rfl, hq⟩; obtain ⟨_, _, _, _, _, _, _, _⟩ := hq.cells)
  go_ret
  exact ⟨rfl, (by assumption : VSt2 w g g2 #[.int .i64 k, .int .i64 n, .string s, .slice A len cap] #[.int .i64 k', .int .i64 n', .string s', .slice A' len' cap'] _).chg⟩
set_option maxHeartbeats 8000000 in
set_option maxRecDepth 100000 in
theorem puts_no5 (H : ValOk) (t t' : VT) (c c' : VC) (key : ByteArray) (w : World) (hv : ValIs w t c) (hv' : ValIs w t' c') (hkm : key.size ≤ maxLen) (hsm1 : 0 ≤ fewT t 300) (hsm2 : 0 ≤ fewT t' 300) (h3 : key.size ≤ 300) (h4 : t.kind = 7) (h5 : ¬ t.row.length % 2 = 0) :
    Calls Try.prog 7 #[c.val, c'.val, .string key] w fun e w' => e = .returned (.bool true) ∧ Chg NoS w w' := by
  obtain ⟨tk, tn, ts, l⟩ := t
  obtain ⟨h1, h2, h3, _, hll, _⟩ := hv.inv
  subst h1 h2 h3
  change c.k = 7 at h4
  change ¬ l.length % 2 = 0 at h5
  have K1 := fun (W : World) (h : Chg NoS w W) => small_any _ c W (hv.chg h)
  have K2 := fun (W : World) (h : Chg NoS w W) => small_any t' c' W (hv'.chg h)
  obtain ⟨k, n, s, A, len, cap⟩ := c
  obtain ⟨k', n', s', A', len', cap'⟩ := c'
  simp only [] at hv hll hsm1 hsm2 h4 h5
  subst h4
  obtain ⟨cs, hcs⟩ : ∃ cs : Array Value, cs = #[.int .i64 7, .int .i64 n, .string s, .slice A len cap] := ⟨_, rfl⟩
  obtain ⟨cs2, hcs2⟩ : ∃ cs : Array Value, cs = #[.int .i64 k', .int .i64 n', .string s', .slice A' len' cap'] := ⟨_, rfl⟩
  obtain ⟨W, hW⟩ : ∃ W, W = (w.alloc (.cells #[.int .i64 7, .int .i64 n, .string s, .slice A len cap] 24)).alloc (.cells #[.int .i64 k', .int .i64 n', .string s', .slice A' len' cap'] 24) := ⟨_, rfl⟩
  obtain ⟨g, hg⟩ : ∃ g, g = w.heap.size := ⟨_, rfl⟩
  obtain ⟨g2, hg2⟩ : ∃ g, g = w.heap.size + 1 := ⟨_, rfl⟩
  have hs1 : (w.alloc (.cells #[.int .i64 7, .int .i64 n, .string s, .slice A len cap] 24)).heap.size = w.heap.size + 1 := by simp
  have hst : VSt2 w g g2 cs cs2 W := ⟨by rw [hcs, hW, hg]; exact (Blk.new w _ _).alloc _, by rw [hcs2, hW, hg2, ← hs1]; exact Blk.new _ _ _, by rw [hW]; exact ((Chg.refl NoS w).alloc _).alloc _⟩
  have KW := keepf (VSt2.of_ (w := w) (g := g) (g2 := g2) (cs := cs) (cs2 := cs2) (fun W _ => H.works W))
  rw [show decide (0 ≤ fewT (.mk 7 n s l) 300) = true from by simpa using hsm1] at K1
  have KS1 := keepf (VSt2.of_ (w := w) (g := g) (g2 := g2) (cs := cs) (cs2 := cs2) K1)
  rw [show decide (0 ≤ fewT t' 300) = true from by simpa using hsm2] at K2
  have KS2 := keepf (VSt2.of_ (w := w) (g := g) (g2 := g2) (cs := cs) (cs2 := cs2) K2)
  have d1 : decide ((300 : Int) < key.size) = false := by simp; omega
  obtain ⟨r, hr⟩ : ∃ r, len % 2 = r := ⟨_, rfl⟩
  obtain ⟨e1, e2⟩ := rem2 len r hr
  have e3 : r = 1 := by rw [hll] at h5; omega
  subst e3
  unfold VC.val at KS1 KS2 ⊢
  simp only [] at KS1 KS2 ⊢
  clear hv hv' H K1 K2 hsm1 hsm2
  go_enter Try.func7, Try.ntmps7
  go_upto_region 1 with fail
  rw [← hW, ← hg2, ← hg]
  clear hW hg hg2 hs1
  subst hcs hcs2
  obtain ⟨p0, p1, p2, p3, q0, q1, q2, q3⟩ := hst.cells
  go_wp2_with first
    | (go_at_call 9; (with_reducible refine (KS1.out _ (by assumption)).mono ?_); rintro e wq ⟨rfl, hq⟩; obtain ⟨_, _, _, _, _, _, _, _⟩ := hq.cells)
    | (go_at_call 9; (with_reducible refine (KS2.out _ (by assumption)).mono ?_); rintro e wq ⟨rfl, hq⟩; obtain ⟨_, _, _, _, _, _, _, _⟩ := hq.cells)
    | (go_at_call 14; (with_reducible refine (KW.out _ (by assumption)).mono ?_); rintro e wq ⟨rfl, hq⟩; obtain ⟨_, _, _, _, _, _, _, _⟩ := hq.cells)
  go_ret
  exact ⟨rfl, (by assumption : VSt2 w g g2 #[.int .i64 7, .int .i64 n, .string s, .slice A len cap] #[.int .i64 k', .int .i64 n', .string s', .slice A' len' cap'] _).chg⟩
set_option maxHeartbeats 8000000 in
set_option maxRecDepth 100000 in
theorem puts_bad1 (H : ValOk) (t t' : VT) (c c' : VC) (key : ByteArray) (w : World) (hv : ValIs w t c) (hv' : ValIs w t' c') (hkm : key.size ≤ maxLen) (hsm1 : 0 ≤ fewT t 300) (hsm2 : 0 ≤ fewT t' 300) (h3 : key.size ≤ 300) (h4 : t.kind = 7) (h5 : t.row.length % 2 = 0) (h6 : ¬ checkT t = 0) :
    Calls Try.prog 7 #[c.val, c'.val, .string key] w fun e w' => e = .returned (.bool true) ∧ Chg NoS w w' := by
  obtain ⟨tk, tn, ts, l⟩ := t
  obtain ⟨h1, h2, h3, _, hll, _⟩ := hv.inv
  subst h1 h2 h3
  change c.k = 7 at h4
  change l.length % 2 = 0 at h5
  have K1 := fun (W : World) (h : Chg NoS w W) => small_any _ c W (hv.chg h)
  have K2 := fun (W : World) (h : Chg NoS w W) => small_any t' c' W (hv'.chg h)
  obtain ⟨k, n, s, A, len, cap⟩ := c
  obtain ⟨k', n', s', A', len', cap'⟩ := c'
  simp only [] at hv hll hsm1 hsm2 h4 h5 h6
  subst h4
  obtain ⟨cs, hcs⟩ : ∃ cs : Array Value, cs = #[.int .i64 7, .int .i64 n, .string s, .slice A len cap] := ⟨_, rfl⟩
  obtain ⟨cs2, hcs2⟩ : ∃ cs : Array Value, cs = #[.int .i64 k', .int .i64 n', .string s', .slice A' len' cap'] := ⟨_, rfl⟩
  obtain ⟨W, hW⟩ : ∃ W, W = (w.alloc (.cells #[.int .i64 7, .int .i64 n, .string s, .slice A len cap] 24)).alloc (.cells #[.int .i64 k', .int .i64 n', .string s', .slice A' len' cap'] 24) := ⟨_, rfl⟩
  obtain ⟨g, hg⟩ : ∃ g, g = w.heap.size := ⟨_, rfl⟩
  obtain ⟨g2, hg2⟩ : ∃ g, g = w.heap.size + 1 := ⟨_, rfl⟩
  have hs1 : (w.alloc (.cells #[.int .i64 7, .int .i64 n, .string s, .slice A len cap] 24)).heap.size = w.heap.size + 1 := by simp
  have hst : VSt2 w g g2 cs cs2 W := ⟨by rw [hcs, hW, hg]; exact (Blk.new w _ _).alloc _, by rw [hcs2, hW, hg2, ← hs1]; exact Blk.new _ _ _, by rw [hW]; exact ((Chg.refl NoS w).alloc _).alloc _⟩
  have KW := keepf (VSt2.of_ (w := w) (g := g) (g2 := g2) (cs := cs) (cs2 := cs2) (fun W _ => H.works W))
  have hsz1 := small_siz hsm1
  have hsz2 := small_siz hsm2
  rw [sizT_mk] at hsz1
  rw [show decide (0 ≤ fewT (.mk 7 n s l) 300) = true from by simpa using hsm1] at K1
  have KS1 := keepf (VSt2.of_ (w := w) (g := g) (g2 := g2) (cs := cs) (cs2 := cs2) K1)
  rw [show decide (0 ≤ fewT t' 300) = true from by simpa using hsm2] at K2
  have KS2 := keepf (VSt2.of_ (w := w) (g := g) (g2 := g2) (cs := cs) (cs2 := cs2) K2)
  have d1 : decide ((300 : Int) < key.size) = false := by simp; omega
  obtain ⟨e1, e2⟩ := rem2 len 0 (by rw [← hll]; exact h5)
  have hput := put_7 (n := n) (s := s) (key := key) (x := t') (l := l)
  have hgt := put_get (key := key) (x := t') h5
  have hsp := sizL_put key t' l
  obtain ⟨lp, hlp⟩ : ∃ x, putL key t' l = x := ⟨_, rfl⟩
  rw [hlp] at hput hgt hsp
  have P1 := fun (W : World) (h : Chg NoS w W) => H.put ⟨7, n, s, A, len, cap⟩ ⟨k', n', s', A', len', cap'⟩ l t' key W (hv.chg h) (hv'.chg h) (by omega) (by omega) hkm
  simp only [] at P1
  rw [hput] at P1
  have KP := keepf (fun (W : World) (h : VSt2 w g g2 cs cs2 W) => dict_to (fun V hc => h.call hc) (P1 W h.chg))
  have GP := fun (W : World) (A3 : Option Addr) (len3 cap3 : Nat) (h : ValIs W (.mk 7 n s lp) ⟨7, n, s, A3, len3, cap3⟩) => H.get ⟨7, n, s, A3, len3, cap3⟩ lp key W h (by omega) hkm
  simp only [] at GP
  rw [hgt] at GP
  have SP := fun (W : World) (k4 n4 : Int) (s4 : ByteArray) (A4 : Option Addr) (len4 cap4 : Nat) (h : ValIs W t' ⟨k4, n4, s4, A4, len4, cap4⟩) (h' : Chg NoS w W) => rsame11_any t' t' ⟨k4, n4, s4, A4, len4, cap4⟩ ⟨k', n', s', A', len', cap'⟩ W h (hv'.chg h')
  rw [cmpT_self] at SP
  have KC1 := keepf (fun g3 g4 A3 len3 cap3 k4 n4 s4 A4 len4 cap4 => (VSt4.of_ (w := w) (g := g) (g2 := g2) (g3 := g3) (g4 := g4) (cs := #[.int .i64 7, .int .i64 n, .string s, .slice A len cap]) (cs2 := #[.int .i64 k', .int .i64 n', .string s', .slice A' len' cap']) (cs3 := #[.int .i64 7, .int .i64 n, .string s, .slice A3 len3 cap3]) (cs4 := #[.int .i64 k4, .int .i64 n4, .string s4, .slice A4 len4 cap4]) (fun (W : World) (h : Chg NoS w W) => rcheck11_any _ ⟨7, n, s, A, len, cap⟩ W (hv.chg h) (by rw [sizT_mk]; omega))))
  have KW4 := keepf (fun g3 g4 A3 len3 cap3 k4 n4 s4 A4 len4 cap4 => (VSt4.of_ (w := w) (g := g) (g2 := g2) (g3 := g3) (g4 := g4) (cs := #[.int .i64 7, .int .i64 n, .string s, .slice A len cap]) (cs2 := #[.int .i64 k', .int .i64 n', .string s', .slice A' len' cap']) (cs3 := #[.int .i64 7, .int .i64 n, .string s, .slice A3 len3 cap3]) (cs4 := #[.int .i64 k4, .int .i64 n4, .string s4, .slice A4 len4 cap4]) (fun W _ => H.works W)))
  obtain ⟨x1, hx1⟩ : ∃ x, checkT (.mk 7 n s l) = x := ⟨_, rfl⟩
  rw [hx1] at KC1 h6
  have f1 : (x1 == 0) = false := by simpa using h6
  have f2 : decide (x1 = 0) = false := by simpa using h6
  unfold VC.val at KS1 KS2 KP SP KC1 ⊢
  simp only [] at KS1 KS2 KP SP KC1 ⊢
  go_enter Try.func7, Try.ntmps7
  go_upto_region 1 with fail
  rw [← hW, ← hg2, ← hg]
  clear hW hg hg2 hs1
  subst hcs hcs2
  obtain ⟨p0, p1, p2, p3, q0, q1, q2, q3⟩ := hst.cells
  go_upto_region 3 with first
    | (go_at_call 9; (with_reducible refine (KS1.out _ (by assumption)).mono ?_); rintro e wq ⟨rfl, hq⟩; obtain ⟨_, _, _, _, _, _, _, _⟩ := hq.cells)
    | (go_at_call 9; (with_reducible refine (KS2.out _ (by assumption)).mono ?_); rintro e wq ⟨rfl, hq⟩; obtain ⟨_, _, _, _, _, _, _, _⟩ := hq.cells)
  go_upto_region 4 with (go_at_call 21; (with_reducible refine (KP.out _ (by assumption)).mono ?_); rintro e wa ⟨A3, len3, cap3, rfl, hv3, hsa, hca⟩)
  have ha2 := hsa.alloc (.cells #[.int .i64 7, .int .i64 n, .string s, .slice A3 len3 cap3] 24)
  have hba := Blk.new wa 24 #[.int .i64 7, .int .i64 n, .string s, .slice A3 len3 cap3]
  have hva := hv3.chg ((Chg.refl NoS wa).alloc (.cells #[.int .i64 7, .int .i64 n, .string s, .slice A3 len3 cap3] 24))
  obtain ⟨Wa, hWa⟩ : ∃ W, W = wa.alloc (.cells #[.int .i64 7, .int .i64 n, .string s, .slice A3 len3 cap3] 24) := ⟨_, rfl⟩
  obtain ⟨g3, hg3⟩ : ∃ g, g = wa.heap.size := ⟨_, rfl⟩
  rw [← hWa] at ha2 hba hva
  rw [← hg3] at hba
  rw [← hWa, ← hg3]
  clear hWa hg3 hv3 hsa
  have p3 := hba.cell 0
  have p4 := hba.cell 1
  have p5 := hba.cell 2
  have p6 := hba.cell 3
  simp at p3 p4 p5 p6
  obtain ⟨_, _, _, _, _, _, _, _⟩ := ha2.cells
  have KG := keepf (fun W (h : Chg NoS Wa W) => GP W A3 len3 cap3 (hva.chg h))
  unfold VC.val at KG
  simp only [] at KG
  clear GP
  go_upto_region 5 with (go_at_call 19; (with_reducible refine (KG.out _ (Chg.refl NoS _)).mono ?_); rintro e wb ⟨⟨k4, n4, s4, A4, len4, cap4⟩, rfl, hv4, hcb⟩; unfold VC.val)
  obtain ⟨Wb, hWb⟩ : ∃ W, W = wb.alloc (.cells #[.int .i64 k4, .int .i64 n4, .string s4, .slice A4 len4 cap4] 24) := ⟨_, rfl⟩
  obtain ⟨g4, hg4⟩ : ∃ g, g = wb.heap.size := ⟨_, rfl⟩
  have st4 : VSt4 w g g2 g3 g4 #[.int .i64 7, .int .i64 n, .string s, .slice A len cap] #[.int .i64 k', .int .i64 n', .string s', .slice A' len' cap'] #[.int .i64 7, .int .i64 n, .string s, .slice A3 len3 cap3] #[.int .i64 k4, .int .i64 n4, .string s4, .slice A4 len4 cap4] Wb := ⟨by rw [hWb]; exact (ha2.call hcb).alloc _, by rw [hWb]; exact (hba.chg hcb (fun e => e)).alloc _, by rw [hWb, hg4]; exact Blk.new wb _ _⟩
  have hvp : ValIs Wb (.mk 7 n s lp) ⟨7, n, s, A3, len3, cap3⟩ := by rw [hWb]; exact (hva.chg hcb).chg ((Chg.refl NoS wb).alloc _)
  have hB2 : ValIs Wb t' ⟨k4, n4, s4, A4, len4, cap4⟩ := by rw [hWb]; exact hv4.chg ((Chg.refl NoS wb).alloc _)
  rw [← hWb, ← hg4]
  clear hWb hg4 hcb hba hva hv4 KG ha2
  obtain ⟨_, _, _, _, _, _, _, _, _, _, _, _, _, _, _, _⟩ := st4.cells
  have KS := keepf (SP Wb k4 n4 s4 A4 len4 cap4 hB2 st4.st.chg)
  go_upto_region 7 with (go_at_call 18; refine (KS.out).mono ?_; rintro e wc ⟨rfl, hcc⟩)
  have st5 := st4.call hcc
  have hvp := hvp.chg hcc
  clear st4 KS hB2
  obtain ⟨_, _, _, _, _, _, _, _, _, _, _, _, _, _, _, _⟩ := st5.cells
  have XC1 := (KC1.out g3 g4 A3 len3 cap3 k4 n4 s4 A4 len4 cap4)
  have XW := (KW4.out g3 g4 A3 len3 cap3 k4 n4 s4 A4 len4 cap4)
  clear KC1 KW4
  go_wp2_with first
    | (go_at_call 11; (with_reducible refine (XC1 _ (by assumption)).mono ?_); rintro e wq ⟨rfl, hq⟩; obtain ⟨_, _, _, _, _, _, _, _, _, _, _, _, _, _, _, _⟩ := hq.cells)
    | (go_at_call 14; (with_reducible refine (XW _ (by assumption)).mono ?_); rintro e wq ⟨rfl, hq⟩; obtain ⟨_, _, _, _, _, _, _, _, _, _, _, _, _, _, _, _⟩ := hq.cells)
  go_ret
  exact ⟨rfl, (by assumption : VSt4 w g g2 g3 g4 #[.int .i64 7, .int .i64 n, .string s, .slice A len cap] #[.int .i64 k', .int .i64 n', .string s', .slice A' len' cap'] #[.int .i64 7, .int .i64 n, .string s, .slice A3 len3 cap3] #[.int .i64 k4, .int .i64 n4, .string s4, .slice A4 len4 cap4] _).st.chg⟩
set_option maxHeartbeats 8000000 in
set_option maxRecDepth 100000 in
theorem puts_bad2 (H : ValOk) (t t' : VT) (c c' : VC) (key : ByteArray) (w : World) (hv : ValIs w t c) (hv' : ValIs w t' c') (hkm : key.size ≤ maxLen) (hsm1 : 0 ≤ fewT t 300) (hsm2 : 0 ≤ fewT t' 300) (h3 : key.size ≤ 300) (h4 : t.kind = 7) (h5 : t.row.length % 2 = 0) (h6 : checkT t = 0) (h7 : ¬ checkT t' = 0) :
    Calls Try.prog 7 #[c.val, c'.val, .string key] w fun e w' => e = .returned (.bool true) ∧ Chg NoS w w' := by
  obtain ⟨tk, tn, ts, l⟩ := t
  obtain ⟨h1, h2, h3, _, hll, _⟩ := hv.inv
  subst h1 h2 h3
  change c.k = 7 at h4
  change l.length % 2 = 0 at h5
  have K1 := fun (W : World) (h : Chg NoS w W) => small_any _ c W (hv.chg h)
  have K2 := fun (W : World) (h : Chg NoS w W) => small_any t' c' W (hv'.chg h)
  obtain ⟨k, n, s, A, len, cap⟩ := c
  obtain ⟨k', n', s', A', len', cap'⟩ := c'
  simp only [] at hv hll hsm1 hsm2 h4 h5 h6
  subst h4
  obtain ⟨cs, hcs⟩ : ∃ cs : Array Value, cs = #[.int .i64 7, .int .i64 n, .string s, .slice A len cap] := ⟨_, rfl⟩
  obtain ⟨cs2, hcs2⟩ : ∃ cs : Array Value, cs = #[.int .i64 k', .int .i64 n', .string s', .slice A' len' cap'] := ⟨_, rfl⟩
  obtain ⟨W, hW⟩ : ∃ W, W = (w.alloc (.cells #[.int .i64 7, .int .i64 n, .string s, .slice A len cap] 24)).alloc (.cells #[.int .i64 k', .int .i64 n', .string s', .slice A' len' cap'] 24) := ⟨_, rfl⟩
  obtain ⟨g, hg⟩ : ∃ g, g = w.heap.size := ⟨_, rfl⟩
  obtain ⟨g2, hg2⟩ : ∃ g, g = w.heap.size + 1 := ⟨_, rfl⟩
  have hs1 : (w.alloc (.cells #[.int .i64 7, .int .i64 n, .string s, .slice A len cap] 24)).heap.size = w.heap.size + 1 := by simp
  have hst : VSt2 w g g2 cs cs2 W := ⟨by rw [hcs, hW, hg]; exact (Blk.new w _ _).alloc _, by rw [hcs2, hW, hg2, ← hs1]; exact Blk.new _ _ _, by rw [hW]; exact ((Chg.refl NoS w).alloc _).alloc _⟩
  have KW := keepf (VSt2.of_ (w := w) (g := g) (g2 := g2) (cs := cs) (cs2 := cs2) (fun W _ => H.works W))
  have hsz1 := small_siz hsm1
  have hsz2 := small_siz hsm2
  rw [sizT_mk] at hsz1
  rw [show decide (0 ≤ fewT (.mk 7 n s l) 300) = true from by simpa using hsm1] at K1
  have KS1 := keepf (VSt2.of_ (w := w) (g := g) (g2 := g2) (cs := cs) (cs2 := cs2) K1)
  rw [show decide (0 ≤ fewT t' 300) = true from by simpa using hsm2] at K2
  have KS2 := keepf (VSt2.of_ (w := w) (g := g) (g2 := g2) (cs := cs) (cs2 := cs2) K2)
  have d1 : decide ((300 : Int) < key.size) = false := by simp; omega
  obtain ⟨e1, e2⟩ := rem2 len 0 (by rw [← hll]; exact h5)
  have hput := put_7 (n := n) (s := s) (key := key) (x := t') (l := l)
  have hgt := put_get (key := key) (x := t') h5
  have hsp := sizL_put key t' l
  obtain ⟨lp, hlp⟩ : ∃ x, putL key t' l = x := ⟨_, rfl⟩
  rw [hlp] at hput hgt hsp
  have P1 := fun (W : World) (h : Chg NoS w W) => H.put ⟨7, n, s, A, len, cap⟩ ⟨k', n', s', A', len', cap'⟩ l t' key W (hv.chg h) (hv'.chg h) (by omega) (by omega) hkm
  simp only [] at P1
  rw [hput] at P1
  have KP := keepf (fun (W : World) (h : VSt2 w g g2 cs cs2 W) => dict_to (fun V hc => h.call hc) (P1 W h.chg))
  have GP := fun (W : World) (A3 : Option Addr) (len3 cap3 : Nat) (h : ValIs W (.mk 7 n s lp) ⟨7, n, s, A3, len3, cap3⟩) => H.get ⟨7, n, s, A3, len3, cap3⟩ lp key W h (by omega) hkm
  simp only [] at GP
  rw [hgt] at GP
  have SP := fun (W : World) (k4 n4 : Int) (s4 : ByteArray) (A4 : Option Addr) (len4 cap4 : Nat) (h : ValIs W t' ⟨k4, n4, s4, A4, len4, cap4⟩) (h' : Chg NoS w W) => rsame11_any t' t' ⟨k4, n4, s4, A4, len4, cap4⟩ ⟨k', n', s', A', len', cap'⟩ W h (hv'.chg h')
  rw [cmpT_self] at SP
  have KC1 := keepf (fun g3 g4 A3 len3 cap3 k4 n4 s4 A4 len4 cap4 => (VSt4.of_ (w := w) (g := g) (g2 := g2) (g3 := g3) (g4 := g4) (cs := #[.int .i64 7, .int .i64 n, .string s, .slice A len cap]) (cs2 := #[.int .i64 k', .int .i64 n', .string s', .slice A' len' cap']) (cs3 := #[.int .i64 7, .int .i64 n, .string s, .slice A3 len3 cap3]) (cs4 := #[.int .i64 k4, .int .i64 n4, .string s4, .slice A4 len4 cap4]) (fun (W : World) (h : Chg NoS w W) => rcheck11_any _ ⟨7, n, s, A, len, cap⟩ W (hv.chg h) (by rw [sizT_mk]; omega))))
  have KC2 := keepf (fun g3 g4 A3 len3 cap3 k4 n4 s4 A4 len4 cap4 => (VSt4.of_ (w := w) (g := g) (g2 := g2) (g3 := g3) (g4 := g4) (cs := #[.int .i64 7, .int .i64 n, .string s, .slice A len cap]) (cs2 := #[.int .i64 k', .int .i64 n', .string s', .slice A' len' cap']) (cs3 := #[.int .i64 7, .int .i64 n, .string s, .slice A3 len3 cap3]) (cs4 := #[.int .i64 k4, .int .i64 n4, .string s4, .slice A4 len4 cap4]) (fun (W : World) (h : Chg NoS w W) => rcheck11_any t' _ W (hv'.chg h) (by omega))))
  have KW4 := keepf (fun g3 g4 A3 len3 cap3 k4 n4 s4 A4 len4 cap4 => (VSt4.of_ (w := w) (g := g) (g2 := g2) (g3 := g3) (g4 := g4) (cs := #[.int .i64 7, .int .i64 n, .string s, .slice A len cap]) (cs2 := #[.int .i64 k', .int .i64 n', .string s', .slice A' len' cap']) (cs3 := #[.int .i64 7, .int .i64 n, .string s, .slice A3 len3 cap3]) (cs4 := #[.int .i64 k4, .int .i64 n4, .string s4, .slice A4 len4 cap4]) (fun W _ => H.works W)))
  obtain ⟨x1, hx1⟩ : ∃ x, checkT (.mk 7 n s l) = x := ⟨_, rfl⟩
  rw [hx1] at KC1 h6
  obtain ⟨x2, hx2⟩ : ∃ x, checkT t' = x := ⟨_, rfl⟩
  rw [hx2] at KC2 h7
  subst h6
  have f1 : (x2 == 0) = false := by simpa using h7
  have f2 : decide (x2 = 0) = false := by simpa using h7
  unfold VC.val at KS1 KS2 KP SP KC1 KC2 ⊢
  simp only [] at KS1 KS2 KP SP KC1 KC2 ⊢
  go_enter Try.func7, Try.ntmps7
  go_upto_region 1 with fail
  rw [← hW, ← hg2, ← hg]
  clear hW hg hg2 hs1
  subst hcs hcs2
  obtain ⟨p0, p1, p2, p3, q0, q1, q2, q3⟩ := hst.cells
  go_upto_region 3 with first
    | (go_at_call 9; (with_reducible refine (KS1.out _ (by assumption)).mono ?_); rintro e wq ⟨rfl, hq⟩; obtain ⟨_, _, _, _, _, _, _, _⟩ := hq.cells)
    | (go_at_call 9; (with_reducible refine (KS2.out _ (by assumption)).mono ?_); rintro e wq ⟨rfl, hq⟩; obtain ⟨_, _, _, _, _, _, _, _⟩ := hq.cells)
  go_upto_region 4 with (go_at_call 21; (with_reducible refine (KP.out _ (by assumption)).mono ?_); rintro e wa ⟨A3, len3, cap3, rfl, hv3, hsa, hca⟩)
  have ha2 := hsa.alloc (.cells #[.int .i64 7, .int .i64 n, .string s, .slice A3 len3 cap3] 24)
  have hba := Blk.new wa 24 #[.int .i64 7, .int .i64 n, .string s, .slice A3 len3 cap3]
  have hva := hv3.chg ((Chg.refl NoS wa).alloc (.cells #[.int .i64 7, .int .i64 n, .string s, .slice A3 len3 cap3] 24))
  obtain ⟨Wa, hWa⟩ : ∃ W, W = wa.alloc (.cells #[.int .i64 7, .int .i64 n, .string s, .slice A3 len3 cap3] 24) := ⟨_, rfl⟩
  obtain ⟨g3, hg3⟩ : ∃ g, g = wa.heap.size := ⟨_, rfl⟩
  rw [← hWa] at ha2 hba hva
  rw [← hg3] at hba
  rw [← hWa, ← hg3]
  clear hWa hg3 hv3 hsa
  have p3 := hba.cell 0
  have p4 := hba.cell 1
  have p5 := hba.cell 2
  have p6 := hba.cell 3
  simp at p3 p4 p5 p6
  obtain ⟨_, _, _, _, _, _, _, _⟩ := ha2.cells
  have KG := keepf (fun W (h : Chg NoS Wa W) => GP W A3 len3 cap3 (hva.chg h))
  unfold VC.val at KG
  simp only [] at KG
  clear GP
  go_upto_region 5 with (go_at_call 19; (with_reducible refine (KG.out _ (Chg.refl NoS _)).mono ?_); rintro e wb ⟨⟨k4, n4, s4, A4, len4, cap4⟩, rfl, hv4, hcb⟩; unfold VC.val)
  obtain ⟨Wb, hWb⟩ : ∃ W, W = wb.alloc (.cells #[.int .i64 k4, .int .i64 n4, .string s4, .slice A4 len4 cap4] 24) := ⟨_, rfl⟩
  obtain ⟨g4, hg4⟩ : ∃ g, g = wb.heap.size := ⟨_, rfl⟩
  have st4 : VSt4 w g g2 g3 g4 #[.int .i64 7, .int .i64 n, .string s, .slice A len cap] #[.int .i64 k', .int .i64 n', .string s', .slice A' len' cap'] #[.int .i64 7, .int .i64 n, .string s, .slice A3 len3 cap3] #[.int .i64 k4, .int .i64 n4, .string s4, .slice A4 len4 cap4] Wb := ⟨by rw [hWb]; exact (ha2.call hcb).alloc _, by rw [hWb]; exact (hba.chg hcb (fun e => e)).alloc _, by rw [hWb, hg4]; exact Blk.new wb _ _⟩
  have hvp : ValIs Wb (.mk 7 n s lp) ⟨7, n, s, A3, len3, cap3⟩ := by rw [hWb]; exact (hva.chg hcb).chg ((Chg.refl NoS wb).alloc _)
  have hB2 : ValIs Wb t' ⟨k4, n4, s4, A4, len4, cap4⟩ := by rw [hWb]; exact hv4.chg ((Chg.refl NoS wb).alloc _)
  rw [← hWb, ← hg4]
  clear hWb hg4 hcb hba hva hv4 KG ha2
  obtain ⟨_, _, _, _, _, _, _, _, _, _, _, _, _, _, _, _⟩ := st4.cells
  have KS := keepf (SP Wb k4 n4 s4 A4 len4 cap4 hB2 st4.st.chg)
  go_upto_region 7 with (go_at_call 18; refine (KS.out).mono ?_; rintro e wc ⟨rfl, hcc⟩)
  have st5 := st4.call hcc
  have hvp := hvp.chg hcc
  clear st4 KS hB2
  obtain ⟨_, _, _, _, _, _, _, _, _, _, _, _, _, _, _, _⟩ := st5.cells
  have XC1 := (KC1.out g3 g4 A3 len3 cap3 k4 n4 s4 A4 len4 cap4)
  have XC2 := (KC2.out g3 g4 A3 len3 cap3 k4 n4 s4 A4 len4 cap4)
  have XW := (KW4.out g3 g4 A3 len3 cap3 k4 n4 s4 A4 len4 cap4)
  clear KC1 KC2 KW4
  go_wp2_with first
    | (go_at_call 11; (with_reducible refine (XC1 _ (by assumption)).mono ?_); rintro e wq ⟨rfl, hq⟩; obtain ⟨_, _, _, _, _, _, _, _, _, _, _, _, _, _, _, _⟩ := hq.cells)
    | (go_at_call 11; (with_reducible refine (XC2 _ (by assumption)).mono ?_); rintro e wq ⟨rfl, hq⟩; obtain ⟨_, _, _, _, _, _, _, _, _, _, _, _, _, _, _, _⟩ := hq.cells)
    | (go_at_call 14; (with_reducible refine (XW _ (by assumption)).mono ?_); rintro e wq ⟨rfl, hq⟩; obtain ⟨_, _, _, _, _, _, _, _, _, _, _, _, _, _, _, _⟩ := hq.cells)
  go_ret
  exact ⟨rfl, (by assumption : VSt4 w g g2 g3 g4 #[.int .i64 7, .int .i64 n, .string s, .slice A len cap] #[.int .i64 k', .int .i64 n', .string s', .slice A' len' cap'] #[.int .i64 7, .int .i64 n, .string s, .slice A3 len3 cap3] #[.int .i64 k4, .int .i64 n4, .string s4, .slice A4 len4 cap4] _).st.chg⟩
set_option maxHeartbeats 8000000 in
set_option maxRecDepth 100000 in
theorem puts_bad3 (H : ValOk) (t t' : VT) (c c' : VC) (key : ByteArray) (w : World) (hv : ValIs w t c) (hv' : ValIs w t' c') (hkm : key.size ≤ maxLen) (hsm1 : 0 ≤ fewT t 300) (hsm2 : 0 ≤ fewT t' 300) (h3 : key.size ≤ 300) (h4 : t.kind = 7) (h5 : t.row.length % 2 = 0) (h6 : checkT t = 0) (h7 : checkT t' = 0) (h8 : ¬ textO key) :
    Calls Try.prog 7 #[c.val, c'.val, .string key] w fun e w' => e = .returned (.bool true) ∧ Chg NoS w w' := by
  obtain ⟨tk, tn, ts, l⟩ := t
  obtain ⟨h1, h2, h3, _, hll, _⟩ := hv.inv
  subst h1 h2 h3
  change c.k = 7 at h4
  change l.length % 2 = 0 at h5
  have K1 := fun (W : World) (h : Chg NoS w W) => small_any _ c W (hv.chg h)
  have K2 := fun (W : World) (h : Chg NoS w W) => small_any t' c' W (hv'.chg h)
  obtain ⟨k, n, s, A, len, cap⟩ := c
  obtain ⟨k', n', s', A', len', cap'⟩ := c'
  simp only [] at hv hll hsm1 hsm2 h4 h5 h6
  subst h4
  obtain ⟨cs, hcs⟩ : ∃ cs : Array Value, cs = #[.int .i64 7, .int .i64 n, .string s, .slice A len cap] := ⟨_, rfl⟩
  obtain ⟨cs2, hcs2⟩ : ∃ cs : Array Value, cs = #[.int .i64 k', .int .i64 n', .string s', .slice A' len' cap'] := ⟨_, rfl⟩
  obtain ⟨W, hW⟩ : ∃ W, W = (w.alloc (.cells #[.int .i64 7, .int .i64 n, .string s, .slice A len cap] 24)).alloc (.cells #[.int .i64 k', .int .i64 n', .string s', .slice A' len' cap'] 24) := ⟨_, rfl⟩
  obtain ⟨g, hg⟩ : ∃ g, g = w.heap.size := ⟨_, rfl⟩
  obtain ⟨g2, hg2⟩ : ∃ g, g = w.heap.size + 1 := ⟨_, rfl⟩
  have hs1 : (w.alloc (.cells #[.int .i64 7, .int .i64 n, .string s, .slice A len cap] 24)).heap.size = w.heap.size + 1 := by simp
  have hst : VSt2 w g g2 cs cs2 W := ⟨by rw [hcs, hW, hg]; exact (Blk.new w _ _).alloc _, by rw [hcs2, hW, hg2, ← hs1]; exact Blk.new _ _ _, by rw [hW]; exact ((Chg.refl NoS w).alloc _).alloc _⟩
  have KW := keepf (VSt2.of_ (w := w) (g := g) (g2 := g2) (cs := cs) (cs2 := cs2) (fun W _ => H.works W))
  have hsz1 := small_siz hsm1
  have hsz2 := small_siz hsm2
  rw [sizT_mk] at hsz1
  rw [show decide (0 ≤ fewT (.mk 7 n s l) 300) = true from by simpa using hsm1] at K1
  have KS1 := keepf (VSt2.of_ (w := w) (g := g) (g2 := g2) (cs := cs) (cs2 := cs2) K1)
  rw [show decide (0 ≤ fewT t' 300) = true from by simpa using hsm2] at K2
  have KS2 := keepf (VSt2.of_ (w := w) (g := g) (g2 := g2) (cs := cs) (cs2 := cs2) K2)
  have d1 : decide ((300 : Int) < key.size) = false := by simp; omega
  obtain ⟨e1, e2⟩ := rem2 len 0 (by rw [← hll]; exact h5)
  have hput := put_7 (n := n) (s := s) (key := key) (x := t') (l := l)
  have hgt := put_get (key := key) (x := t') h5
  have hsp := sizL_put key t' l
  obtain ⟨lp, hlp⟩ : ∃ x, putL key t' l = x := ⟨_, rfl⟩
  rw [hlp] at hput hgt hsp
  have P1 := fun (W : World) (h : Chg NoS w W) => H.put ⟨7, n, s, A, len, cap⟩ ⟨k', n', s', A', len', cap'⟩ l t' key W (hv.chg h) (hv'.chg h) (by omega) (by omega) hkm
  simp only [] at P1
  rw [hput] at P1
  have KP := keepf (fun (W : World) (h : VSt2 w g g2 cs cs2 W) => dict_to (fun V hc => h.call hc) (P1 W h.chg))
  have GP := fun (W : World) (A3 : Option Addr) (len3 cap3 : Nat) (h : ValIs W (.mk 7 n s lp) ⟨7, n, s, A3, len3, cap3⟩) => H.get ⟨7, n, s, A3, len3, cap3⟩ lp key W h (by omega) hkm
  simp only [] at GP
  rw [hgt] at GP
  have SP := fun (W : World) (k4 n4 : Int) (s4 : ByteArray) (A4 : Option Addr) (len4 cap4 : Nat) (h : ValIs W t' ⟨k4, n4, s4, A4, len4, cap4⟩) (h' : Chg NoS w W) => rsame11_any t' t' ⟨k4, n4, s4, A4, len4, cap4⟩ ⟨k', n', s', A', len', cap'⟩ W h (hv'.chg h')
  rw [cmpT_self] at SP
  have KC1 := keepf (fun g3 g4 A3 len3 cap3 k4 n4 s4 A4 len4 cap4 => (VSt4.of_ (w := w) (g := g) (g2 := g2) (g3 := g3) (g4 := g4) (cs := #[.int .i64 7, .int .i64 n, .string s, .slice A len cap]) (cs2 := #[.int .i64 k', .int .i64 n', .string s', .slice A' len' cap']) (cs3 := #[.int .i64 7, .int .i64 n, .string s, .slice A3 len3 cap3]) (cs4 := #[.int .i64 k4, .int .i64 n4, .string s4, .slice A4 len4 cap4]) (fun (W : World) (h : Chg NoS w W) => rcheck11_any _ ⟨7, n, s, A, len, cap⟩ W (hv.chg h) (by rw [sizT_mk]; omega))))
  have KC2 := keepf (fun g3 g4 A3 len3 cap3 k4 n4 s4 A4 len4 cap4 => (VSt4.of_ (w := w) (g := g) (g2 := g2) (g3 := g3) (g4 := g4) (cs := #[.int .i64 7, .int .i64 n, .string s, .slice A len cap]) (cs2 := #[.int .i64 k', .int .i64 n', .string s', .slice A' len' cap']) (cs3 := #[.int .i64 7, .int .i64 n, .string s, .slice A3 len3 cap3]) (cs4 := #[.int .i64 k4, .int .i64 n4, .string s4, .slice A4 len4 cap4]) (fun (W : World) (h : Chg NoS w W) => rcheck11_any t' _ W (hv'.chg h) (by omega))))
  have KT := keepf (fun (W : World) => rtext11_any key W hkm)
  have KW4 := keepf (fun g3 g4 A3 len3 cap3 k4 n4 s4 A4 len4 cap4 => (VSt4.of_ (w := w) (g := g) (g2 := g2) (g3 := g3) (g4 := g4) (cs := #[.int .i64 7, .int .i64 n, .string s, .slice A len cap]) (cs2 := #[.int .i64 k', .int .i64 n', .string s', .slice A' len' cap']) (cs3 := #[.int .i64 7, .int .i64 n, .string s, .slice A3 len3 cap3]) (cs4 := #[.int .i64 k4, .int .i64 n4, .string s4, .slice A4 len4 cap4]) (fun W _ => H.works W)))
  obtain ⟨x1, hx1⟩ : ∃ x, checkT (.mk 7 n s l) = x := ⟨_, rfl⟩
  rw [hx1] at KC1 h6
  obtain ⟨x2, hx2⟩ : ∃ x, checkT t' = x := ⟨_, rfl⟩
  rw [hx2] at KC2 h7
  subst h6
  subst h7
  rw [show decide (textO key) = false from by simpa using h8] at KT
  unfold VC.val at KS1 KS2 KP SP KC1 KC2 ⊢
  simp only [] at KS1 KS2 KP SP KC1 KC2 ⊢
  go_enter Try.func7, Try.ntmps7
  go_upto_region 1 with fail
  rw [← hW, ← hg2, ← hg]
  clear hW hg hg2 hs1
  subst hcs hcs2
  obtain ⟨p0, p1, p2, p3, q0, q1, q2, q3⟩ := hst.cells
  go_upto_region 3 with first
    | (go_at_call 9; (with_reducible refine (KS1.out _ (by assumption)).mono ?_); rintro e wq ⟨rfl, hq⟩; obtain ⟨_, _, _, _, _, _, _, _⟩ := hq.cells)
    | (go_at_call 9; (with_reducible refine (KS2.out _ (by assumption)).mono ?_); rintro e wq ⟨rfl, hq⟩; obtain ⟨_, _, _, _, _, _, _, _⟩ := hq.cells)
  go_upto_region 4 with (go_at_call 21; (with_reducible refine (KP.out _ (by assumption)).mono ?_); rintro e wa ⟨A3, len3, cap3, rfl, hv3, hsa, hca⟩)
  have ha2 := hsa.alloc (.cells #[.int .i64 7, .int .i64 n, .string s, .slice A3 len3 cap3] 24)
  have hba := Blk.new wa 24 #[.int .i64 7, .int .i64 n, .string s, .slice A3 len3 cap3]
  have hva := hv3.chg ((Chg.refl NoS wa).alloc (.cells #[.int .i64 7, .int .i64 n, .string s, .slice A3 len3 cap3] 24))
  obtain ⟨Wa, hWa⟩ : ∃ W, W = wa.alloc (.cells #[.int .i64 7, .int .i64 n, .string s, .slice A3 len3 cap3] 24) := ⟨_, rfl⟩
  obtain ⟨g3, hg3⟩ : ∃ g, g = wa.heap.size := ⟨_, rfl⟩
  rw [← hWa] at ha2 hba hva
  rw [← hg3] at hba
  rw [← hWa, ← hg3]
  clear hWa hg3 hv3 hsa
  have p3 := hba.cell 0
  have p4 := hba.cell 1
  have p5 := hba.cell 2
  have p6 := hba.cell 3
  simp at p3 p4 p5 p6
  obtain ⟨_, _, _, _, _, _, _, _⟩ := ha2.cells
  have KG := keepf (fun W (h : Chg NoS Wa W) => GP W A3 len3 cap3 (hva.chg h))
  unfold VC.val at KG
  simp only [] at KG
  clear GP
  go_upto_region 5 with (go_at_call 19; (with_reducible refine (KG.out _ (Chg.refl NoS _)).mono ?_); rintro e wb ⟨⟨k4, n4, s4, A4, len4, cap4⟩, rfl, hv4, hcb⟩; unfold VC.val)
  obtain ⟨Wb, hWb⟩ : ∃ W, W = wb.alloc (.cells #[.int .i64 k4, .int .i64 n4, .string s4, .slice A4 len4 cap4] 24) := ⟨_, rfl⟩
  obtain ⟨g4, hg4⟩ : ∃ g, g = wb.heap.size := ⟨_, rfl⟩
  have st4 : VSt4 w g g2 g3 g4 #[.int .i64 7, .int .i64 n, .string s, .slice A len cap] #[.int .i64 k', .int .i64 n', .string s', .slice A' len' cap'] #[.int .i64 7, .int .i64 n, .string s, .slice A3 len3 cap3] #[.int .i64 k4, .int .i64 n4, .string s4, .slice A4 len4 cap4] Wb := ⟨by rw [hWb]; exact (ha2.call hcb).alloc _, by rw [hWb]; exact (hba.chg hcb (fun e => e)).alloc _, by rw [hWb, hg4]; exact Blk.new wb _ _⟩
  have hvp : ValIs Wb (.mk 7 n s lp) ⟨7, n, s, A3, len3, cap3⟩ := by rw [hWb]; exact (hva.chg hcb).chg ((Chg.refl NoS wb).alloc _)
  have hB2 : ValIs Wb t' ⟨k4, n4, s4, A4, len4, cap4⟩ := by rw [hWb]; exact hv4.chg ((Chg.refl NoS wb).alloc _)
  rw [← hWb, ← hg4]
  clear hWb hg4 hcb hba hva hv4 KG ha2
  obtain ⟨_, _, _, _, _, _, _, _, _, _, _, _, _, _, _, _⟩ := st4.cells
  have KS := keepf (SP Wb k4 n4 s4 A4 len4 cap4 hB2 st4.st.chg)
  go_upto_region 7 with (go_at_call 18; refine (KS.out).mono ?_; rintro e wc ⟨rfl, hcc⟩)
  have st5 := st4.call hcc
  have hvp := hvp.chg hcc
  clear st4 KS hB2
  obtain ⟨_, _, _, _, _, _, _, _, _, _, _, _, _, _, _, _⟩ := st5.cells
  have XC1 := (KC1.out g3 g4 A3 len3 cap3 k4 n4 s4 A4 len4 cap4)
  have XC2 := (KC2.out g3 g4 A3 len3 cap3 k4 n4 s4 A4 len4 cap4)
  have XW := (KW4.out g3 g4 A3 len3 cap3 k4 n4 s4 A4 len4 cap4)
  clear KC1 KC2 KW4
  go_wp2_with first
    | (go_at_call 11; (with_reducible refine (XC1 _ (by assumption)).mono ?_); rintro e wq ⟨rfl, hq⟩; obtain ⟨_, _, _, _, _, _, _, _, _, _, _, _, _, _, _, _⟩ := hq.cells)
    | (go_at_call 11; (with_reducible refine (XC2 _ (by assumption)).mono ?_); rintro e wq ⟨rfl, hq⟩; obtain ⟨_, _, _, _, _, _, _, _, _, _, _, _, _, _, _, _⟩ := hq.cells)
    | (go_at_call 25; refine (KT.out _).mono ?_; rintro e wq ⟨rfl, rfl⟩)
    | (go_at_call 14; (with_reducible refine (XW _ (by assumption)).mono ?_); rintro e wq ⟨rfl, hq⟩; obtain ⟨_, _, _, _, _, _, _, _, _, _, _, _, _, _, _, _⟩ := hq.cells)
  go_ret
  exact ⟨rfl, (by assumption : VSt4 w g g2 g3 g4 #[.int .i64 7, .int .i64 n, .string s, .slice A len cap] #[.int .i64 k', .int .i64 n', .string s', .slice A' len' cap'] #[.int .i64 7, .int .i64 n, .string s, .slice A3 len3 cap3] #[.int .i64 k4, .int .i64 n4, .string s4, .slice A4 len4 cap4] _).st.chg⟩
set_option maxHeartbeats 8000000 in
set_option maxRecDepth 100000 in
theorem puts_deep (H : ValOk) (t t' : VT) (c c' : VC) (key : ByteArray) (w : World) (hv : ValIs w t c) (hv' : ValIs w t' c') (hkm : key.size ≤ maxLen) (hsm1 : 0 ≤ fewT t 300) (hsm2 : 0 ≤ fewT t' 300) (h3 : key.size ≤ 300) (h4 : t.kind = 7) (h5 : t.row.length % 2 = 0) (h6 : checkT t = 0) (h7 : checkT t' = 0) (h8 : textO key) (h9 : 64 ≤ depthT t') :
    Calls Try.prog 7 #[c.val, c'.val, .string key] w fun e w' => e = .returned (.bool true) ∧ Chg NoS w w' := by
  obtain ⟨tk, tn, ts, l⟩ := t
  obtain ⟨h1, h2, h3, _, hll, _⟩ := hv.inv
  subst h1 h2 h3
  change c.k = 7 at h4
  change l.length % 2 = 0 at h5
  have K1 := fun (W : World) (h : Chg NoS w W) => small_any _ c W (hv.chg h)
  have K2 := fun (W : World) (h : Chg NoS w W) => small_any t' c' W (hv'.chg h)
  obtain ⟨k, n, s, A, len, cap⟩ := c
  obtain ⟨k', n', s', A', len', cap'⟩ := c'
  simp only [] at hv hll hsm1 hsm2 h4 h5 h6
  subst h4
  obtain ⟨cs, hcs⟩ : ∃ cs : Array Value, cs = #[.int .i64 7, .int .i64 n, .string s, .slice A len cap] := ⟨_, rfl⟩
  obtain ⟨cs2, hcs2⟩ : ∃ cs : Array Value, cs = #[.int .i64 k', .int .i64 n', .string s', .slice A' len' cap'] := ⟨_, rfl⟩
  obtain ⟨W, hW⟩ : ∃ W, W = (w.alloc (.cells #[.int .i64 7, .int .i64 n, .string s, .slice A len cap] 24)).alloc (.cells #[.int .i64 k', .int .i64 n', .string s', .slice A' len' cap'] 24) := ⟨_, rfl⟩
  obtain ⟨g, hg⟩ : ∃ g, g = w.heap.size := ⟨_, rfl⟩
  obtain ⟨g2, hg2⟩ : ∃ g, g = w.heap.size + 1 := ⟨_, rfl⟩
  have hs1 : (w.alloc (.cells #[.int .i64 7, .int .i64 n, .string s, .slice A len cap] 24)).heap.size = w.heap.size + 1 := by simp
  have hst : VSt2 w g g2 cs cs2 W := ⟨by rw [hcs, hW, hg]; exact (Blk.new w _ _).alloc _, by rw [hcs2, hW, hg2, ← hs1]; exact Blk.new _ _ _, by rw [hW]; exact ((Chg.refl NoS w).alloc _).alloc _⟩
  have KW := keepf (VSt2.of_ (w := w) (g := g) (g2 := g2) (cs := cs) (cs2 := cs2) (fun W _ => H.works W))
  have hsz1 := small_siz hsm1
  have hsz2 := small_siz hsm2
  rw [sizT_mk] at hsz1
  rw [show decide (0 ≤ fewT (.mk 7 n s l) 300) = true from by simpa using hsm1] at K1
  have KS1 := keepf (VSt2.of_ (w := w) (g := g) (g2 := g2) (cs := cs) (cs2 := cs2) K1)
  rw [show decide (0 ≤ fewT t' 300) = true from by simpa using hsm2] at K2
  have KS2 := keepf (VSt2.of_ (w := w) (g := g) (g2 := g2) (cs := cs) (cs2 := cs2) K2)
  have d1 : decide ((300 : Int) < key.size) = false := by simp; omega
  obtain ⟨e1, e2⟩ := rem2 len 0 (by rw [← hll]; exact h5)
  have hput := put_7 (n := n) (s := s) (key := key) (x := t') (l := l)
  have hgt := put_get (key := key) (x := t') h5
  have hsp := sizL_put key t' l
  obtain ⟨lp, hlp⟩ : ∃ x, putL key t' l = x := ⟨_, rfl⟩
  rw [hlp] at hput hgt hsp
  have P1 := fun (W : World) (h : Chg NoS w W) => H.put ⟨7, n, s, A, len, cap⟩ ⟨k', n', s', A', len', cap'⟩ l t' key W (hv.chg h) (hv'.chg h) (by omega) (by omega) hkm
  simp only [] at P1
  rw [hput] at P1
  have KP := keepf (fun (W : World) (h : VSt2 w g g2 cs cs2 W) => dict_to (fun V hc => h.call hc) (P1 W h.chg))
  have GP := fun (W : World) (A3 : Option Addr) (len3 cap3 : Nat) (h : ValIs W (.mk 7 n s lp) ⟨7, n, s, A3, len3, cap3⟩) => H.get ⟨7, n, s, A3, len3, cap3⟩ lp key W h (by omega) hkm
  simp only [] at GP
  rw [hgt] at GP
  have SP := fun (W : World) (k4 n4 : Int) (s4 : ByteArray) (A4 : Option Addr) (len4 cap4 : Nat) (h : ValIs W t' ⟨k4, n4, s4, A4, len4, cap4⟩) (h' : Chg NoS w W) => rsame11_any t' t' ⟨k4, n4, s4, A4, len4, cap4⟩ ⟨k', n', s', A', len', cap'⟩ W h (hv'.chg h')
  rw [cmpT_self] at SP
  obtain ⟨hok, hpc⟩ := put_check (key := key) h6 h7 h8
  rw [hlp] at hpc
  obtain ⟨l2, u, hdr, hs2, hg2t, hdv⟩ := drop_put (n := n) (s := s) (key := key) (x := t') h5 hok
  rw [hlp] at hdr
  obtain ⟨D, hD⟩ : ∃ D, depthT t' = D := ⟨_, rfl⟩
  rw [hD] at hpc h9
  have f1 : decide ((64 : Int) ≤ (D : Int)) = true := by simp; omega
  have f2 : decide ((D : Int) < 64) = false := by simp; omega
  rw [if_pos h9] at hpc
  have z1 := keepf (show sizT (.mk 7 n s l) ≤ 1000000000 ∧ sizT t' ≤ 1000000000 ∧ sizL lp ≤ 1000000 ∧ sizT (.mk 7 n s lp) ≤ 1000000 ∧ sizL l2 ≤ 1000000 ∧ sizL l ≤ 1000000000 from by rw [sizT_mk, sizT_mk]; omega)
  have HH := keepf H
  have HV := keepf hv
  have HV' := keepf hv'
  have HF := keepf (And.intro h6 (And.intro h7 (And.intro hpc (And.intro hdr (And.intro hdv (And.intro hg2t hD))))))
  have KT := keepf (fun (W : World) => rtext11_any key W hkm)
  rw [show decide (textO key) = true from by simpa using h8] at KT
  unfold VC.val at KS1 KS2 KP SP ⊢
  simp only [] at KS1 KS2 KP SP ⊢
  go_enter Try.func7, Try.ntmps7
  go_upto_region 1 with fail
  rw [← hW, ← hg2, ← hg]
  clear hW hg hg2 hs1
  subst hcs hcs2
  obtain ⟨p0, p1, p2, p3, q0, q1, q2, q3⟩ := hst.cells
  go_upto_region 3 with first
    | (go_at_call 9; (with_reducible refine (KS1.out _ (by assumption)).mono ?_); rintro e wq ⟨rfl, hq⟩; obtain ⟨_, _, _, _, _, _, _, _⟩ := hq.cells)
    | (go_at_call 9; (with_reducible refine (KS2.out _ (by assumption)).mono ?_); rintro e wq ⟨rfl, hq⟩; obtain ⟨_, _, _, _, _, _, _, _⟩ := hq.cells)
  go_upto_region 4 with (go_at_call 21; (with_reducible refine (KP.out _ (by assumption)).mono ?_); rintro e wa ⟨A3, len3, cap3, rfl, hv3, hsa, hca⟩)
  have ha2 := hsa.alloc (.cells #[.int .i64 7, .int .i64 n, .string s, .slice A3 len3 cap3] 24)
  have hba := Blk.new wa 24 #[.int .i64 7, .int .i64 n, .string s, .slice A3 len3 cap3]
  have hva := hv3.chg ((Chg.refl NoS wa).alloc (.cells #[.int .i64 7, .int .i64 n, .string s, .slice A3 len3 cap3] 24))
  obtain ⟨Wa, hWa⟩ : ∃ W, W = wa.alloc (.cells #[.int .i64 7, .int .i64 n, .string s, .slice A3 len3 cap3] 24) := ⟨_, rfl⟩
  obtain ⟨g3, hg3⟩ : ∃ g, g = wa.heap.size := ⟨_, rfl⟩
  rw [← hWa] at ha2 hba hva
  rw [← hg3] at hba
  rw [← hWa, ← hg3]
  clear hWa hg3 hv3 hsa
  have p3 := hba.cell 0
  have p4 := hba.cell 1
  have p5 := hba.cell 2
  have p6 := hba.cell 3
  simp at p3 p4 p5 p6
  obtain ⟨_, _, _, _, _, _, _, _⟩ := ha2.cells
  have KG := keepf (fun W (h : Chg NoS Wa W) => GP W A3 len3 cap3 (hva.chg h))
  unfold VC.val at KG
  simp only [] at KG
  clear GP
  go_upto_region 5 with (go_at_call 19; (with_reducible refine (KG.out _ (Chg.refl NoS _)).mono ?_); rintro e wb ⟨⟨k4, n4, s4, A4, len4, cap4⟩, rfl, hv4, hcb⟩; unfold VC.val)
  obtain ⟨Wb, hWb⟩ : ∃ W, W = wb.alloc (.cells #[.int .i64 k4, .int .i64 n4, .string s4, .slice A4 len4 cap4] 24) := ⟨_, rfl⟩
  obtain ⟨g4, hg4⟩ : ∃ g, g = wb.heap.size := ⟨_, rfl⟩
  have st4 : VSt4 w g g2 g3 g4 #[.int .i64 7, .int .i64 n, .string s, .slice A len cap] #[.int .i64 k', .int .i64 n', .string s', .slice A' len' cap'] #[.int .i64 7, .int .i64 n, .string s, .slice A3 len3 cap3] #[.int .i64 k4, .int .i64 n4, .string s4, .slice A4 len4 cap4] Wb := ⟨by rw [hWb]; exact (ha2.call hcb).alloc _, by rw [hWb]; exact (hba.chg hcb (fun e => e)).alloc _, by rw [hWb, hg4]; exact Blk.new wb _ _⟩
  have hvp : ValIs Wb (.mk 7 n s lp) ⟨7, n, s, A3, len3, cap3⟩ := by rw [hWb]; exact (hva.chg hcb).chg ((Chg.refl NoS wb).alloc _)
  have hB2 : ValIs Wb t' ⟨k4, n4, s4, A4, len4, cap4⟩ := by rw [hWb]; exact hv4.chg ((Chg.refl NoS wb).alloc _)
  rw [← hWb, ← hg4]
  clear hWb hg4 hcb hba hva hv4 KG ha2
  obtain ⟨_, _, _, _, _, _, _, _, _, _, _, _, _, _, _, _⟩ := st4.cells
  have KS := keepf (SP Wb k4 n4 s4 A4 len4 cap4 hB2 st4.st.chg)
  go_upto_region 7 with (go_at_call 18; refine (KS.out).mono ?_; rintro e wc ⟨rfl, hcc⟩)
  have st5 := st4.call hcc
  have hvp := hvp.chg hcc
  clear st4 KS hB2
  obtain ⟨_, _, _, _, _, _, _, _, _, _, _, _, _, _, _, _⟩ := st5.cells
  have sp : VStP w g g2 g3 g4 #[.int .i64 7, .int .i64 n, .string s, .slice A len cap] #[.int .i64 k', .int .i64 n', .string s', .slice A' len' cap'] #[.int .i64 7, .int .i64 n, .string s, .slice A3 len3 cap3] #[.int .i64 k4, .int .i64 n4, .string s4, .slice A4 len4 cap4] (.mk 7 n s lp) ⟨7, n, s, A3, len3, cap3⟩ wc := ⟨st5, hvp⟩
  have XC1 := keepf (VStP.of_ (w := w) (g := g) (g2 := g2) (g3 := g3) (g4 := g4) (cs := #[.int .i64 7, .int .i64 n, .string s, .slice A len cap]) (cs2 := #[.int .i64 k', .int .i64 n', .string s', .slice A' len' cap']) (cs3 := #[.int .i64 7, .int .i64 n, .string s, .slice A3 len3 cap3]) (cs4 := #[.int .i64 k4, .int .i64 n4, .string s4, .slice A4 len4 cap4]) (t := .mk 7 n s lp) (c := ⟨7, n, s, A3, len3, cap3⟩) (fun W h p => rcheck11_any _ ⟨7, n, s, A, len, cap⟩ W (HV.out.chg h) z1.out.1))
  rw [HF.out.1] at XC1
  have XC2 := keepf (VStP.of_ (w := w) (g := g) (g2 := g2) (g3 := g3) (g4 := g4) (cs := #[.int .i64 7, .int .i64 n, .string s, .slice A len cap]) (cs2 := #[.int .i64 k', .int .i64 n', .string s', .slice A' len' cap']) (cs3 := #[.int .i64 7, .int .i64 n, .string s, .slice A3 len3 cap3]) (cs4 := #[.int .i64 k4, .int .i64 n4, .string s4, .slice A4 len4 cap4]) (t := .mk 7 n s lp) (c := ⟨7, n, s, A3, len3, cap3⟩) (fun W h p => rcheck11_any t' _ W (HV'.out.chg h) z1.out.2.1))
  rw [HF.out.2.1] at XC2
  have XW := keepf (VStP.of_ (w := w) (g := g) (g2 := g2) (g3 := g3) (g4 := g4) (cs := #[.int .i64 7, .int .i64 n, .string s, .slice A len cap]) (cs2 := #[.int .i64 k', .int .i64 n', .string s', .slice A' len' cap']) (cs3 := #[.int .i64 7, .int .i64 n, .string s, .slice A3 len3 cap3]) (cs4 := #[.int .i64 k4, .int .i64 n4, .string s4, .slice A4 len4 cap4]) (t := .mk 7 n s lp) (c := ⟨7, n, s, A3, len3, cap3⟩) (fun W h p => HH.out.works W))
  have XE := keepf (VStP.of_ (w := w) (g := g) (g2 := g2) (g3 := g3) (g4 := g4) (cs := #[.int .i64 7, .int .i64 n, .string s, .slice A len cap]) (cs2 := #[.int .i64 k', .int .i64 n', .string s', .slice A' len' cap']) (cs3 := #[.int .i64 7, .int .i64 n, .string s, .slice A3 len3 cap3]) (cs4 := #[.int .i64 k4, .int .i64 n4, .string s4, .slice A4 len4 cap4]) (t := .mk 7 n s lp) (c := ⟨7, n, s, A3, len3, cap3⟩) (fun W h p => HH.out.check _ ⟨7, n, s, A3, len3, cap3⟩ W p z1.out.2.2.2.1))
  rw [HF.out.2.2.1] at XE
  have XD := keepf (VStP.of_ (w := w) (g := g) (g2 := g2) (g3 := g3) (g4 := g4) (cs := #[.int .i64 7, .int .i64 n, .string s, .slice A len cap]) (cs2 := #[.int .i64 k', .int .i64 n', .string s', .slice A' len' cap']) (cs3 := #[.int .i64 7, .int .i64 n, .string s, .slice A3 len3 cap3]) (cs4 := #[.int .i64 k4, .int .i64 n4, .string s4, .slice A4 len4 cap4]) (t := .mk 7 n s lp) (c := ⟨7, n, s, A3, len3, cap3⟩) (fun W h p => rdepth_any t' _ W (HV'.out.chg h) z1.out.2.1))
  rw [HF.out.2.2.2.2.2.2] at XD
  have DP := fun (W : World) (p : ValIs W (.mk 7 n s lp) ⟨7, n, s, A3, len3, cap3⟩) => HH.out.drop ⟨7, n, s, A3, len3, cap3⟩ lp key W p z1.out.2.2.1 hkm
  have DV := fun (W : World) (h : Chg NoS w W) => rdrop_any ⟨7, n, s, A, len, cap⟩ l key W (HV.out.chg h) z1.out.2.2.2.2.2
  simp only [] at DP DV
  rw [HF.out.2.2.2.1] at DP
  rw [HF.out.2.2.2.2.1] at DV
  have XP := keepf (VStP.tree (w := w) (g := g) (g2 := g2) (g3 := g3) (g4 := g4) (cs := #[.int .i64 7, .int .i64 n, .string s, .slice A len cap]) (cs2 := #[.int .i64 k', .int .i64 n', .string s', .slice A' len' cap']) (cs3 := #[.int .i64 7, .int .i64 n, .string s, .slice A3 len3 cap3]) (cs4 := #[.int .i64 k4, .int .i64 n4, .string s4, .slice A4 len4 cap4]) (t := .mk 7 n s lp) (c := ⟨7, n, s, A3, len3, cap3⟩) (fun W h p => DP W p))
  have XV := keepf (VStP.tree (w := w) (g := g) (g2 := g2) (g3 := g3) (g4 := g4) (cs := #[.int .i64 7, .int .i64 n, .string s, .slice A len cap]) (cs2 := #[.int .i64 k', .int .i64 n', .string s', .slice A' len' cap']) (cs3 := #[.int .i64 7, .int .i64 n, .string s, .slice A3 len3 cap3]) (cs4 := #[.int .i64 k4, .int .i64 n4, .string s4, .slice A4 len4 cap4]) (t := .mk 7 n s lp) (c := ⟨7, n, s, A3, len3, cap3⟩) (fun W h p => DV W h))
  have XG0 := fun (W : World) (A5 : Option Addr) (len5 cap5 : Nat) (p : ValIs W (.mk 7 n s l2) ⟨7, n, s, A5, len5, cap5⟩) => HH.out.get ⟨7, n, s, A5, len5, cap5⟩ l2 key W p z1.out.2.2.2.2.1 hkm
  simp only [] at XG0
  rw [HF.out.2.2.2.2.2.1] at XG0
  have XG := keepf XG0
  have XS0 := fun (W : World) (A6 A7 : Option Addr) (len6 len7 cap6 cap7 : Nat) (h6 : ValIs W (.mk 7 n s l2) ⟨7, n, s, A6, len6, cap6⟩) (h7 : ValIs W (.mk 7 n s l2) ⟨7, n, s, A7, len7, cap7⟩) => rsame11_any _ _ ⟨7, n, s, A6, len6, cap6⟩ ⟨7, n, s, A7, len7, cap7⟩ W h6 h7
  rw [cmpT_self] at XS0
  have XS := keepf XS0
  unfold VC.val at XC1 XC2 XE XD XP XV XG XS
  simp only [] at XC1 XC2 XE XD XP XV XG XS
  clear DP DV XG0 XS0 hvp hv hv' H hok hpc hdr hdv hg2t h6 h7 h8 hD hs2 hgt hput KP KS1 KS2 KW SP P1 K1 K2 hsp
  go_upto_region 9 with first
    | (go_at_call 11; (with_reducible refine (XC1.out _ (by assumption)).mono ?_); rintro e wq ⟨rfl, hq⟩; obtain ⟨_, _, _, _, _, _, _, _, _, _, _, _, _, _, _, _⟩ := hq.st.cells)
    | (go_at_call 11; (with_reducible refine (XC2.out _ (by assumption)).mono ?_); rintro e wq ⟨rfl, hq⟩; obtain ⟨_, _, _, _, _, _, _, _, _, _, _, _, _, _, _, _⟩ := hq.st.cells)
    | (go_at_call 25; refine (KT.out _).mono ?_; rintro e wq ⟨rfl, rfl⟩)
  go_upto_region 10 with first
    | (go_at_call 23; (with_reducible refine (XP.out _ (by assumption)).mono ?_); rintro e wq ⟨A5, len5, cap5, rfl, hv5, hq, hc5⟩; obtain ⟨_, _, _, _, _, _, _, _, _, _, _, _, _, _, _, _⟩ := hq.st.cells)
    | (go_at_call 19; (with_reducible refine (XG.out _ A5 len5 cap5 (by assumption)).mono ?_); rintro e wd ⟨⟨k6, n6, s6, A6, len6, cap6⟩, rfl, hv6, hc6⟩; unfold VC.val)
  have st6 := (hq.call hc6).call ((Chg.refl NoS wd).alloc (.cells #[.int .i64 k6, .int .i64 n6, .string s6, .slice A6 len6 cap6] 24))
  clear hv5 hv6 hq hc5
  obtain ⟨Wd, hWd⟩ : ∃ W, W = wd.alloc (.cells #[.int .i64 k6, .int .i64 n6, .string s6, .slice A6 len6 cap6] 24) := ⟨_, rfl⟩
  rw [← hWd] at st6 ⊢
  clear hWd hc6
  obtain ⟨_, _, _, _, _, _, _, _, _, _, _, _, _, _, _, _⟩ := st6.st.cells
  go_upto_region 11 with (go_at_call 10; (with_reducible refine (XE.out _ (by assumption)).mono ?_); rintro e we ⟨rfl, hq⟩)
  have hq2 := hq.call (Chg.refl NoS we).drew
  have c0 := hq.st.cells
  clear XE XC1 XC2 KT XG hq
  refine wp_region_held_drew (S := fun w' => w'.cell? ⟨g, 0, none⟩ = some (.int .i64 7) ∧ w'.cell? ⟨g, 1, none⟩ = some (.int .i64 n) ∧ w'.cell? ⟨g, 2, none⟩ = some (.string s) ∧ w'.cell? ⟨g, 3, none⟩ = some (.slice A len cap) ∧ w'.cell? ⟨g2, 0, none⟩ = some (.int .i64 k') ∧ w'.cell? ⟨g2, 1, none⟩ = some (.int .i64 n') ∧ w'.cell? ⟨g2, 2, none⟩ = some (.string s') ∧ w'.cell? ⟨g2, 3, none⟩ = some (.slice A' len' cap') ∧ w'.cell? ⟨g3, 0, none⟩ = some (.int .i64 7) ∧ w'.cell? ⟨g3, 1, none⟩ = some (.int .i64 n) ∧ w'.cell? ⟨g3, 2, none⟩ = some (.string s) ∧ w'.cell? ⟨g3, 3, none⟩ = some (.slice A3 len3 cap3) ∧ w'.cell? ⟨g4, 0, none⟩ = some (.int .i64 k4) ∧ w'.cell? ⟨g4, 1, none⟩ = some (.int .i64 n4) ∧ w'.cell? ⟨g4, 2, none⟩ = some (.string s4) ∧ w'.cell? ⟨g4, 3, none⟩ = some (.slice A4 len4 cap4)) (by kernel_rfl) c0 (fun hHeld => ?_)
  clear c0
  refine wpAnyH_take (i := 0) (oi := { dst := some 81, op := Go.Op.move (Go.Operand.tmp 11), type := 4, pos := _, after := _, guard := none }) (v := ?_) rfl (by kernel_rfl) (by kernel_rfl) (by kernel_rfl) (fun _ _ _ h => h) (Or.inl ⟨by rfl, ?_⟩) (by assumption) ?_
  rotate_left
  · intro w hSw; (try dsimp only at hSw); (first | (go_simp; done) | (go_simp; with_reducible rfl))
  try simp only [Act.put, List.setIfInBounds_toArray, List.set_cons_zero, List.set_cons_succ]
  refine wpAnyH_take (i := 1) (oi := { dst := some 82, op := Go.Op.unOp Go.UnOp.not 4 (Go.Operand.tmp 81), type := 4, pos := _, after := _, guard := none }) (v := ?_) rfl (by kernel_rfl) (by kernel_rfl) (by kernel_rfl) (fun _ _ _ h => h) (Or.inl ⟨by rfl, ?_⟩) (by assumption) ?_
  rotate_left
  · intro w hSw; (try dsimp only at hSw); (first | (go_simp; done) | (go_simp; with_reducible rfl))
  try simp only [Act.put, List.setIfInBounds_toArray, List.set_cons_zero, List.set_cons_succ]
  refine wpAnyH_take (i := 2) (oi := { dst := some 83, op := Go.Op.move (Go.Operand.tmp 82), type := 4, pos := _, after := _, guard := none }) (v := ?_) rfl (by kernel_rfl) (by kernel_rfl) (by kernel_rfl) (fun _ _ _ h => h) (Or.inl ⟨by rfl, ?_⟩) (by assumption) ?_
  rotate_left
  · intro w hSw; (try dsimp only at hSw); (first | (go_simp; done) | (go_simp; with_reducible rfl))
  try simp only [Act.put, List.setIfInBounds_toArray, List.set_cons_zero, List.set_cons_succ]
  refine wpAnyH_take (i := 3) (oi := { dst := some 84, op := Go.Op.load 24 (Go.Operand.tmp 4), type := 24, pos := _, after := _, guard := some (2, true) }) (v := ?_) rfl (by kernel_rfl) (by kernel_rfl) (by kernel_rfl) (fun _ _ _ h => h) (Or.inl ⟨by rfl, ?_⟩) (by assumption) ?_
  rotate_left
  · intro w hSw; (try dsimp only at hSw); (first | (go_simp; done) | (go_simp; with_reducible rfl))
  try simp only [Act.put, List.setIfInBounds_toArray, List.set_cons_zero, List.set_cons_succ]
  refine wpAnyH_ready (rs := [4]) (by kernel_rfl) (by simp) ?_
  refine AllReadyH.cons (o := { dst := some 85, op := Go.Op.call { callee := Go.Callee.value (Go.Operand.func 13), args := #[Go.Operand.tmp 84], argTypes := #[24] }, type := 3, pos := _, after := _, guard := some (2, true) }) rfl (fun K hK => ?_) AllReadyH.nil
  go_simp
  (go_at_call 13; refine (XD.out _ (by assumption)).mono ?_; rintro e wr1 ⟨rfl, hr1⟩; have fr1 := hr1.st.cells)
  refine hK.out _ _ fr1 (fun hHeld => ?_)
  clear hK K
  try simp only [Act.put, List.setIfInBounds_toArray, List.set_cons_zero, List.set_cons_succ]
  refine wpAnyH_take (i := 5) (oi := { dst := some 86, op := Go.Op.binOp Go.BinOp.geq 3 (Go.Operand.tmp 85) (Go.Operand.const (Go.Value.int Go.IntKind.i64 64)) 3, type := 4, pos := _, after := _, guard := some (2, true) }) (v := ?_) rfl (by kernel_rfl) (by kernel_rfl) (by kernel_rfl) (fun _ _ _ h => h) (Or.inl ⟨by rfl, ?_⟩) (by assumption) ?_
  rotate_left
  · intro w hSw; (try dsimp only at hSw); (first | (go_simp; done) | (go_simp; with_reducible rfl))
  try simp only [Act.put, List.setIfInBounds_toArray, List.set_cons_zero, List.set_cons_succ]
  refine wpAnyH_take (i := 6) (oi := { dst := some 87, op := Go.Op.move (Go.Operand.tmp 86), type := 4, pos := _, after := _, guard := some (2, true) }) (v := ?_) rfl (by kernel_rfl) (by kernel_rfl) (by kernel_rfl) (fun _ _ _ h => h) (Or.inl ⟨by rfl, ?_⟩) (by assumption) ?_
  rotate_left
  · intro w hSw; (try dsimp only at hSw); (first | (go_simp; done) | (go_simp; with_reducible rfl))
  try simp only [Act.put, List.setIfInBounds_toArray, List.set_cons_zero, List.set_cons_succ]
  refine wpAnyH_take (i := 7) (oi := { dst := some 88, op := Go.Op.move (Go.Operand.tmp 12), type := 26, pos := _, after := _, guard := some (6, true) }) (v := ?_) rfl (by kernel_rfl) (by kernel_rfl) (by kernel_rfl) (fun _ _ _ h => h) (Or.inl ⟨by rfl, ?_⟩) (by assumption) ?_
  rotate_left
  · intro w hSw; (try dsimp only at hSw); (first | (go_simp; done) | (go_simp; with_reducible rfl))
  try simp only [Act.put, List.setIfInBounds_toArray, List.set_cons_zero, List.set_cons_succ]
  refine wpAnyH_take (i := 8) (oi := { dst := some 89, op := Go.Op.binOp Go.BinOp.eql 26 (Go.Operand.tmp 88) (Go.Operand.const (Go.Value.int Go.IntKind.i64 15)) 26, type := 4, pos := _, after := _, guard := some (6, true) }) (v := ?_) rfl (by kernel_rfl) (by kernel_rfl) (by kernel_rfl) (fun _ _ _ h => h) (Or.inl ⟨by rfl, ?_⟩) (by assumption) ?_
  rotate_left
  · intro w hSw; (try dsimp only at hSw); (first | (go_simp; done) | (go_simp; with_reducible rfl))
  try simp only [Act.put, List.setIfInBounds_toArray, List.set_cons_zero, List.set_cons_succ]
  refine wpAnyH_take (i := 9) (oi := { dst := some 90, op := Go.Op.pick (Go.Operand.tmp 87) (Go.Operand.tmp 89) (Go.Operand.const (Go.Value.bool false)), type := 4, pos := _, after := _, guard := some (2, true) }) (v := ?_) rfl (by kernel_rfl) (by kernel_rfl) (by kernel_rfl) (fun _ _ _ h => h) (Or.inl ⟨by rfl, ?_⟩) (by assumption) ?_
  rotate_left
  · intro w hSw; (try dsimp only at hSw); (first | (go_simp; done) | (go_simp; with_reducible rfl))
  try simp only [Act.put, List.setIfInBounds_toArray, List.set_cons_zero, List.set_cons_succ]
  refine wpAnyH_take (i := 10) (oi := { dst := some 91, op := Go.Op.move (Go.Operand.tmp 90), type := 4, pos := _, after := _, guard := some (2, true) }) (v := ?_) rfl (by kernel_rfl) (by kernel_rfl) (by kernel_rfl) (fun _ _ _ h => h) (Or.inl ⟨by rfl, ?_⟩) (by assumption) ?_
  rotate_left
  · intro w hSw; (try dsimp only at hSw); (first | (go_simp; done) | (go_simp; with_reducible rfl))
  try simp only [Act.put, List.setIfInBounds_toArray, List.set_cons_zero, List.set_cons_succ]
  refine wpAnyH_take (i := 11) (oi := { dst := some 92, op := Go.Op.load 24 (Go.Operand.tmp 4), type := 24, pos := _, after := _, guard := some (10, false) }) (v := undef) rfl (by kernel_rfl) (by kernel_rfl) (by kernel_rfl) (fun _ _ _ h => h) (Or.inr ⟨by rfl, rfl⟩) (by assumption) ?_
  try simp only [Act.put, List.setIfInBounds_toArray, List.set_cons_zero, List.set_cons_succ]
  refine wpAnyH_take (i := 12) (oi := { dst := some 93, op := Go.Op.call { callee := Go.Callee.value (Go.Operand.func 13), args := #[Go.Operand.tmp 92], argTypes := #[24] }, type := 3, pos := _, after := _, guard := some (10, false) }) (v := undef) rfl (by kernel_rfl) (by kernel_rfl) (by kernel_rfl) (fun _ _ _ h => h) (Or.inr ⟨by rfl, rfl⟩) (by assumption) ?_
  try simp only [Act.put, List.setIfInBounds_toArray, List.set_cons_zero, List.set_cons_succ]
  refine wpAnyH_take (i := 13) (oi := { dst := some 94, op := Go.Op.binOp Go.BinOp.lss 3 (Go.Operand.tmp 93) (Go.Operand.const (Go.Value.int Go.IntKind.i64 64)) 3, type := 4, pos := _, after := _, guard := some (10, false) }) (v := undef) rfl (by kernel_rfl) (by kernel_rfl) (by kernel_rfl) (fun _ _ _ h => h) (Or.inr ⟨by rfl, rfl⟩) (by assumption) ?_
  try simp only [Act.put, List.setIfInBounds_toArray, List.set_cons_zero, List.set_cons_succ]
  refine wpAnyH_take (i := 14) (oi := { dst := some 95, op := Go.Op.move (Go.Operand.tmp 94), type := 4, pos := _, after := _, guard := some (10, false) }) (v := undef) rfl (by kernel_rfl) (by kernel_rfl) (by kernel_rfl) (fun _ _ _ h => h) (Or.inr ⟨by rfl, rfl⟩) (by assumption) ?_
  try simp only [Act.put, List.setIfInBounds_toArray, List.set_cons_zero, List.set_cons_succ]
  refine wpAnyH_take (i := 15) (oi := { dst := some 96, op := Go.Op.move (Go.Operand.tmp 12), type := 26, pos := _, after := _, guard := some (14, true) }) (v := undef) rfl (by kernel_rfl) (by kernel_rfl) (by kernel_rfl) (fun _ _ _ h => h) (Or.inr ⟨by rfl, rfl⟩) (by assumption) ?_
  try simp only [Act.put, List.setIfInBounds_toArray, List.set_cons_zero, List.set_cons_succ]
  refine wpAnyH_take (i := 16) (oi := { dst := some 97, op := Go.Op.binOp Go.BinOp.eql 26 (Go.Operand.tmp 96) (Go.Operand.const (Go.Value.int Go.IntKind.i64 0)) 26, type := 4, pos := _, after := _, guard := some (14, true) }) (v := undef) rfl (by kernel_rfl) (by kernel_rfl) (by kernel_rfl) (fun _ _ _ h => h) (Or.inr ⟨by rfl, rfl⟩) (by assumption) ?_
  try simp only [Act.put, List.setIfInBounds_toArray, List.set_cons_zero, List.set_cons_succ]
  refine wpAnyH_take (i := 17) (oi := { dst := some 98, op := Go.Op.pick (Go.Operand.tmp 95) (Go.Operand.tmp 97) (Go.Operand.const (Go.Value.bool false)), type := 4, pos := _, after := _, guard := some (10, false) }) (v := undef) rfl (by kernel_rfl) (by kernel_rfl) (by kernel_rfl) (fun _ _ _ h => h) (Or.inr ⟨by rfl, rfl⟩) (by assumption) ?_
  try simp only [Act.put, List.setIfInBounds_toArray, List.set_cons_zero, List.set_cons_succ]
  refine wpAnyH_take (i := 18) (oi := { dst := some 99, op := Go.Op.pick (Go.Operand.tmp 91) (Go.Operand.const (Go.Value.bool true)) (Go.Operand.tmp 98), type := 4, pos := _, after := _, guard := some (2, true) }) (v := ?_) rfl (by kernel_rfl) (by kernel_rfl) (by kernel_rfl) (fun _ _ _ h => h) (Or.inl ⟨by rfl, ?_⟩) (by assumption) ?_
  rotate_left
  · intro w hSw; (try dsimp only at hSw); (first | (go_simp; done) | (go_simp; with_reducible rfl))
  try simp only [Act.put, List.setIfInBounds_toArray, List.set_cons_zero, List.set_cons_succ]
  refine wpAnyH_take (i := 19) (oi := { dst := some 100, op := Go.Op.pick (Go.Operand.tmp 83) (Go.Operand.tmp 99) (Go.Operand.const (Go.Value.bool false)), type := 4, pos := _, after := _, guard := none }) (v := ?_) rfl (by kernel_rfl) (by kernel_rfl) (by kernel_rfl) (fun _ _ _ h => h) (Or.inl ⟨by rfl, ?_⟩) (by assumption) ?_
  rotate_left
  · intro w hSw; (try dsimp only at hSw); (first | (go_simp; done) | (go_simp; with_reducible rfl))
  try simp only [Act.put, List.setIfInBounds_toArray, List.set_cons_zero, List.set_cons_succ]
  refine wpAnyH_take (i := 20) (oi := { dst := some 101, op := Go.Op.move (Go.Operand.tmp 100), type := 4, pos := _, after := _, guard := none }) (v := ?_) rfl (by kernel_rfl) (by kernel_rfl) (by kernel_rfl) (fun _ _ _ h => h) (Or.inl ⟨by rfl, ?_⟩) (by assumption) ?_
  rotate_left
  · intro w hSw; (try dsimp only at hSw); (first | (go_simp; done) | (go_simp; with_reducible rfl))
  try simp only [Act.put, List.setIfInBounds_toArray, List.set_cons_zero, List.set_cons_succ]
  refine wpAnyH_take (i := 21) (oi := { dst := some 102, op := Go.Op.load 24 (Go.Operand.tmp 7), type := 24, pos := _, after := _, guard := some (20, true) }) (v := ?_) rfl (by kernel_rfl) (by kernel_rfl) (by kernel_rfl) (fun _ _ _ h => h) (Or.inl ⟨by rfl, ?_⟩) (by assumption) ?_
  rotate_left
  · intro w hSw; (try dsimp only at hSw); (first | (go_simp; done) | (go_simp; with_reducible rfl))
  try simp only [Act.put, List.setIfInBounds_toArray, List.set_cons_zero, List.set_cons_succ]
  refine wpAnyH_take (i := 22) (oi := { dst := some 103, op := Go.Op.move (Go.Operand.tmp 2), type := 9, pos := _, after := _, guard := some (20, true) }) (v := ?_) rfl (by kernel_rfl) (by kernel_rfl) (by kernel_rfl) (fun _ _ _ h => h) (Or.inl ⟨by rfl, ?_⟩) (by assumption) ?_
  rotate_left
  · intro w hSw; (try dsimp only at hSw); (first | (go_simp; done) | (go_simp; with_reducible rfl))
  try simp only [Act.put, List.setIfInBounds_toArray, List.set_cons_zero, List.set_cons_succ]
  refine wpAnyH_take (i := 24) (oi := { dst := some 105, op := Go.Op.load 24 (Go.Operand.tmp 3), type := 24, pos := _, after := _, guard := some (20, true) }) (v := ?_) rfl (by kernel_rfl) (by kernel_rfl) (by kernel_rfl) (fun _ _ _ h => h) (Or.inl ⟨by rfl, ?_⟩) (by assumption) ?_
  rotate_left
  · intro w hSw; (try dsimp only at hSw); (first | (go_simp; done) | (go_simp; with_reducible rfl))
  try simp only [Act.put, List.setIfInBounds_toArray, List.set_cons_zero, List.set_cons_succ]
  refine wpAnyH_take (i := 25) (oi := { dst := some 106, op := Go.Op.move (Go.Operand.tmp 2), type := 9, pos := _, after := _, guard := some (20, true) }) (v := ?_) rfl (by kernel_rfl) (by kernel_rfl) (by kernel_rfl) (fun _ _ _ h => h) (Or.inl ⟨by rfl, ?_⟩) (by assumption) ?_
  rotate_left
  · intro w hSw; (try dsimp only at hSw); (first | (go_simp; done) | (go_simp; with_reducible rfl))
  try simp only [Act.put, List.setIfInBounds_toArray, List.set_cons_zero, List.set_cons_succ]
  refine wpAnyH_ready (rs := [23]) (by kernel_rfl) (by simp) ?_
  refine AllReadyH.cons (o := { dst := some 104, op := Go.Op.call { callee := Go.Callee.value (Go.Operand.func 23), args := #[Go.Operand.tmp 102, Go.Operand.tmp 103], argTypes := #[24, 9] }, type := 24, pos := _, after := _, guard := some (20, true) }) rfl (fun K hK => ?_) AllReadyH.nil
  go_simp
  (go_at_call 23; refine (XP.out _ (by assumption)).mono ?_; rintro e wr3 ⟨A6, len6, cap6, rfl, hv6, hr3, hc6⟩; have fr3 := hr3.st.cells)
  refine hK.out _ _ fr3 (fun hHeld => ?_)
  clear hK K
  try simp only [Act.put, List.setIfInBounds_toArray, List.set_cons_zero, List.set_cons_succ]
  refine wpAnyH_ready (rs := [26]) (by kernel_rfl) (by simp) ?_
  refine AllReadyH.cons (o := { dst := some 107, op := Go.Op.call { callee := Go.Callee.value (Go.Operand.func 24), args := #[Go.Operand.tmp 105, Go.Operand.tmp 106], argTypes := #[24, 9] }, type := 24, pos := _, after := _, guard := some (20, true) }) rfl (fun K hK => ?_) AllReadyH.nil
  go_simp
  (go_at_call 24; refine (XV.out _ (by assumption)).mono ?_; rintro e wr4 ⟨A7, len7, cap7, rfl, hv7, hr4, hc7⟩; have fr4 := hr4.st.cells)
  refine hK.out _ _ fr4 (fun hHeld => ?_)
  clear hK K
  try simp only [Act.put, List.setIfInBounds_toArray, List.set_cons_zero, List.set_cons_succ]
  refine wpAnyH_ready (rs := [27]) (by kernel_rfl) (by simp) ?_
  refine AllReadyH.cons (o := { dst := some 108, op := Go.Op.call { callee := Go.Callee.value (Go.Operand.func 18), args := #[Go.Operand.tmp 104, Go.Operand.tmp 107], argTypes := #[24, 24] }, type := 4, pos := _, after := _, guard := some (20, true) }) rfl (fun K hK => ?_) AllReadyH.nil
  go_simp
  (go_at_call 18; refine (XS.out _ A6 A7 len6 len7 cap6 cap7 (hv6.chg hc7) hv7).mono ?_; rintro e wr5 ⟨rfl, hc8⟩; have hr5 := hr4.call hc8; have fr5 := hr5.st.cells)
  refine hK.out _ _ fr5 (fun hHeld => ?_)
  clear hK K
  try simp only [Act.put, List.setIfInBounds_toArray, List.set_cons_zero, List.set_cons_succ]
  refine wpAnyH_take (i := 28) (oi := { dst := some 109, op := Go.Op.pick (Go.Operand.tmp 101) (Go.Operand.tmp 108) (Go.Operand.const (Go.Value.bool false)), type := 4, pos := _, after := _, guard := none }) (v := ?_) rfl (by kernel_rfl) (by kernel_rfl) (by kernel_rfl) (fun _ _ _ h => h) (Or.inl ⟨by rfl, ?_⟩) (by assumption) ?_
  rotate_left
  · intro w hSw; (try dsimp only at hSw); (first | (go_simp; done) | (go_simp; with_reducible rfl))
  try simp only [Act.put, List.setIfInBounds_toArray, List.set_cons_zero, List.set_cons_succ]
  refine wpAnyH_take (i := 29) (oi := { dst := some 110, op := Go.Op.move (Go.Operand.tmp 109), type := 4, pos := _, after := _, guard := none }) (v := ?_) rfl (by kernel_rfl) (by kernel_rfl) (by kernel_rfl) (fun _ _ _ h => h) (Or.inl ⟨by rfl, ?_⟩) (by assumption) ?_
  rotate_left
  · intro w hSw; (try dsimp only at hSw); (first | (go_simp; done) | (go_simp; with_reducible rfl))
  try simp only [Act.put, List.setIfInBounds_toArray, List.set_cons_zero, List.set_cons_succ]
  refine wpAnyH_ready (rs := [30]) (by kernel_rfl) (by simp) ?_
  refine AllReadyH.cons (o := { dst := some 111, op := Go.Op.call { callee := Go.Callee.value (Go.Operand.func 14), args := #[], argTypes := #[] }, type := 4, pos := _, after := _, guard := some (29, true) }) rfl (fun K hK => ?_) AllReadyH.nil
  go_simp
  (go_at_call 14; refine (XW.out _ (by assumption)).mono ?_; rintro e wr6 ⟨rfl, hr6⟩; have fr6 := hr6.st.cells)
  refine hK.out _ _ fr6 (fun hHeld => ?_)
  clear hK K
  try simp only [Act.put, List.setIfInBounds_toArray, List.set_cons_zero, List.set_cons_succ]
  refine wpAnyH_take (i := 31) (oi := { dst := some 112, op := Go.Op.pick (Go.Operand.tmp 110) (Go.Operand.tmp 111) (Go.Operand.const (Go.Value.bool false)), type := 4, pos := _, after := _, guard := none }) (v := ?_) rfl (by kernel_rfl) (by kernel_rfl) (by kernel_rfl) (fun _ _ _ h => h) (Or.inl ⟨by rfl, ?_⟩) (by assumption) ?_
  rotate_left
  · intro w hSw; (try dsimp only at hSw); (first | (go_simp; done) | (go_simp; with_reducible rfl))
  try simp only [Act.put, List.setIfInBounds_toArray, List.set_cons_zero, List.set_cons_succ]
  refine wpAnyH_take (i := 32) (oi := { dst := some 6, op := Go.Op.assign (Go.Operand.tmp 112), type := 4, pos := _, after := _, guard := none }) (v := ?_) rfl (by kernel_rfl) (by kernel_rfl) (by kernel_rfl) (fun _ _ _ h => h) (Or.inl ⟨by rfl, ?_⟩) (by assumption) ?_
  rotate_left
  · intro w hSw; (try dsimp only at hSw); (first | (go_simp; done) | (go_simp; with_reducible rfl))
  try simp only [Act.put, List.setIfInBounds_toArray, List.set_cons_zero, List.set_cons_succ]
  refine wpAnyH_done (by kernel_rfl) ?_ _
  go_wp2_with fail
  go_ret
  exact ⟨rfl, hr6.st.st.chg⟩
set_option maxHeartbeats 8000000 in
set_option maxRecDepth 100000 in
theorem puts_flat (H : ValOk) (t t' : VT) (c c' : VC) (key : ByteArray) (w : World) (hv : ValIs w t c) (hv' : ValIs w t' c') (hkm : key.size ≤ maxLen) (hsm1 : 0 ≤ fewT t 300) (hsm2 : 0 ≤ fewT t' 300) (h3 : key.size ≤ 300) (h4 : t.kind = 7) (h5 : t.row.length % 2 = 0) (h6 : checkT t = 0) (h7 : checkT t' = 0) (h8 : textO key) (h9 : ¬ 64 ≤ depthT t') :
    Calls Try.prog 7 #[c.val, c'.val, .string key] w fun e w' => e = .returned (.bool true) ∧ Chg NoS w w' := by
  obtain ⟨tk, tn, ts, l⟩ := t
  obtain ⟨h1, h2, h3, _, hll, _⟩ := hv.inv
  subst h1 h2 h3
  change c.k = 7 at h4
  change l.length % 2 = 0 at h5
  have K1 := fun (W : World) (h : Chg NoS w W) => small_any _ c W (hv.chg h)
  have K2 := fun (W : World) (h : Chg NoS w W) => small_any t' c' W (hv'.chg h)
  obtain ⟨k, n, s, A, len, cap⟩ := c
  obtain ⟨k', n', s', A', len', cap'⟩ := c'
  simp only [] at hv hll hsm1 hsm2 h4 h5 h6
  subst h4
  obtain ⟨cs, hcs⟩ : ∃ cs : Array Value, cs = #[.int .i64 7, .int .i64 n, .string s, .slice A len cap] := ⟨_, rfl⟩
  obtain ⟨cs2, hcs2⟩ : ∃ cs : Array Value, cs = #[.int .i64 k', .int .i64 n', .string s', .slice A' len' cap'] := ⟨_, rfl⟩
  obtain ⟨W, hW⟩ : ∃ W, W = (w.alloc (.cells #[.int .i64 7, .int .i64 n, .string s, .slice A len cap] 24)).alloc (.cells #[.int .i64 k', .int .i64 n', .string s', .slice A' len' cap'] 24) := ⟨_, rfl⟩
  obtain ⟨g, hg⟩ : ∃ g, g = w.heap.size := ⟨_, rfl⟩
  obtain ⟨g2, hg2⟩ : ∃ g, g = w.heap.size + 1 := ⟨_, rfl⟩
  have hs1 : (w.alloc (.cells #[.int .i64 7, .int .i64 n, .string s, .slice A len cap] 24)).heap.size = w.heap.size + 1 := by simp
  have hst : VSt2 w g g2 cs cs2 W := ⟨by rw [hcs, hW, hg]; exact (Blk.new w _ _).alloc _, by rw [hcs2, hW, hg2, ← hs1]; exact Blk.new _ _ _, by rw [hW]; exact ((Chg.refl NoS w).alloc _).alloc _⟩
  have KW := keepf (VSt2.of_ (w := w) (g := g) (g2 := g2) (cs := cs) (cs2 := cs2) (fun W _ => H.works W))
  have hsz1 := small_siz hsm1
  have hsz2 := small_siz hsm2
  rw [sizT_mk] at hsz1
  rw [show decide (0 ≤ fewT (.mk 7 n s l) 300) = true from by simpa using hsm1] at K1
  have KS1 := keepf (VSt2.of_ (w := w) (g := g) (g2 := g2) (cs := cs) (cs2 := cs2) K1)
  rw [show decide (0 ≤ fewT t' 300) = true from by simpa using hsm2] at K2
  have KS2 := keepf (VSt2.of_ (w := w) (g := g) (g2 := g2) (cs := cs) (cs2 := cs2) K2)
  have d1 : decide ((300 : Int) < key.size) = false := by simp; omega
  obtain ⟨e1, e2⟩ := rem2 len 0 (by rw [← hll]; exact h5)
  have hput := put_7 (n := n) (s := s) (key := key) (x := t') (l := l)
  have hgt := put_get (key := key) (x := t') h5
  have hsp := sizL_put key t' l
  obtain ⟨lp, hlp⟩ : ∃ x, putL key t' l = x := ⟨_, rfl⟩
  rw [hlp] at hput hgt hsp
  have P1 := fun (W : World) (h : Chg NoS w W) => H.put ⟨7, n, s, A, len, cap⟩ ⟨k', n', s', A', len', cap'⟩ l t' key W (hv.chg h) (hv'.chg h) (by omega) (by omega) hkm
  simp only [] at P1
  rw [hput] at P1
  have KP := keepf (fun (W : World) (h : VSt2 w g g2 cs cs2 W) => dict_to (fun V hc => h.call hc) (P1 W h.chg))
  have GP := fun (W : World) (A3 : Option Addr) (len3 cap3 : Nat) (h : ValIs W (.mk 7 n s lp) ⟨7, n, s, A3, len3, cap3⟩) => H.get ⟨7, n, s, A3, len3, cap3⟩ lp key W h (by omega) hkm
  simp only [] at GP
  rw [hgt] at GP
  have SP := fun (W : World) (k4 n4 : Int) (s4 : ByteArray) (A4 : Option Addr) (len4 cap4 : Nat) (h : ValIs W t' ⟨k4, n4, s4, A4, len4, cap4⟩) (h' : Chg NoS w W) => rsame11_any t' t' ⟨k4, n4, s4, A4, len4, cap4⟩ ⟨k', n', s', A', len', cap'⟩ W h (hv'.chg h')
  rw [cmpT_self] at SP
  obtain ⟨hok, hpc⟩ := put_check (key := key) h6 h7 h8
  rw [hlp] at hpc
  obtain ⟨l2, u, hdr, hs2, hg2t, hdv⟩ := drop_put (n := n) (s := s) (key := key) (x := t') h5 hok
  rw [hlp] at hdr
  obtain ⟨D, hD⟩ : ∃ D, depthT t' = D := ⟨_, rfl⟩
  rw [hD] at hpc h9
  have f1 : decide ((64 : Int) ≤ (D : Int)) = false := by simp; omega
  have f2 : decide ((D : Int) < 64) = true := by simp; omega
  rw [if_neg h9] at hpc
  have z1 := keepf (show sizT (.mk 7 n s l) ≤ 1000000000 ∧ sizT t' ≤ 1000000000 ∧ sizL lp ≤ 1000000 ∧ sizT (.mk 7 n s lp) ≤ 1000000 ∧ sizL l2 ≤ 1000000 ∧ sizL l ≤ 1000000000 from by rw [sizT_mk, sizT_mk]; omega)
  have HH := keepf H
  have HV := keepf hv
  have HV' := keepf hv'
  have HF := keepf (And.intro h6 (And.intro h7 (And.intro hpc (And.intro hdr (And.intro hdv (And.intro hg2t hD))))))
  have KT := keepf (fun (W : World) => rtext11_any key W hkm)
  rw [show decide (textO key) = true from by simpa using h8] at KT
  unfold VC.val at KS1 KS2 KP SP ⊢
  simp only [] at KS1 KS2 KP SP ⊢
  go_enter Try.func7, Try.ntmps7
  go_upto_region 1 with fail
  rw [← hW, ← hg2, ← hg]
  clear hW hg hg2 hs1
  subst hcs hcs2
  obtain ⟨p0, p1, p2, p3, q0, q1, q2, q3⟩ := hst.cells
  go_upto_region 3 with first
    | (go_at_call 9; (with_reducible refine (KS1.out _ (by assumption)).mono ?_); rintro e wq ⟨rfl, hq⟩; obtain ⟨_, _, _, _, _, _, _, _⟩ := hq.cells)
    | (go_at_call 9; (with_reducible refine (KS2.out _ (by assumption)).mono ?_); rintro e wq ⟨rfl, hq⟩; obtain ⟨_, _, _, _, _, _, _, _⟩ := hq.cells)
  go_upto_region 4 with (go_at_call 21; (with_reducible refine (KP.out _ (by assumption)).mono ?_); rintro e wa ⟨A3, len3, cap3, rfl, hv3, hsa, hca⟩)
  have ha2 := hsa.alloc (.cells #[.int .i64 7, .int .i64 n, .string s, .slice A3 len3 cap3] 24)
  have hba := Blk.new wa 24 #[.int .i64 7, .int .i64 n, .string s, .slice A3 len3 cap3]
  have hva := hv3.chg ((Chg.refl NoS wa).alloc (.cells #[.int .i64 7, .int .i64 n, .string s, .slice A3 len3 cap3] 24))
  obtain ⟨Wa, hWa⟩ : ∃ W, W = wa.alloc (.cells #[.int .i64 7, .int .i64 n, .string s, .slice A3 len3 cap3] 24) := ⟨_, rfl⟩
  obtain ⟨g3, hg3⟩ : ∃ g, g = wa.heap.size := ⟨_, rfl⟩
  rw [← hWa] at ha2 hba hva
  rw [← hg3] at hba
  rw [← hWa, ← hg3]
  clear hWa hg3 hv3 hsa
  have p3 := hba.cell 0
  have p4 := hba.cell 1
  have p5 := hba.cell 2
  have p6 := hba.cell 3
  simp at p3 p4 p5 p6
  obtain ⟨_, _, _, _, _, _, _, _⟩ := ha2.cells
  have KG := keepf (fun W (h : Chg NoS Wa W) => GP W A3 len3 cap3 (hva.chg h))
  unfold VC.val at KG
  simp only [] at KG
  clear GP
  go_upto_region 5 with (go_at_call 19; (with_reducible refine (KG.out _ (Chg.refl NoS _)).mono ?_); rintro e wb ⟨⟨k4, n4, s4, A4, len4, cap4⟩, rfl, hv4, hcb⟩; unfold VC.val)
  obtain ⟨Wb, hWb⟩ : ∃ W, W = wb.alloc (.cells #[.int .i64 k4, .int .i64 n4, .string s4, .slice A4 len4 cap4] 24) := ⟨_, rfl⟩
  obtain ⟨g4, hg4⟩ : ∃ g, g = wb.heap.size := ⟨_, rfl⟩
  have st4 : VSt4 w g g2 g3 g4 #[.int .i64 7, .int .i64 n, .string s, .slice A len cap] #[.int .i64 k', .int .i64 n', .string s', .slice A' len' cap'] #[.int .i64 7, .int .i64 n, .string s, .slice A3 len3 cap3] #[.int .i64 k4, .int .i64 n4, .string s4, .slice A4 len4 cap4] Wb := ⟨by rw [hWb]; exact (ha2.call hcb).alloc _, by rw [hWb]; exact (hba.chg hcb (fun e => e)).alloc _, by rw [hWb, hg4]; exact Blk.new wb _ _⟩
  have hvp : ValIs Wb (.mk 7 n s lp) ⟨7, n, s, A3, len3, cap3⟩ := by rw [hWb]; exact (hva.chg hcb).chg ((Chg.refl NoS wb).alloc _)
  have hB2 : ValIs Wb t' ⟨k4, n4, s4, A4, len4, cap4⟩ := by rw [hWb]; exact hv4.chg ((Chg.refl NoS wb).alloc _)
  rw [← hWb, ← hg4]
  clear hWb hg4 hcb hba hva hv4 KG ha2
  obtain ⟨_, _, _, _, _, _, _, _, _, _, _, _, _, _, _, _⟩ := st4.cells
  have KS := keepf (SP Wb k4 n4 s4 A4 len4 cap4 hB2 st4.st.chg)
  go_upto_region 7 with (go_at_call 18; refine (KS.out).mono ?_; rintro e wc ⟨rfl, hcc⟩)
  have st5 := st4.call hcc
  have hvp := hvp.chg hcc
  clear st4 KS hB2
  obtain ⟨_, _, _, _, _, _, _, _, _, _, _, _, _, _, _, _⟩ := st5.cells
  have sp : VStP w g g2 g3 g4 #[.int .i64 7, .int .i64 n, .string s, .slice A len cap] #[.int .i64 k', .int .i64 n', .string s', .slice A' len' cap'] #[.int .i64 7, .int .i64 n, .string s, .slice A3 len3 cap3] #[.int .i64 k4, .int .i64 n4, .string s4, .slice A4 len4 cap4] (.mk 7 n s lp) ⟨7, n, s, A3, len3, cap3⟩ wc := ⟨st5, hvp⟩
  have XC1 := keepf (VStP.of_ (w := w) (g := g) (g2 := g2) (g3 := g3) (g4 := g4) (cs := #[.int .i64 7, .int .i64 n, .string s, .slice A len cap]) (cs2 := #[.int .i64 k', .int .i64 n', .string s', .slice A' len' cap']) (cs3 := #[.int .i64 7, .int .i64 n, .string s, .slice A3 len3 cap3]) (cs4 := #[.int .i64 k4, .int .i64 n4, .string s4, .slice A4 len4 cap4]) (t := .mk 7 n s lp) (c := ⟨7, n, s, A3, len3, cap3⟩) (fun W h p => rcheck11_any _ ⟨7, n, s, A, len, cap⟩ W (HV.out.chg h) z1.out.1))
  rw [HF.out.1] at XC1
  have XC2 := keepf (VStP.of_ (w := w) (g := g) (g2 := g2) (g3 := g3) (g4 := g4) (cs := #[.int .i64 7, .int .i64 n, .string s, .slice A len cap]) (cs2 := #[.int .i64 k', .int .i64 n', .string s', .slice A' len' cap']) (cs3 := #[.int .i64 7, .int .i64 n, .string s, .slice A3 len3 cap3]) (cs4 := #[.int .i64 k4, .int .i64 n4, .string s4, .slice A4 len4 cap4]) (t := .mk 7 n s lp) (c := ⟨7, n, s, A3, len3, cap3⟩) (fun W h p => rcheck11_any t' _ W (HV'.out.chg h) z1.out.2.1))
  rw [HF.out.2.1] at XC2
  have XW := keepf (VStP.of_ (w := w) (g := g) (g2 := g2) (g3 := g3) (g4 := g4) (cs := #[.int .i64 7, .int .i64 n, .string s, .slice A len cap]) (cs2 := #[.int .i64 k', .int .i64 n', .string s', .slice A' len' cap']) (cs3 := #[.int .i64 7, .int .i64 n, .string s, .slice A3 len3 cap3]) (cs4 := #[.int .i64 k4, .int .i64 n4, .string s4, .slice A4 len4 cap4]) (t := .mk 7 n s lp) (c := ⟨7, n, s, A3, len3, cap3⟩) (fun W h p => HH.out.works W))
  have XE := keepf (VStP.of_ (w := w) (g := g) (g2 := g2) (g3 := g3) (g4 := g4) (cs := #[.int .i64 7, .int .i64 n, .string s, .slice A len cap]) (cs2 := #[.int .i64 k', .int .i64 n', .string s', .slice A' len' cap']) (cs3 := #[.int .i64 7, .int .i64 n, .string s, .slice A3 len3 cap3]) (cs4 := #[.int .i64 k4, .int .i64 n4, .string s4, .slice A4 len4 cap4]) (t := .mk 7 n s lp) (c := ⟨7, n, s, A3, len3, cap3⟩) (fun W h p => HH.out.check _ ⟨7, n, s, A3, len3, cap3⟩ W p z1.out.2.2.2.1))
  rw [HF.out.2.2.1] at XE
  have XD := keepf (VStP.of_ (w := w) (g := g) (g2 := g2) (g3 := g3) (g4 := g4) (cs := #[.int .i64 7, .int .i64 n, .string s, .slice A len cap]) (cs2 := #[.int .i64 k', .int .i64 n', .string s', .slice A' len' cap']) (cs3 := #[.int .i64 7, .int .i64 n, .string s, .slice A3 len3 cap3]) (cs4 := #[.int .i64 k4, .int .i64 n4, .string s4, .slice A4 len4 cap4]) (t := .mk 7 n s lp) (c := ⟨7, n, s, A3, len3, cap3⟩) (fun W h p => rdepth_any t' _ W (HV'.out.chg h) z1.out.2.1))
  rw [HF.out.2.2.2.2.2.2] at XD
  have DP := fun (W : World) (p : ValIs W (.mk 7 n s lp) ⟨7, n, s, A3, len3, cap3⟩) => HH.out.drop ⟨7, n, s, A3, len3, cap3⟩ lp key W p z1.out.2.2.1 hkm
  have DV := fun (W : World) (h : Chg NoS w W) => rdrop_any ⟨7, n, s, A, len, cap⟩ l key W (HV.out.chg h) z1.out.2.2.2.2.2
  simp only [] at DP DV
  rw [HF.out.2.2.2.1] at DP
  rw [HF.out.2.2.2.2.1] at DV
  have XP := keepf (VStP.tree (w := w) (g := g) (g2 := g2) (g3 := g3) (g4 := g4) (cs := #[.int .i64 7, .int .i64 n, .string s, .slice A len cap]) (cs2 := #[.int .i64 k', .int .i64 n', .string s', .slice A' len' cap']) (cs3 := #[.int .i64 7, .int .i64 n, .string s, .slice A3 len3 cap3]) (cs4 := #[.int .i64 k4, .int .i64 n4, .string s4, .slice A4 len4 cap4]) (t := .mk 7 n s lp) (c := ⟨7, n, s, A3, len3, cap3⟩) (fun W h p => DP W p))
  have XV := keepf (VStP.tree (w := w) (g := g) (g2 := g2) (g3 := g3) (g4 := g4) (cs := #[.int .i64 7, .int .i64 n, .string s, .slice A len cap]) (cs2 := #[.int .i64 k', .int .i64 n', .string s', .slice A' len' cap']) (cs3 := #[.int .i64 7, .int .i64 n, .string s, .slice A3 len3 cap3]) (cs4 := #[.int .i64 k4, .int .i64 n4, .string s4, .slice A4 len4 cap4]) (t := .mk 7 n s lp) (c := ⟨7, n, s, A3, len3, cap3⟩) (fun W h p => DV W h))
  have XG0 := fun (W : World) (A5 : Option Addr) (len5 cap5 : Nat) (p : ValIs W (.mk 7 n s l2) ⟨7, n, s, A5, len5, cap5⟩) => HH.out.get ⟨7, n, s, A5, len5, cap5⟩ l2 key W p z1.out.2.2.2.2.1 hkm
  simp only [] at XG0
  rw [HF.out.2.2.2.2.2.1] at XG0
  have XG := keepf XG0
  have XS0 := fun (W : World) (A6 A7 : Option Addr) (len6 len7 cap6 cap7 : Nat) (h6 : ValIs W (.mk 7 n s l2) ⟨7, n, s, A6, len6, cap6⟩) (h7 : ValIs W (.mk 7 n s l2) ⟨7, n, s, A7, len7, cap7⟩) => rsame11_any _ _ ⟨7, n, s, A6, len6, cap6⟩ ⟨7, n, s, A7, len7, cap7⟩ W h6 h7
  rw [cmpT_self] at XS0
  have XS := keepf XS0
  unfold VC.val at XC1 XC2 XE XD XP XV XG XS
  simp only [] at XC1 XC2 XE XD XP XV XG XS
  clear DP DV XG0 XS0 hvp hv hv' H hok hpc hdr hdv hg2t h6 h7 h8 hD hs2 hgt hput KP KS1 KS2 KW SP P1 K1 K2 hsp
  go_upto_region 9 with first
    | (go_at_call 11; (with_reducible refine (XC1.out _ (by assumption)).mono ?_); rintro e wq ⟨rfl, hq⟩; obtain ⟨_, _, _, _, _, _, _, _, _, _, _, _, _, _, _, _⟩ := hq.st.cells)
    | (go_at_call 11; (with_reducible refine (XC2.out _ (by assumption)).mono ?_); rintro e wq ⟨rfl, hq⟩; obtain ⟨_, _, _, _, _, _, _, _, _, _, _, _, _, _, _, _⟩ := hq.st.cells)
    | (go_at_call 25; refine (KT.out _).mono ?_; rintro e wq ⟨rfl, rfl⟩)
  go_upto_region 10 with first
    | (go_at_call 23; (with_reducible refine (XP.out _ (by assumption)).mono ?_); rintro e wq ⟨A5, len5, cap5, rfl, hv5, hq, hc5⟩; obtain ⟨_, _, _, _, _, _, _, _, _, _, _, _, _, _, _, _⟩ := hq.st.cells)
    | (go_at_call 19; (with_reducible refine (XG.out _ A5 len5 cap5 (by assumption)).mono ?_); rintro e wd ⟨⟨k6, n6, s6, A6, len6, cap6⟩, rfl, hv6, hc6⟩; unfold VC.val)
  have st6 := (hq.call hc6).call ((Chg.refl NoS wd).alloc (.cells #[.int .i64 k6, .int .i64 n6, .string s6, .slice A6 len6 cap6] 24))
  clear hv5 hv6 hq hc5
  obtain ⟨Wd, hWd⟩ : ∃ W, W = wd.alloc (.cells #[.int .i64 k6, .int .i64 n6, .string s6, .slice A6 len6 cap6] 24) := ⟨_, rfl⟩
  rw [← hWd] at st6 ⊢
  clear hWd hc6
  obtain ⟨_, _, _, _, _, _, _, _, _, _, _, _, _, _, _, _⟩ := st6.st.cells
  go_upto_region 11 with (go_at_call 10; (with_reducible refine (XE.out _ (by assumption)).mono ?_); rintro e we ⟨rfl, hq⟩)
  have hq2 := hq.call (Chg.refl NoS we).drew
  have c0 := hq.st.cells
  clear XE XC1 XC2 KT XG hq
  refine wp_region_held_drew (S := fun w' => w'.cell? ⟨g, 0, none⟩ = some (.int .i64 7) ∧ w'.cell? ⟨g, 1, none⟩ = some (.int .i64 n) ∧ w'.cell? ⟨g, 2, none⟩ = some (.string s) ∧ w'.cell? ⟨g, 3, none⟩ = some (.slice A len cap) ∧ w'.cell? ⟨g2, 0, none⟩ = some (.int .i64 k') ∧ w'.cell? ⟨g2, 1, none⟩ = some (.int .i64 n') ∧ w'.cell? ⟨g2, 2, none⟩ = some (.string s') ∧ w'.cell? ⟨g2, 3, none⟩ = some (.slice A' len' cap') ∧ w'.cell? ⟨g3, 0, none⟩ = some (.int .i64 7) ∧ w'.cell? ⟨g3, 1, none⟩ = some (.int .i64 n) ∧ w'.cell? ⟨g3, 2, none⟩ = some (.string s) ∧ w'.cell? ⟨g3, 3, none⟩ = some (.slice A3 len3 cap3) ∧ w'.cell? ⟨g4, 0, none⟩ = some (.int .i64 k4) ∧ w'.cell? ⟨g4, 1, none⟩ = some (.int .i64 n4) ∧ w'.cell? ⟨g4, 2, none⟩ = some (.string s4) ∧ w'.cell? ⟨g4, 3, none⟩ = some (.slice A4 len4 cap4)) (by kernel_rfl) c0 (fun hHeld => ?_)
  clear c0
  refine wpAnyH_take (i := 0) (oi := { dst := some 81, op := Go.Op.move (Go.Operand.tmp 11), type := 4, pos := _, after := _, guard := none }) (v := ?_) rfl (by kernel_rfl) (by kernel_rfl) (by kernel_rfl) (fun _ _ _ h => h) (Or.inl ⟨by rfl, ?_⟩) (by assumption) ?_
  rotate_left
  · intro w hSw; (try dsimp only at hSw); (first | (go_simp; done) | (go_simp; with_reducible rfl))
  try simp only [Act.put, List.setIfInBounds_toArray, List.set_cons_zero, List.set_cons_succ]
  refine wpAnyH_take (i := 1) (oi := { dst := some 82, op := Go.Op.unOp Go.UnOp.not 4 (Go.Operand.tmp 81), type := 4, pos := _, after := _, guard := none }) (v := ?_) rfl (by kernel_rfl) (by kernel_rfl) (by kernel_rfl) (fun _ _ _ h => h) (Or.inl ⟨by rfl, ?_⟩) (by assumption) ?_
  rotate_left
  · intro w hSw; (try dsimp only at hSw); (first | (go_simp; done) | (go_simp; with_reducible rfl))
  try simp only [Act.put, List.setIfInBounds_toArray, List.set_cons_zero, List.set_cons_succ]
  refine wpAnyH_take (i := 2) (oi := { dst := some 83, op := Go.Op.move (Go.Operand.tmp 82), type := 4, pos := _, after := _, guard := none }) (v := ?_) rfl (by kernel_rfl) (by kernel_rfl) (by kernel_rfl) (fun _ _ _ h => h) (Or.inl ⟨by rfl, ?_⟩) (by assumption) ?_
  rotate_left
  · intro w hSw; (try dsimp only at hSw); (first | (go_simp; done) | (go_simp; with_reducible rfl))
  try simp only [Act.put, List.setIfInBounds_toArray, List.set_cons_zero, List.set_cons_succ]
  refine wpAnyH_take (i := 3) (oi := { dst := some 84, op := Go.Op.load 24 (Go.Operand.tmp 4), type := 24, pos := _, after := _, guard := some (2, true) }) (v := ?_) rfl (by kernel_rfl) (by kernel_rfl) (by kernel_rfl) (fun _ _ _ h => h) (Or.inl ⟨by rfl, ?_⟩) (by assumption) ?_
  rotate_left
  · intro w hSw; (try dsimp only at hSw); (first | (go_simp; done) | (go_simp; with_reducible rfl))
  try simp only [Act.put, List.setIfInBounds_toArray, List.set_cons_zero, List.set_cons_succ]
  refine wpAnyH_ready (rs := [4]) (by kernel_rfl) (by simp) ?_
  refine AllReadyH.cons (o := { dst := some 85, op := Go.Op.call { callee := Go.Callee.value (Go.Operand.func 13), args := #[Go.Operand.tmp 84], argTypes := #[24] }, type := 3, pos := _, after := _, guard := some (2, true) }) rfl (fun K hK => ?_) AllReadyH.nil
  go_simp
  (go_at_call 13; refine (XD.out _ (by assumption)).mono ?_; rintro e wr1 ⟨rfl, hr1⟩; have fr1 := hr1.st.cells)
  refine hK.out _ _ fr1 (fun hHeld => ?_)
  clear hK K
  try simp only [Act.put, List.setIfInBounds_toArray, List.set_cons_zero, List.set_cons_succ]
  refine wpAnyH_take (i := 5) (oi := { dst := some 86, op := Go.Op.binOp Go.BinOp.geq 3 (Go.Operand.tmp 85) (Go.Operand.const (Go.Value.int Go.IntKind.i64 64)) 3, type := 4, pos := _, after := _, guard := some (2, true) }) (v := ?_) rfl (by kernel_rfl) (by kernel_rfl) (by kernel_rfl) (fun _ _ _ h => h) (Or.inl ⟨by rfl, ?_⟩) (by assumption) ?_
  rotate_left
  · intro w hSw; (try dsimp only at hSw); (first | (go_simp; done) | (go_simp; with_reducible rfl))
  try simp only [Act.put, List.setIfInBounds_toArray, List.set_cons_zero, List.set_cons_succ]
  refine wpAnyH_take (i := 6) (oi := { dst := some 87, op := Go.Op.move (Go.Operand.tmp 86), type := 4, pos := _, after := _, guard := some (2, true) }) (v := ?_) rfl (by kernel_rfl) (by kernel_rfl) (by kernel_rfl) (fun _ _ _ h => h) (Or.inl ⟨by rfl, ?_⟩) (by assumption) ?_
  rotate_left
  · intro w hSw; (try dsimp only at hSw); (first | (go_simp; done) | (go_simp; with_reducible rfl))
  try simp only [Act.put, List.setIfInBounds_toArray, List.set_cons_zero, List.set_cons_succ]
  refine wpAnyH_take (i := 7) (oi := { dst := some 88, op := Go.Op.move (Go.Operand.tmp 12), type := 26, pos := _, after := _, guard := some (6, true) }) (v := undef) rfl (by kernel_rfl) (by kernel_rfl) (by kernel_rfl) (fun _ _ _ h => h) (Or.inr ⟨by rfl, rfl⟩) (by assumption) ?_
  try simp only [Act.put, List.setIfInBounds_toArray, List.set_cons_zero, List.set_cons_succ]
  refine wpAnyH_take (i := 8) (oi := { dst := some 89, op := Go.Op.binOp Go.BinOp.eql 26 (Go.Operand.tmp 88) (Go.Operand.const (Go.Value.int Go.IntKind.i64 15)) 26, type := 4, pos := _, after := _, guard := some (6, true) }) (v := undef) rfl (by kernel_rfl) (by kernel_rfl) (by kernel_rfl) (fun _ _ _ h => h) (Or.inr ⟨by rfl, rfl⟩) (by assumption) ?_
  try simp only [Act.put, List.setIfInBounds_toArray, List.set_cons_zero, List.set_cons_succ]
  refine wpAnyH_take (i := 9) (oi := { dst := some 90, op := Go.Op.pick (Go.Operand.tmp 87) (Go.Operand.tmp 89) (Go.Operand.const (Go.Value.bool false)), type := 4, pos := _, after := _, guard := some (2, true) }) (v := ?_) rfl (by kernel_rfl) (by kernel_rfl) (by kernel_rfl) (fun _ _ _ h => h) (Or.inl ⟨by rfl, ?_⟩) (by assumption) ?_
  rotate_left
  · intro w hSw; (try dsimp only at hSw); (first | (go_simp; done) | (go_simp; with_reducible rfl))
  try simp only [Act.put, List.setIfInBounds_toArray, List.set_cons_zero, List.set_cons_succ]
  refine wpAnyH_take (i := 10) (oi := { dst := some 91, op := Go.Op.move (Go.Operand.tmp 90), type := 4, pos := _, after := _, guard := some (2, true) }) (v := ?_) rfl (by kernel_rfl) (by kernel_rfl) (by kernel_rfl) (fun _ _ _ h => h) (Or.inl ⟨by rfl, ?_⟩) (by assumption) ?_
  rotate_left
  · intro w hSw; (try dsimp only at hSw); (first | (go_simp; done) | (go_simp; with_reducible rfl))
  try simp only [Act.put, List.setIfInBounds_toArray, List.set_cons_zero, List.set_cons_succ]
  refine wpAnyH_take (i := 11) (oi := { dst := some 92, op := Go.Op.load 24 (Go.Operand.tmp 4), type := 24, pos := _, after := _, guard := some (10, false) }) (v := ?_) rfl (by kernel_rfl) (by kernel_rfl) (by kernel_rfl) (fun _ _ _ h => h) (Or.inl ⟨by rfl, ?_⟩) (by assumption) ?_
  rotate_left
  · intro w hSw; (try dsimp only at hSw); (first | (go_simp; done) | (go_simp; with_reducible rfl))
  try simp only [Act.put, List.setIfInBounds_toArray, List.set_cons_zero, List.set_cons_succ]
  refine wpAnyH_ready (rs := [12]) (by kernel_rfl) (by simp) ?_
  refine AllReadyH.cons (o := { dst := some 93, op := Go.Op.call { callee := Go.Callee.value (Go.Operand.func 13), args := #[Go.Operand.tmp 92], argTypes := #[24] }, type := 3, pos := _, after := _, guard := some (10, false) }) rfl (fun K hK => ?_) AllReadyH.nil
  go_simp
  (go_at_call 13; refine (XD.out _ (by assumption)).mono ?_; rintro e wr2 ⟨rfl, hr2⟩; have fr2 := hr2.st.cells)
  refine hK.out _ _ fr2 (fun hHeld => ?_)
  clear hK K
  try simp only [Act.put, List.setIfInBounds_toArray, List.set_cons_zero, List.set_cons_succ]
  refine wpAnyH_take (i := 13) (oi := { dst := some 94, op := Go.Op.binOp Go.BinOp.lss 3 (Go.Operand.tmp 93) (Go.Operand.const (Go.Value.int Go.IntKind.i64 64)) 3, type := 4, pos := _, after := _, guard := some (10, false) }) (v := ?_) rfl (by kernel_rfl) (by kernel_rfl) (by kernel_rfl) (fun _ _ _ h => h) (Or.inl ⟨by rfl, ?_⟩) (by assumption) ?_
  rotate_left
  · intro w hSw; (try dsimp only at hSw); (first | (go_simp; done) | (go_simp; with_reducible rfl))
  try simp only [Act.put, List.setIfInBounds_toArray, List.set_cons_zero, List.set_cons_succ]
  refine wpAnyH_take (i := 14) (oi := { dst := some 95, op := Go.Op.move (Go.Operand.tmp 94), type := 4, pos := _, after := _, guard := some (10, false) }) (v := ?_) rfl (by kernel_rfl) (by kernel_rfl) (by kernel_rfl) (fun _ _ _ h => h) (Or.inl ⟨by rfl, ?_⟩) (by assumption) ?_
  rotate_left
  · intro w hSw; (try dsimp only at hSw); (first | (go_simp; done) | (go_simp; with_reducible rfl))
  try simp only [Act.put, List.setIfInBounds_toArray, List.set_cons_zero, List.set_cons_succ]
  refine wpAnyH_take (i := 15) (oi := { dst := some 96, op := Go.Op.move (Go.Operand.tmp 12), type := 26, pos := _, after := _, guard := some (14, true) }) (v := ?_) rfl (by kernel_rfl) (by kernel_rfl) (by kernel_rfl) (fun _ _ _ h => h) (Or.inl ⟨by rfl, ?_⟩) (by assumption) ?_
  rotate_left
  · intro w hSw; (try dsimp only at hSw); (first | (go_simp; done) | (go_simp; with_reducible rfl))
  try simp only [Act.put, List.setIfInBounds_toArray, List.set_cons_zero, List.set_cons_succ]
  refine wpAnyH_take (i := 16) (oi := { dst := some 97, op := Go.Op.binOp Go.BinOp.eql 26 (Go.Operand.tmp 96) (Go.Operand.const (Go.Value.int Go.IntKind.i64 0)) 26, type := 4, pos := _, after := _, guard := some (14, true) }) (v := ?_) rfl (by kernel_rfl) (by kernel_rfl) (by kernel_rfl) (fun _ _ _ h => h) (Or.inl ⟨by rfl, ?_⟩) (by assumption) ?_
  rotate_left
  · intro w hSw; (try dsimp only at hSw); (first | (go_simp; done) | (go_simp; with_reducible rfl))
  try simp only [Act.put, List.setIfInBounds_toArray, List.set_cons_zero, List.set_cons_succ]
  refine wpAnyH_take (i := 17) (oi := { dst := some 98, op := Go.Op.pick (Go.Operand.tmp 95) (Go.Operand.tmp 97) (Go.Operand.const (Go.Value.bool false)), type := 4, pos := _, after := _, guard := some (10, false) }) (v := ?_) rfl (by kernel_rfl) (by kernel_rfl) (by kernel_rfl) (fun _ _ _ h => h) (Or.inl ⟨by rfl, ?_⟩) (by assumption) ?_
  rotate_left
  · intro w hSw; (try dsimp only at hSw); (first | (go_simp; done) | (go_simp; with_reducible rfl))
  try simp only [Act.put, List.setIfInBounds_toArray, List.set_cons_zero, List.set_cons_succ]
  refine wpAnyH_take (i := 18) (oi := { dst := some 99, op := Go.Op.pick (Go.Operand.tmp 91) (Go.Operand.const (Go.Value.bool true)) (Go.Operand.tmp 98), type := 4, pos := _, after := _, guard := some (2, true) }) (v := ?_) rfl (by kernel_rfl) (by kernel_rfl) (by kernel_rfl) (fun _ _ _ h => h) (Or.inl ⟨by rfl, ?_⟩) (by assumption) ?_
  rotate_left
  · intro w hSw; (try dsimp only at hSw); (first | (go_simp; done) | (go_simp; with_reducible rfl))
  try simp only [Act.put, List.setIfInBounds_toArray, List.set_cons_zero, List.set_cons_succ]
  refine wpAnyH_take (i := 19) (oi := { dst := some 100, op := Go.Op.pick (Go.Operand.tmp 83) (Go.Operand.tmp 99) (Go.Operand.const (Go.Value.bool false)), type := 4, pos := _, after := _, guard := none }) (v := ?_) rfl (by kernel_rfl) (by kernel_rfl) (by kernel_rfl) (fun _ _ _ h => h) (Or.inl ⟨by rfl, ?_⟩) (by assumption) ?_
  rotate_left
  · intro w hSw; (try dsimp only at hSw); (first | (go_simp; done) | (go_simp; with_reducible rfl))
  try simp only [Act.put, List.setIfInBounds_toArray, List.set_cons_zero, List.set_cons_succ]
  refine wpAnyH_take (i := 20) (oi := { dst := some 101, op := Go.Op.move (Go.Operand.tmp 100), type := 4, pos := _, after := _, guard := none }) (v := ?_) rfl (by kernel_rfl) (by kernel_rfl) (by kernel_rfl) (fun _ _ _ h => h) (Or.inl ⟨by rfl, ?_⟩) (by assumption) ?_
  rotate_left
  · intro w hSw; (try dsimp only at hSw); (first | (go_simp; done) | (go_simp; with_reducible rfl))
  try simp only [Act.put, List.setIfInBounds_toArray, List.set_cons_zero, List.set_cons_succ]
  refine wpAnyH_take (i := 21) (oi := { dst := some 102, op := Go.Op.load 24 (Go.Operand.tmp 7), type := 24, pos := _, after := _, guard := some (20, true) }) (v := ?_) rfl (by kernel_rfl) (by kernel_rfl) (by kernel_rfl) (fun _ _ _ h => h) (Or.inl ⟨by rfl, ?_⟩) (by assumption) ?_
  rotate_left
  · intro w hSw; (try dsimp only at hSw); (first | (go_simp; done) | (go_simp; with_reducible rfl))
  try simp only [Act.put, List.setIfInBounds_toArray, List.set_cons_zero, List.set_cons_succ]
  refine wpAnyH_take (i := 22) (oi := { dst := some 103, op := Go.Op.move (Go.Operand.tmp 2), type := 9, pos := _, after := _, guard := some (20, true) }) (v := ?_) rfl (by kernel_rfl) (by kernel_rfl) (by kernel_rfl) (fun _ _ _ h => h) (Or.inl ⟨by rfl, ?_⟩) (by assumption) ?_
  rotate_left
  · intro w hSw; (try dsimp only at hSw); (first | (go_simp; done) | (go_simp; with_reducible rfl))
  try simp only [Act.put, List.setIfInBounds_toArray, List.set_cons_zero, List.set_cons_succ]
  refine wpAnyH_take (i := 24) (oi := { dst := some 105, op := Go.Op.load 24 (Go.Operand.tmp 3), type := 24, pos := _, after := _, guard := some (20, true) }) (v := ?_) rfl (by kernel_rfl) (by kernel_rfl) (by kernel_rfl) (fun _ _ _ h => h) (Or.inl ⟨by rfl, ?_⟩) (by assumption) ?_
  rotate_left
  · intro w hSw; (try dsimp only at hSw); (first | (go_simp; done) | (go_simp; with_reducible rfl))
  try simp only [Act.put, List.setIfInBounds_toArray, List.set_cons_zero, List.set_cons_succ]
  refine wpAnyH_take (i := 25) (oi := { dst := some 106, op := Go.Op.move (Go.Operand.tmp 2), type := 9, pos := _, after := _, guard := some (20, true) }) (v := ?_) rfl (by kernel_rfl) (by kernel_rfl) (by kernel_rfl) (fun _ _ _ h => h) (Or.inl ⟨by rfl, ?_⟩) (by assumption) ?_
  rotate_left
  · intro w hSw; (try dsimp only at hSw); (first | (go_simp; done) | (go_simp; with_reducible rfl))
  try simp only [Act.put, List.setIfInBounds_toArray, List.set_cons_zero, List.set_cons_succ]
  refine wpAnyH_ready (rs := [23]) (by kernel_rfl) (by simp) ?_
  refine AllReadyH.cons (o := { dst := some 104, op := Go.Op.call { callee := Go.Callee.value (Go.Operand.func 23), args := #[Go.Operand.tmp 102, Go.Operand.tmp 103], argTypes := #[24, 9] }, type := 24, pos := _, after := _, guard := some (20, true) }) rfl (fun K hK => ?_) AllReadyH.nil
  go_simp
  (go_at_call 23; refine (XP.out _ (by assumption)).mono ?_; rintro e wr3 ⟨A6, len6, cap6, rfl, hv6, hr3, hc6⟩; have fr3 := hr3.st.cells)
  refine hK.out _ _ fr3 (fun hHeld => ?_)
  clear hK K
  try simp only [Act.put, List.setIfInBounds_toArray, List.set_cons_zero, List.set_cons_succ]
  refine wpAnyH_ready (rs := [26]) (by kernel_rfl) (by simp) ?_
  refine AllReadyH.cons (o := { dst := some 107, op := Go.Op.call { callee := Go.Callee.value (Go.Operand.func 24), args := #[Go.Operand.tmp 105, Go.Operand.tmp 106], argTypes := #[24, 9] }, type := 24, pos := _, after := _, guard := some (20, true) }) rfl (fun K hK => ?_) AllReadyH.nil
  go_simp
  (go_at_call 24; refine (XV.out _ (by assumption)).mono ?_; rintro e wr4 ⟨A7, len7, cap7, rfl, hv7, hr4, hc7⟩; have fr4 := hr4.st.cells)
  refine hK.out _ _ fr4 (fun hHeld => ?_)
  clear hK K
  try simp only [Act.put, List.setIfInBounds_toArray, List.set_cons_zero, List.set_cons_succ]
  refine wpAnyH_ready (rs := [27]) (by kernel_rfl) (by simp) ?_
  refine AllReadyH.cons (o := { dst := some 108, op := Go.Op.call { callee := Go.Callee.value (Go.Operand.func 18), args := #[Go.Operand.tmp 104, Go.Operand.tmp 107], argTypes := #[24, 24] }, type := 4, pos := _, after := _, guard := some (20, true) }) rfl (fun K hK => ?_) AllReadyH.nil
  go_simp
  (go_at_call 18; refine (XS.out _ A6 A7 len6 len7 cap6 cap7 (hv6.chg hc7) hv7).mono ?_; rintro e wr5 ⟨rfl, hc8⟩; have hr5 := hr4.call hc8; have fr5 := hr5.st.cells)
  refine hK.out _ _ fr5 (fun hHeld => ?_)
  clear hK K
  try simp only [Act.put, List.setIfInBounds_toArray, List.set_cons_zero, List.set_cons_succ]
  refine wpAnyH_take (i := 28) (oi := { dst := some 109, op := Go.Op.pick (Go.Operand.tmp 101) (Go.Operand.tmp 108) (Go.Operand.const (Go.Value.bool false)), type := 4, pos := _, after := _, guard := none }) (v := ?_) rfl (by kernel_rfl) (by kernel_rfl) (by kernel_rfl) (fun _ _ _ h => h) (Or.inl ⟨by rfl, ?_⟩) (by assumption) ?_
  rotate_left
  · intro w hSw; (try dsimp only at hSw); (first | (go_simp; done) | (go_simp; with_reducible rfl))
  try simp only [Act.put, List.setIfInBounds_toArray, List.set_cons_zero, List.set_cons_succ]
  refine wpAnyH_take (i := 29) (oi := { dst := some 110, op := Go.Op.move (Go.Operand.tmp 109), type := 4, pos := _, after := _, guard := none }) (v := ?_) rfl (by kernel_rfl) (by kernel_rfl) (by kernel_rfl) (fun _ _ _ h => h) (Or.inl ⟨by rfl, ?_⟩) (by assumption) ?_
  rotate_left
  · intro w hSw; (try dsimp only at hSw); (first | (go_simp; done) | (go_simp; with_reducible rfl))
  try simp only [Act.put, List.setIfInBounds_toArray, List.set_cons_zero, List.set_cons_succ]
  refine wpAnyH_ready (rs := [30]) (by kernel_rfl) (by simp) ?_
  refine AllReadyH.cons (o := { dst := some 111, op := Go.Op.call { callee := Go.Callee.value (Go.Operand.func 14), args := #[], argTypes := #[] }, type := 4, pos := _, after := _, guard := some (29, true) }) rfl (fun K hK => ?_) AllReadyH.nil
  go_simp
  (go_at_call 14; refine (XW.out _ (by assumption)).mono ?_; rintro e wr6 ⟨rfl, hr6⟩; have fr6 := hr6.st.cells)
  refine hK.out _ _ fr6 (fun hHeld => ?_)
  clear hK K
  try simp only [Act.put, List.setIfInBounds_toArray, List.set_cons_zero, List.set_cons_succ]
  refine wpAnyH_take (i := 31) (oi := { dst := some 112, op := Go.Op.pick (Go.Operand.tmp 110) (Go.Operand.tmp 111) (Go.Operand.const (Go.Value.bool false)), type := 4, pos := _, after := _, guard := none }) (v := ?_) rfl (by kernel_rfl) (by kernel_rfl) (by kernel_rfl) (fun _ _ _ h => h) (Or.inl ⟨by rfl, ?_⟩) (by assumption) ?_
  rotate_left
  · intro w hSw; (try dsimp only at hSw); (first | (go_simp; done) | (go_simp; with_reducible rfl))
  try simp only [Act.put, List.setIfInBounds_toArray, List.set_cons_zero, List.set_cons_succ]
  refine wpAnyH_take (i := 32) (oi := { dst := some 6, op := Go.Op.assign (Go.Operand.tmp 112), type := 4, pos := _, after := _, guard := none }) (v := ?_) rfl (by kernel_rfl) (by kernel_rfl) (by kernel_rfl) (fun _ _ _ h => h) (Or.inl ⟨by rfl, ?_⟩) (by assumption) ?_
  rotate_left
  · intro w hSw; (try dsimp only at hSw); (first | (go_simp; done) | (go_simp; with_reducible rfl))
  try simp only [Act.put, List.setIfInBounds_toArray, List.set_cons_zero, List.set_cons_succ]
  refine wpAnyH_done (by kernel_rfl) ?_ _
  go_wp2_with fail
  go_ret
  exact ⟨rfl, hr6.st.st.chg⟩
theorem putsW (H : ValOk) (t t' : VT) (c c' : VC) (key : ByteArray) (w : World) (hv : ValIs w t c) (hv' : ValIs w t' c') (hkm : key.size ≤ maxLen) :
    Calls Try.prog 7 #[c.val, c'.val, .string key] w fun e w' => e = .returned (.bool true) ∧ Chg NoS w w' := by
  by_cases h1 : 0 ≤ fewT t 300
  · by_cases h2 : 0 ≤ fewT t' 300
    · by_cases h3 : key.size ≤ 300
      · by_cases h4 : t.kind = 7
        · by_cases h5 : t.row.length % 2 = 0
          · by_cases h6 : checkT t = 0
            · by_cases h7 : checkT t' = 0
              · by_cases h8 : textO key
                · by_cases h9 : 64 ≤ depthT t'
                  · exact puts_deep H t t' c c' key w hv hv' hkm h1 h2 h3 h4 h5 h6 h7 h8 h9
                  · exact puts_flat H t t' c c' key w hv hv' hkm h1 h2 h3 h4 h5 h6 h7 h8 h9
                · exact puts_bad3 H t t' c c' key w hv hv' hkm h1 h2 h3 h4 h5 h6 h7 h8
              · exact puts_bad2 H t t' c c' key w hv hv' hkm h1 h2 h3 h4 h5 h6 h7
            · exact puts_bad1 H t t' c c' key w hv hv' hkm h1 h2 h3 h4 h5 h6
          · exact puts_no5 H t t' c c' key w hv hv' hkm h1 h2 h3 h4 h5
        · exact puts_no4 H t t' c c' key w hv hv' hkm h1 h2 h3 h4
      · exact puts_no3 H t t' c c' key w hv hv' hkm h1 h2 h3
    · exact puts_no2 H t t' c c' key w hv hv' hkm h1 h2
  · exact puts_no1 H t t' c c' key w hv hv' hkm h1
end Go.Proofs.Ytjbjfoingpnlmaa
