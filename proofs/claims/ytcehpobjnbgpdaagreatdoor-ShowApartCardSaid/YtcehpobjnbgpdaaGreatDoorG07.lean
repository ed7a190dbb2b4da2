/- Merged by program: RVt10 VCa2. -/
import Derived.Test.YtcehpobjnbgpdaaGreatDoorG05
import Derived.Test.YtcehpobjnbgpdaaGreatDoorG06
import Derived.Deep.CutRange
import Derived.Deep.Cut
/- The document's own Put (written by mkrvt10.py). -/
namespace Go.Proofs.YtcehpobjnbgpdaaGreatDoor
open Go.RowKit
set_option linter.unusedVariables false
set_option linter.unusedSimpArgs false

/-- Values that were laid into a new block. -/
theorem src_new (W : World) (T : TypeId) (es : List VC) (cs : Array Value) (hcs : cs = (vcells es).toArray) (n cx : Nat) (hn : es.length = n) : Src (W.alloc (.cells cs T)) 4 (some ⟨W.heap.size, 0, none⟩) n cx (vcells es) := by
  refine ⟨by rw [vcells_len, hn], fun e => (by cases e), fun ad ha j u hj => ?_⟩
  cases ha
  have hadd : (⟨W.heap.size, 0, none⟩ : Addr).add j = ⟨W.heap.size, j, none⟩ := by unfold Addr.add; split <;> simp_all
  rw [hadd, (Blk.new W T cs).cell, hcs]
  simpa using hj

/-- An element of a row: its cells in every later world. -/
theorem el_at {w : World} {b off q : Nat} {l : List VT} {t : VT} (h : RowIs w (some ⟨b, off, none⟩) 0 l) (ht : l[q]? = some t) : ∃ (eA : Option Addr) (el ec : Nat), ValIs w t ⟨t.kind, t.num, t.str, eA, el, ec⟩ ∧
    ∀ W, Chg NoS w W → W.cell? ⟨b, off + q * 4, none⟩ = some (.int .i64 t.kind) ∧ W.cell? ⟨b, off + q * 4 + 1, none⟩ = some (.int .i64 t.num) ∧ W.cell? ⟨b, off + q * 4 + 2, none⟩ = some (.string t.str) ∧ W.cell? ⟨b, off + q * 4 + 3, none⟩ = some (.slice eA el ec) := by
  obtain ⟨eA, el, ec, d0, d1, d2, d3, hv⟩ := h.nth (Chg.refl NoS w) ht
  refine ⟨eA, el, ec, hv, fun W hc => ⟨?_, ?_, ?_, ?_⟩⟩
  · exact (hc.cell (p := ⟨b, _, none⟩) (cell_lt d0) (fun h => h)).trans d0
  · exact (hc.cell (p := ⟨b, _, none⟩) (cell_lt d1) (fun h => h)).trans d1
  · exact (hc.cell (p := ⟨b, _, none⟩) (cell_lt d2) (fun h => h)).trans d2
  · exact (hc.cell (p := ⟨b, _, none⟩) (cell_lt d3) (fun h => h)).trans d3

/-- Three values' blocks of the call's own, and a row that grows. -/
structure PS (w W : World) (g gx go : Nat) (cv cx cz : Array Value) (es : List VC) (ts : List VT) (m : Nat) (A : Option Addr) (c : Nat) : Prop where
  bv : PB w W g cv
  bx : PB w W gx cx
  bo : PB w W go cz
  gv : GV w W es ts m A c
  nv : (Value.slice A m c).ownBlock ≠ some g
  nx : (Value.slice A m c).ownBlock ≠ some gx
  no : (Value.slice A m c).ownBlock ≠ some go

theorem PS.app {w W W' : World} {g gx go : Nat} {cv cx cz : Array Value} {es es' : List VC} {ts ts' : List VT} {m m' c c' : Nat} {A A' : Option Addr} (h : PS w W g gx go cv cx cz es ts m A c) (o : Obj) (hg : GV w W' es' ts' m' A' c')
    (hk : ∀ (g : Nat) (T : TypeId) (cs : Array Value), Blk (W.alloc o) g T cs → (Value.slice A m c).ownBlock ≠ some g → Blk W' g T cs ∧ (Value.slice A' m' c').ownBlock ≠ some g) : PS w W' g gx go cv cx cz es' ts' m' A' c' :=
  ⟨((h.bv.alloc o).kept hk h.nv).1, ((h.bx.alloc o).kept hk h.nx).1, ((h.bo.alloc o).kept hk h.no).1, hg, ((h.bv.alloc o).kept hk h.nv).2, ((h.bx.alloc o).kept hk h.nx).2, ((h.bo.alloc o).kept hk h.no).2⟩

theorem PS.call {w W W' : World} {g gx go : Nat} {cv cx cz : Array Value} {es : List VC} {ts : List VT} {m c : Nat} {A : Option Addr} (h : PS w W g gx go cv cx cz es ts m A c) (hc : Chg NoS W W') : PS w W' g gx go cv cx cz es ts m A c :=
  ⟨h.bv.call hc, h.bx.call hc, h.bo.call hc, h.gv.call hc, h.nv, h.nx, h.no⟩

theorem is_one {w : World} {t : VT} {e : VC} (h : ValIs w t e) : ∀ (j : Nat) (t' : VT) (e' : VC), [t][j]? = some t' → [e][j]? = some e' → ValIs w t' e' := by
  intro j t' e' h1 h2
  cases j with
  | zero => simp at h1 h2; subst h1 h2; exact h
  | succ j => simp at h1

theorem is_two {w : World} {t u : VT} {e f : VC} (h : ValIs w t e) (k : ValIs w u f) : ∀ (j : Nat) (t' : VT) (e' : VC), [t, u][j]? = some t' → [e, f][j]? = some e' → ValIs w t' e' := by
  intro j t' e' h1 h2
  match j with
  | 0 => simp at h1 h2; subst h1 h2; exact h
  | 1 => simp at h1 h2; subst h1 h2; exact k
  | j + 2 => simp at h1

theorem nm_is (w : World) (key : ByteArray) (hk : key.size ≤ maxLen) : ValIs w (nmT key) ⟨5, 0, key, none, 0, 0⟩ := .mk ⟨5, 0, key, none, 0, 0⟩ [] ⟨⟨(by decide : (-9223372036854775808 : Int) ≤ 5), (by decide : (5 : Int) ≤ 9223372036854775807)⟩, ⟨(by decide : (-9223372036854775808 : Int) ≤ 0), (by decide : (0 : Int) ≤ 9223372036854775807)⟩, hk, fun _ => ⟨rfl, rfl⟩, Nat.le_refl _, Nat.zero_le _⟩ rfl (.nil _ _)

theorem put_no {k n : Int} {s key : ByteArray} {x : VT} {l : List VT} (h : k ≠ 7) : putT (.mk k n s l) key x = .mk k n s l := by rw [putT, if_neg h]

theorem put_7 {n : Int} {s key : ByteArray} {x : VT} {l : List VT} : putT (.mk 7 n s l) key x = .mk 7 n s (putL key x l) := by rw [putT, if_pos rfl]

theorem putL_len (key : ByteArray) (x : VT) (l : List VT) : (putL key x l).length ≤ l.length + 2 := by
  have hi : ∀ (N : Nat) (l : List VT), l.length ≤ N → (insL key x l).length ≤ l.length + 2 := by
    intro N
    induction N using Nat.strongRecOn with
    | _ N ih =>
      intro l hl
      match l with
      | [] => rw [insL]; exact Nat.le_refl _
      | [a] => rw [insL]; split <;> exact Nat.le_refl _
      | a :: u :: l' =>
        simp only [List.length_cons] at hl
        by_cases hg : gtT key a
        · rw [ins_gt hg]; simp
        · rw [ins_le hg]
          have := ih (N - 1) (by omega) l' (by omega)
          simp only [List.length_cons]
          omega
  unfold putL
  split
  · unfold replL; simp only [List.length_append, List.length_take, List.length_cons, List.length_drop]; omega
  · exact hi _ l (Nat.le_refl _)

/-- The step of what is left where nothing was found. -/
noncomputable def leftL (key : ByteArray) (x : VT) (done : Bool) (l : List VT) : List VT := if done then l else insL key x l

theorem left_gt {key : ByteArray} {x t : VT} {r : List VT} (h : gtT key t) : leftL key x false (t :: r) = nmT key :: x :: leftL key x true (t :: r) := by
  show insL key x (t :: r) = _
  cases r with
  | nil => rw [insL, if_pos h]; rfl
  | cons u r => rw [ins_gt h]; rfl

theorem left_le {key : ByteArray} {x t : VT} {r : List VT} (h : ¬ gtT key t) : leftL key x false (t :: r) = t :: (r.take 1 ++ leftL key x false (r.drop 1)) := by
  show insL key x (t :: r) = _
  cases r with
  | nil => rw [insL, if_neg h]; rfl
  | cons u r => rw [ins_le h]; rfl

theorem left_done {key : ByteArray} {x t : VT} {r : List VT} : leftL key x true (t :: r) = t :: (r.take 1 ++ leftL key x true (r.drop 1)) := by
  show t :: r = t :: (r.take 1 ++ r.drop 1)
  rw [List.take_append_drop]

set_option maxHeartbeats 8000000 in
set_option maxRecDepth 100000 in
theorem rput_no (c cx : VC) (l : List VT) (tx : VT) (key : ByteArray) (w : World) (hv : ValIs w (.mk c.k c.n c.s l) c) (hvx : ValIs w tx cx) (hsz : sizL l ≤ 1000000000) (hkey : key.size ≤ maxLen) (h7 : c.k ≠ 7) :
    Calls Tryz.prog 135 #[c.val, .string key, cx.val] w (TreeTo w (putT (.mk c.k c.n c.s l) key tx)) := by
  obtain ⟨_, _, _, hg, hl, hr⟩ := hv.inv
  have HF := keepf (fun W (h : ValIs W (.mk c.k c.n c.s l) c) => rfind_any c l key W h hsz)
  have HV := keepf hv
  have HVX := keepf hvx
  have HNM := keepf (nm_is w key hkey)
  have HGD := keepf hg
  obtain ⟨k, n, s, A, len, cap⟩ := c
  obtain ⟨xk, xn, xs, xA, xl, xc⟩ := cx
  simp only [] at hl hr
  have hcap := hg.cap
  simp only [] at hcap
  have hl9 : len ≤ 1000000000 := by have := sizL_len l; omega
  have HL := keepf hl
  have HR := keepf hr
  unfold VC.val at HF
  simp only [] at HF HV HVX h7 ⊢
  show Calls Tryz.prog 135 #[.agg #[.int .i64 k, .int .i64 n, .string s, .slice A len cap], .string key, .agg #[.int .i64 xk, .int .i64 xn, .string xs, .slice xA xl xc]] w _
  have HS0 := keepf (⟨⟨((Blk.new w 24 #[.int .i64 k, .int .i64 n, .string s, .slice A len cap]).alloc (.cells #[.int .i64 xk, .int .i64 xn, .string xs, .slice xA xl xc] 24)).alloc (.cells #[.int .i64 0, .int .i64 0, .string ⟨#[]⟩, .slice none 0 0] 24), Nat.le_refl _⟩,
    ⟨(Blk.new (w.alloc (.cells #[.int .i64 k, .int .i64 n, .string s, .slice A len cap] 24)) 24 #[.int .i64 xk, .int .i64 xn, .string xs, .slice xA xl xc]).alloc (.cells #[.int .i64 0, .int .i64 0, .string ⟨#[]⟩, .slice none 0 0] 24), by simp⟩,
    ⟨Blk.new ((w.alloc (.cells #[.int .i64 k, .int .i64 n, .string s, .slice A len cap] 24)).alloc (.cells #[.int .i64 xk, .int .i64 xn, .string xs, .slice xA xl xc] 24)) 24 #[.int .i64 0, .int .i64 0, .string ⟨#[]⟩, .slice none 0 0], by simp; omega⟩, GV.start (((Chg.refl NoS w).alloc _).alloc _ |>.alloc _), fun e => (by cases e), fun e => (by cases e), fun e => (by cases e)⟩ : PS w _ w.heap.size _ _ _ _ _ [] [] 0 none 0)
  have hs1 : (w.alloc (.cells #[.int .i64 k, .int .i64 n, .string s, .slice A len cap] 24)).heap.size = w.heap.size + 1 := by simp
  have hs2 : ((w.alloc (.cells #[.int .i64 k, .int .i64 n, .string s, .slice A len cap] 24)).alloc (.cells #[.int .i64 xk, .int .i64 xn, .string xs, .slice xA xl xc] 24)).heap.size = w.heap.size + 1 + 1 := by simp
  rw [hs1, hs2] at HS0
  obtain ⟨W0, hW⟩ : ∃ W, W = ((w.alloc (.cells #[.int .i64 k, .int .i64 n, .string s, .slice A len cap] 24)).alloc (.cells #[.int .i64 xk, .int .i64 xn, .string xs, .slice xA xl xc] 24)).alloc (.cells #[.int .i64 0, .int .i64 0, .string ⟨#[]⟩, .slice none 0 0] 24) := ⟨_, rfl⟩
  rw [← hW] at HS0
  obtain ⟨g, hg1⟩ : ∃ g, g = w.heap.size := ⟨_, rfl⟩
  obtain ⟨gx, hg2⟩ : ∃ g, g = w.heap.size + 1 := ⟨_, rfl⟩
  obtain ⟨go, hg3⟩ : ∃ g, g = w.heap.size + 1 + 1 := ⟨_, rfl⟩
  rw [← hg3, ← hg2, ← hg1] at HS0
  have HNE : Hid (g ≠ go ∧ g ≠ gx ∧ gx ≠ go) := ⟨by omega, by omega, by omega⟩
  have HE := keepf (put_no (n := n) (s := s) (key := key) (x := tx) (l := l) h7)
  have e7 : (k != 7) = true := by simpa using h7
  have e7' : (k == 7) = false := by simpa using h7
  have hk7 : ¬ k = 7 := h7
  clear hv hvx hg hl hr hsz hkey h7
  go_enter Tryz.func135, Tryz.ntmps135
  go_upto_region 1 with fail
  rw [← hW, ← hg3, ← hg2, ← hg1]
  clear hW hg1 hg2 hg3 hs1 hs2
  have p0 := HS0.out.bv.blk.cell 0
  have p1 := HS0.out.bv.blk.cell 1
  have p2 := HS0.out.bv.blk.cell 2
  have p3 := HS0.out.bv.blk.cell 3
  have z0 := HS0.out.bo.blk.frozen 0
  have z1 := HS0.out.bo.blk.frozen 1
  have z2 := HS0.out.bo.blk.frozen 2
  have z3 := HS0.out.bo.blk.frozen 3
  have y0 := HS0.out.bo.blk.cell 0
  have y1 := HS0.out.bo.blk.cell 1
  have y2 := HS0.out.bo.blk.cell 2
  have y3 := HS0.out.bo.blk.cell 3
  simp at p0 p1 p2 p3 y0 y1 y2 y3
  go_wp2_with fail
  try simp only [Exit.noGoto_ret]
  clear y0 y1 y2 y3
  obtain ⟨hb, hcc⟩ := HS0.out.bo.set4 (a := .int .i64 k) (b := .int .i64 n) (c := .string s) (d := .slice A len cap) HS0.out.gv.chg rfl
  have r0 := hb.blk.cell 0
  have r1 := hb.blk.cell 1
  have r2 := hb.blk.cell 2
  have r3 := hb.blk.cell 3
  simp at r0 r1 r2 r3
  refine bodyPost_ret (v := .agg #[.int .i64 k, .int .i64 n, .string s, .slice A len cap]) (by simp [results, Tryz.results135, go_sem, r0, r1, r2, r3]) rfl ?_
  exact ⟨⟨k, n, s, A, len, cap⟩, rfl, by rw [HE.out]; exact HV.out.chg hcc, hcc⟩

set_option maxHeartbeats 8000000 in
set_option maxRecDepth 100000 in
theorem rput_none (c cx : VC) (l : List VT) (tx : VT) (key : ByteArray) (w : World) (hv : ValIs w (.mk c.k c.n c.s l) c) (hvx : ValIs w tx cx) (hsz : sizL l ≤ 1000000000) (hkey : key.size ≤ maxLen) (h7 : c.k = 7) (hf : findL key l = none) :
    Calls Tryz.prog 135 #[c.val, .string key, cx.val] w (TreeTo w (putT (.mk c.k c.n c.s l) key tx)) := by
  obtain ⟨_, _, _, hg, hl, hr⟩ := hv.inv
  have HF := keepf (fun W (h : ValIs W (.mk c.k c.n c.s l) c) => rfind_any c l key W h hsz)
  have HV := keepf hv
  have HVX := keepf hvx
  have HNM := keepf (nm_is w key hkey)
  have HGD := keepf hg
  obtain ⟨k, n, s, A, len, cap⟩ := c
  obtain ⟨xk, xn, xs, xA, xl, xc⟩ := cx
  simp only [] at hl hr
  have hcap := hg.cap
  simp only [] at hcap
  have hl9 : len ≤ 1000000000 := by have := sizL_len l; omega
  have HL := keepf hl
  have HR := keepf hr
  unfold VC.val at HF
  simp only [] at HF HV HVX h7 ⊢
  show Calls Tryz.prog 135 #[.agg #[.int .i64 k, .int .i64 n, .string s, .slice A len cap], .string key, .agg #[.int .i64 xk, .int .i64 xn, .string xs, .slice xA xl xc]] w _
  have HS0 := keepf (⟨⟨((Blk.new w 24 #[.int .i64 k, .int .i64 n, .string s, .slice A len cap]).alloc (.cells #[.int .i64 xk, .int .i64 xn, .string xs, .slice xA xl xc] 24)).alloc (.cells #[.int .i64 0, .int .i64 0, .string ⟨#[]⟩, .slice none 0 0] 24), Nat.le_refl _⟩,
    ⟨(Blk.new (w.alloc (.cells #[.int .i64 k, .int .i64 n, .string s, .slice A len cap] 24)) 24 #[.int .i64 xk, .int .i64 xn, .string xs, .slice xA xl xc]).alloc (.cells #[.int .i64 0, .int .i64 0, .string ⟨#[]⟩, .slice none 0 0] 24), by simp⟩,
    ⟨Blk.new ((w.alloc (.cells #[.int .i64 k, .int .i64 n, .string s, .slice A len cap] 24)).alloc (.cells #[.int .i64 xk, .int .i64 xn, .string xs, .slice xA xl xc] 24)) 24 #[.int .i64 0, .int .i64 0, .string ⟨#[]⟩, .slice none 0 0], by simp; omega⟩, GV.start (((Chg.refl NoS w).alloc _).alloc _ |>.alloc _), fun e => (by cases e), fun e => (by cases e), fun e => (by cases e)⟩ : PS w _ w.heap.size _ _ _ _ _ [] [] 0 none 0)
  have hs1 : (w.alloc (.cells #[.int .i64 k, .int .i64 n, .string s, .slice A len cap] 24)).heap.size = w.heap.size + 1 := by simp
  have hs2 : ((w.alloc (.cells #[.int .i64 k, .int .i64 n, .string s, .slice A len cap] 24)).alloc (.cells #[.int .i64 xk, .int .i64 xn, .string xs, .slice xA xl xc] 24)).heap.size = w.heap.size + 1 + 1 := by simp
  rw [hs1, hs2] at HS0
  obtain ⟨W0, hW⟩ : ∃ W, W = ((w.alloc (.cells #[.int .i64 k, .int .i64 n, .string s, .slice A len cap] 24)).alloc (.cells #[.int .i64 xk, .int .i64 xn, .string xs, .slice xA xl xc] 24)).alloc (.cells #[.int .i64 0, .int .i64 0, .string ⟨#[]⟩, .slice none 0 0] 24) := ⟨_, rfl⟩
  rw [← hW] at HS0
  obtain ⟨g, hg1⟩ : ∃ g, g = w.heap.size := ⟨_, rfl⟩
  obtain ⟨gx, hg2⟩ : ∃ g, g = w.heap.size + 1 := ⟨_, rfl⟩
  obtain ⟨go, hg3⟩ : ∃ g, g = w.heap.size + 1 + 1 := ⟨_, rfl⟩
  rw [← hg3, ← hg2, ← hg1] at HS0
  have HNE : Hid (g ≠ go ∧ g ≠ gx ∧ gx ≠ go) := ⟨by omega, by omega, by omega⟩
  subst h7
  have HFI := keepf (show findI 7 l key = (match findL key l with | some j => ((2 * j : Nat) : Int) | none => -1) from if_pos rfl)
  rw [hf] at HFI
  simp only [] at HFI
  rw [HFI.out] at HF
  have HE := keepf (put_7 (n := n) (s := s) (key := key) (x := tx) (l := l))
  have hpl := putL_len key tx l
  rw [hl] at hpl
  have HPL := keepf hpl
  obtain ⟨L, hL⟩ : ∃ L, L = putL key tx l := ⟨_, rfl⟩
  rw [← hL] at HE HPL
  have HLL := keepf hL
  have HLN := keepf (show L = insL key tx l from by rw [HLL.out]; unfold putL; rw [hf])
  clear hv hvx hg hr hsz hkey hpl hL hl hf
  go_enter Tryz.func135, Tryz.ntmps135
  go_upto_region 1 with fail
  rw [← hW, ← hg3, ← hg2, ← hg1]
  clear hW hg1 hg2 hg3 hs1 hs2
  have p0 := HS0.out.bv.blk.cell 0
  have p1 := HS0.out.bv.blk.cell 1
  have p2 := HS0.out.bv.blk.cell 2
  have p3 := HS0.out.bv.blk.cell 3
  simp at p0 p1 p2 p3
  go_upto_region 7 with (go_at_call 134; refine (HF.out _ (HV.out.chg HS0.out.gv.chg)).mono ?_; rintro e w2 ⟨rfl, hc2⟩; have HS2 := keepf (HS0.out.call hc2); clear hc2)
  clear p0 p1 p2 p3 HS0 HF
  have mm : (-1 : Int) < 0 := by decide
  go_loopw [7, 9, 10] (fun vo vd vk wr => ∃ (k m c2 : Nat) (done : Bool) (A2 : Option Addr) (es : List VC) (ts : List VT), k ≤ len + 1 ∧ m ≤ k + 2 ∧ vo = .slice A2 m c2 ∧ vd = .bool done ∧ vk = .int .i64 (k : Nat) ∧ Hid (PS w wr g gx go #[.int .i64 7, .int .i64 n, .string s, .slice A len cap] #[.int .i64 xk, .int .i64 xn, .string xs, .slice xA xl xc] #[.int .i64 0, .int .i64 0, .string ⟨#[]⟩, .slice none 0 0] es ts m A2 c2 ∧ L = ts ++ leftL key tx done (l.drop k) ∧ (done = false → m ≤ k) ∧ (len ≤ k → k = len ∨ k = len + 1))) (fun _ _ vk _ => len + 1 - (intOf vk).toNat)
  case atStart => exact ⟨0, 0, 0, false, none, [], [], by omega, by omega, rfl, rfl, by go_num, keepf ⟨HS2.out, by rw [HLN.out]; rfl, fun _ => Nat.le_refl _, fun h => .inl (by omega)⟩⟩
  case round =>
    obtain ⟨k, m, c2, done, A2, es, ts, hk, hm, rfl, rfl, rfl, HI⟩ := hrel
    have p0 := HI.out.1.bv.blk.cell 0
    have x0 := HI.out.1.bx.blk.cell 0
    have p1 := HI.out.1.bv.blk.cell 1
    have x1 := HI.out.1.bx.blk.cell 1
    have p2 := HI.out.1.bv.blk.cell 2
    have x2 := HI.out.1.bx.blk.cell 2
    have p3 := HI.out.1.bv.blk.cell 3
    have x3 := HI.out.1.bx.blk.cell 3
    simp at p0 p1 p2 p3 x0 x1 x2 x3
    by_cases h1 : k < len
    · obtain ⟨t, ht, hd⟩ := drop_vt (l := l) (k := k) (by rw [HL.out]; exact h1)
      obtain ⟨b, off, rfl⟩ : ∃ b off, A = some ⟨b, off, none⟩ := by
        have h := HR.out
        cases hll : l with
        | nil => rw [hll] at ht; simp at ht
        | cons t0 l0 => rw [hll] at h; exact h.start
      obtain ⟨eA, el, ec, hve, hce⟩ := el_at HR.out ht
      obtain ⟨c0, c1, c2, c3⟩ := hce _ HI.out.1.gv.chg
      have HCE := keepf hce
      have HVE := keepf hve
      have i1 : (k : Int) < len := by omega
      obtain ⟨tk, htk⟩ : ∃ tk, t.kind = tk := ⟨_, rfl⟩
      obtain ⟨tn, htn⟩ : ∃ tn, t.num = tn := ⟨_, rfl⟩
      obtain ⟨tss, hts⟩ : ∃ ts, t.str = ts := ⟨_, rfl⟩
      rw [htk] at c0 HCE HVE
      rw [htn] at c1 HCE HVE
      rw [hts] at c2 HCE HVE
      have HD := keepf hd
      have HT := keepf ht
      clear hve hce
      have hkw : IntKind.i64.wrap ((k : Int) + 2) = (k : Int) + 2 := by rw [IntKind.wrap_i64]; omega
      have hneg : ((k : Int) == -1) = false := by first | (simp; done) | (simp; omega)
      cases done
      · by_cases h5 : tk = 5
        · subst h5
          by_cases hgt : Op.bytesLess key.toList tss.toList = true
          · have HGT := keepf (show gtT key t from ⟨htk, by rw [hts]; exact hgt⟩)
            have f1 : (Op.bytesLess tss.toList key.toList || tss.toList == key.toList) = false := by rw [less_leq, hgt]; rfl
            clear htk htn hts hd ht hgt
            by_cases hmore : k + 1 < len
            · obtain ⟨u, hu⟩ : ∃ u, u = k + 1 := ⟨_, rfl⟩
              have hul : u < len := by omega
              have HU := keepf hu
              have e1 : (k : Int) + 1 = (u : Int) := by omega
              have k1 : IntKind.i64.wrap (u : Int) = (u : Int) := by rw [IntKind.wrap_i64]; omega
              have i2 : (u : Int) < len := by omega
              obtain ⟨t2, ht2, hd2⟩ := drop_vt (l := l) (k := u) (by rw [HL.out]; exact hul)
              obtain ⟨fA, fl, fc, hvf, hcf⟩ := el_at HR.out ht2
              obtain ⟨uk, huk⟩ : ∃ tk, t2.kind = tk := ⟨_, rfl⟩
              obtain ⟨un, hun⟩ : ∃ tn, t2.num = tn := ⟨_, rfl⟩
              obtain ⟨us, hus⟩ : ∃ ts, t2.str = ts := ⟨_, rfl⟩
              rw [huk, hun, hus] at hvf
              rw [huk, hun, hus] at hcf
              have HCF := keepf hcf
              have HVF := keepf hvf
              have HD2 := keepf hd2
              have HT2 := keepf ht2
              clear hvf hcf hd2 ht2 hu huk hun hus
              have HP0 := keepf HI.out.1
              go_wp2_with first
                | (at_builtin; refine appV (w := w) (new := [⟨5, 0, key, none, 0, 0⟩, ⟨xk, xn, xs, xA, xl, xc⟩]) (tn := [nmT key, tx]) rfl (.tmp 50) (.tmp 54) rfl rfl rfl HP0.out.gv ((Chg.refl _ _).alloc _) (by first | omega | (simp only [List.length_cons, List.length_nil]; omega)) (by first | omega | (simp only [List.length_cons, List.length_nil]; omega)) (src_new _ _ [⟨5, 0, key, none, 0, 0⟩, ⟨xk, xn, xs, xA, xl, xc⟩] _ rfl _ _ rfl) rfl rfl (is_two HNM.out HVX.out) ?_; intro A1 cc1 w1 hg1 hk1; have HP1 := keepf (HP0.out.app _ hg1 hk1); clear hg1 hk1; have p3 := HP1.out.bv.blk.cell 3; simp at p3; obtain ⟨c0, c1, c2, c3⟩ := HCE.out _ HP1.out.gv.chg)
                | (at_builtin; refine appV (w := w) (new := [⟨5, tn, tss, eA, el, ec⟩]) (tn := [t]) rfl (.tmp 56) (.tmp 62) rfl rfl rfl HP1.out.gv ((Chg.refl _ _).alloc _) (by first | omega | (simp only [List.length_cons, List.length_nil]; omega)) (by first | omega | (simp only [List.length_cons, List.length_nil]; omega)) (src_new _ _ [⟨5, tn, tss, eA, el, ec⟩] _ rfl _ _ rfl) rfl rfl (is_one HVE.out) ?_; intro A2 cc2 w2 hg2 hk2; have HP2 := keepf (HP1.out.app _ hg2 hk2); clear hg2 hk2; have p3 := HP2.out.bv.blk.cell 3; have x0 := HP2.out.bx.blk.cell 0; have x1 := HP2.out.bx.blk.cell 1; have x2 := HP2.out.bx.blk.cell 2; have x3 := HP2.out.bx.blk.cell 3; simp at p3 x0 x1 x2 x3; obtain ⟨f0, f1, f2, f3⟩ := HCF.out _ HP2.out.gv.chg)
                | (at_builtin; refine appV (w := w) (new := [⟨uk, un, us, fA, fl, fc⟩]) (tn := [t2]) rfl (.tmp 77) (.tmp 84) rfl rfl rfl HP2.out.gv ((Chg.refl _ _).alloc _) (by first | omega | (simp only [List.length_cons, List.length_nil]; omega)) (by first | omega | (simp only [List.length_cons, List.length_nil]; omega)) (src_new _ _ [⟨uk, un, us, fA, fl, fc⟩] _ rfl _ _ rfl) rfl rfl (is_one HVF.out) ?_; intro A3 cc3 w3 hg3 hk3; have HP3 := keepf (HP2.out.app _ hg3 hk3); clear hg3 hk3)
              go_roundw
              case rel => exact ⟨k + 2, (((m + 2) + 1) + 1), cc3, true, A3, _, (((ts ++ [nmT key, tx]) ++ [t]) ++ [t2]), by omega, by have := HI.out.2.2.1; have h8 := this rfl; omega, rfl, rfl, by go_num, keepf ⟨HP3.out, by rw [HI.out.2.1, HD.out, left_gt HGT.out, left_done]; rw [← HU.out, HD2.out, HU.out]; simp, fun h => by (cases h), fun _ => by omega⟩⟩
              case measure => simp [intOf]; omega
            · have hul : k + 1 = len := by omega
              have HZ1 := keepf (show l.drop (k + 1) = [] from List.drop_of_length_le (by rw [HL.out]; omega))
              have HZ2 := keepf (show l.drop (k + 2) = [] from List.drop_of_length_le (by rw [HL.out]; omega))
              have e1 : ¬ (k : Int) + 1 < len := by omega
              have d3 : decide ((k : Int) + 1 < len) = false := by simp; omega
              have k1 : IntKind.i64.wrap ((k : Int) + 1) = (k : Int) + 1 := by rw [IntKind.wrap_i64]; omega
              have HP0 := keepf HI.out.1
              go_wp2_with first
                | (at_builtin; refine appV (w := w) (new := [⟨5, 0, key, none, 0, 0⟩, ⟨xk, xn, xs, xA, xl, xc⟩]) (tn := [nmT key, tx]) rfl (.tmp 50) (.tmp 54) rfl rfl rfl HP0.out.gv ((Chg.refl _ _).alloc _) (by first | omega | (simp only [List.length_cons, List.length_nil]; omega)) (by first | omega | (simp only [List.length_cons, List.length_nil]; omega)) (src_new _ _ [⟨5, 0, key, none, 0, 0⟩, ⟨xk, xn, xs, xA, xl, xc⟩] _ rfl _ _ rfl) rfl rfl (is_two HNM.out HVX.out) ?_; intro A1 cc1 w1 hg1 hk1; have HP1 := keepf (HP0.out.app _ hg1 hk1); clear hg1 hk1; have p3 := HP1.out.bv.blk.cell 3; simp at p3; obtain ⟨c0, c1, c2, c3⟩ := HCE.out _ HP1.out.gv.chg)
                | (at_builtin; refine appV (w := w) (new := [⟨5, tn, tss, eA, el, ec⟩]) (tn := [t]) rfl (.tmp 56) (.tmp 62) rfl rfl rfl HP1.out.gv ((Chg.refl _ _).alloc _) (by first | omega | (simp only [List.length_cons, List.length_nil]; omega)) (by first | omega | (simp only [List.length_cons, List.length_nil]; omega)) (src_new _ _ [⟨5, tn, tss, eA, el, ec⟩] _ rfl _ _ rfl) rfl rfl (is_one HVE.out) ?_; intro A2 cc2 w2 hg2 hk2; have HP2 := keepf (HP1.out.app _ hg2 hk2); clear hg2 hk2; have p3 := HP2.out.bv.blk.cell 3; have x0 := HP2.out.bx.blk.cell 0; have x1 := HP2.out.bx.blk.cell 1; have x2 := HP2.out.bx.blk.cell 2; have x3 := HP2.out.bx.blk.cell 3; simp at p3 x0 x1 x2 x3)
              go_roundw
              case rel => exact ⟨k + 2, ((m + 2) + 1), cc2, true, A2, _, ((ts ++ [nmT key, tx]) ++ [t]), by omega, by have := HI.out.2.2.1; have h8 := this rfl; omega, rfl, rfl, by go_num, keepf ⟨HP2.out, by rw [HI.out.2.1, HD.out, left_gt HGT.out, left_done]; rw [HZ1.out, HZ2.out]; simp, fun h => by (cases h), fun _ => by omega⟩⟩
              case measure => simp [intOf]; omega
          · have HGT := keepf (show ¬ gtT key t from fun h => hgt (by rw [← hts]; exact h.2))
            have hgf : Op.bytesLess key.toList tss.toList = false := by simpa using hgt
            have f1 : (Op.bytesLess tss.toList key.toList || tss.toList == key.toList) = true := by rw [less_leq, hgf]; rfl
            clear hgf htk htn hts hd ht hgt
            by_cases hmore : k + 1 < len
            · obtain ⟨u, hu⟩ : ∃ u, u = k + 1 := ⟨_, rfl⟩
              have hul : u < len := by omega
              have HU := keepf hu
              have e1 : (k : Int) + 1 = (u : Int) := by omega
              have k1 : IntKind.i64.wrap (u : Int) = (u : Int) := by rw [IntKind.wrap_i64]; omega
              have i2 : (u : Int) < len := by omega
              obtain ⟨t2, ht2, hd2⟩ := drop_vt (l := l) (k := u) (by rw [HL.out]; exact hul)
              obtain ⟨fA, fl, fc, hvf, hcf⟩ := el_at HR.out ht2
              obtain ⟨uk, huk⟩ : ∃ tk, t2.kind = tk := ⟨_, rfl⟩
              obtain ⟨un, hun⟩ : ∃ tn, t2.num = tn := ⟨_, rfl⟩
              obtain ⟨us, hus⟩ : ∃ ts, t2.str = ts := ⟨_, rfl⟩
              rw [huk, hun, hus] at hvf
              rw [huk, hun, hus] at hcf
              have HCF := keepf hcf
              have HVF := keepf hvf
              have HD2 := keepf hd2
              have HT2 := keepf ht2
              clear hvf hcf hd2 ht2 hu huk hun hus
              have HP0 := keepf HI.out.1
              go_wp2_with first
                | (at_builtin; refine appV (w := w) (new := [⟨5, tn, tss, eA, el, ec⟩]) (tn := [t]) rfl (.tmp 56) (.tmp 62) rfl rfl rfl HP0.out.gv ((Chg.refl _ _).alloc _) (by first | omega | (simp only [List.length_cons, List.length_nil]; omega)) (by first | omega | (simp only [List.length_cons, List.length_nil]; omega)) (src_new _ _ [⟨5, tn, tss, eA, el, ec⟩] _ rfl _ _ rfl) rfl rfl (is_one HVE.out) ?_; intro A2 cc2 w2 hg2 hk2; have HP2 := keepf (HP0.out.app _ hg2 hk2); clear hg2 hk2; have p3 := HP2.out.bv.blk.cell 3; have x0 := HP2.out.bx.blk.cell 0; have x1 := HP2.out.bx.blk.cell 1; have x2 := HP2.out.bx.blk.cell 2; have x3 := HP2.out.bx.blk.cell 3; simp at p3 x0 x1 x2 x3; obtain ⟨f0, f1, f2, f3⟩ := HCF.out _ HP2.out.gv.chg)
                | (at_builtin; refine appV (w := w) (new := [⟨uk, un, us, fA, fl, fc⟩]) (tn := [t2]) rfl (.tmp 77) (.tmp 84) rfl rfl rfl HP2.out.gv ((Chg.refl _ _).alloc _) (by first | omega | (simp only [List.length_cons, List.length_nil]; omega)) (by first | omega | (simp only [List.length_cons, List.length_nil]; omega)) (src_new _ _ [⟨uk, un, us, fA, fl, fc⟩] _ rfl _ _ rfl) rfl rfl (is_one HVF.out) ?_; intro A3 cc3 w3 hg3 hk3; have HP3 := keepf (HP2.out.app _ hg3 hk3); clear hg3 hk3)
              go_roundw
              case rel => exact ⟨k + 2, ((m + 1) + 1), cc3, false, A3, _, ((ts ++ [t]) ++ [t2]), by omega, by have := HI.out.2.2.1; omega, rfl, rfl, by go_num, keepf ⟨HP3.out, by rw [HI.out.2.1, HD.out, left_le HGT.out]; rw [← HU.out, HD2.out, HU.out]; simp, fun h => by (have := HI.out.2.2.1 rfl; omega), fun _ => by omega⟩⟩
              case measure => simp [intOf]; omega
            · have hul : k + 1 = len := by omega
              have HZ1 := keepf (show l.drop (k + 1) = [] from List.drop_of_length_le (by rw [HL.out]; omega))
              have HZ2 := keepf (show l.drop (k + 2) = [] from List.drop_of_length_le (by rw [HL.out]; omega))
              have e1 : ¬ (k : Int) + 1 < len := by omega
              have d3 : decide ((k : Int) + 1 < len) = false := by simp; omega
              have k1 : IntKind.i64.wrap ((k : Int) + 1) = (k : Int) + 1 := by rw [IntKind.wrap_i64]; omega
              have HP0 := keepf HI.out.1
              go_wp2_with first
                | (at_builtin; refine appV (w := w) (new := [⟨5, tn, tss, eA, el, ec⟩]) (tn := [t]) rfl (.tmp 56) (.tmp 62) rfl rfl rfl HP0.out.gv ((Chg.refl _ _).alloc _) (by first | omega | (simp only [List.length_cons, List.length_nil]; omega)) (by first | omega | (simp only [List.length_cons, List.length_nil]; omega)) (src_new _ _ [⟨5, tn, tss, eA, el, ec⟩] _ rfl _ _ rfl) rfl rfl (is_one HVE.out) ?_; intro A2 cc2 w2 hg2 hk2; have HP2 := keepf (HP0.out.app _ hg2 hk2); clear hg2 hk2; have p3 := HP2.out.bv.blk.cell 3; have x0 := HP2.out.bx.blk.cell 0; have x1 := HP2.out.bx.blk.cell 1; have x2 := HP2.out.bx.blk.cell 2; have x3 := HP2.out.bx.blk.cell 3; simp at p3 x0 x1 x2 x3)
              go_roundw
              case rel => exact ⟨k + 2, (m + 1), cc2, false, A2, _, (ts ++ [t]), by omega, by have := HI.out.2.2.1; omega, rfl, rfl, by go_num, keepf ⟨HP2.out, by rw [HI.out.2.1, HD.out, left_le HGT.out]; rw [HZ1.out, HZ2.out]; simp, fun h => by (have := HI.out.2.2.1 rfl; omega), fun _ => by omega⟩⟩
              case measure => simp [intOf]; omega
        · have HGT := keepf (show ¬ gtT key t from fun h => h5 (by rw [← htk]; exact h.1))
          have f5 : (tk == 5) = false := by simpa using h5
          clear htk htn hts hd ht h5
          by_cases hmore : k + 1 < len
          · obtain ⟨u, hu⟩ : ∃ u, u = k + 1 := ⟨_, rfl⟩
            have hul : u < len := by omega
            have HU := keepf hu
            have e1 : (k : Int) + 1 = (u : Int) := by omega
            have k1 : IntKind.i64.wrap (u : Int) = (u : Int) := by rw [IntKind.wrap_i64]; omega
            have i2 : (u : Int) < len := by omega
            obtain ⟨t2, ht2, hd2⟩ := drop_vt (l := l) (k := u) (by rw [HL.out]; exact hul)
            obtain ⟨fA, fl, fc, hvf, hcf⟩ := el_at HR.out ht2
            obtain ⟨uk, huk⟩ : ∃ tk, t2.kind = tk := ⟨_, rfl⟩
            obtain ⟨un, hun⟩ : ∃ tn, t2.num = tn := ⟨_, rfl⟩
            obtain ⟨us, hus⟩ : ∃ ts, t2.str = ts := ⟨_, rfl⟩
            rw [huk, hun, hus] at hvf
            rw [huk, hun, hus] at hcf
            have HCF := keepf hcf
            have HVF := keepf hvf
            have HD2 := keepf hd2
            have HT2 := keepf ht2
            clear hvf hcf hd2 ht2 hu huk hun hus
            have HP0 := keepf HI.out.1
            go_wp2_with first
              | (at_builtin; refine appV (w := w) (new := [⟨tk, tn, tss, eA, el, ec⟩]) (tn := [t]) rfl (.tmp 56) (.tmp 62) rfl rfl rfl HP0.out.gv ((Chg.refl _ _).alloc _) (by first | omega | (simp only [List.length_cons, List.length_nil]; omega)) (by first | omega | (simp only [List.length_cons, List.length_nil]; omega)) (src_new _ _ [⟨tk, tn, tss, eA, el, ec⟩] _ rfl _ _ rfl) rfl rfl (is_one HVE.out) ?_; intro A2 cc2 w2 hg2 hk2; have HP2 := keepf (HP0.out.app _ hg2 hk2); clear hg2 hk2; have p3 := HP2.out.bv.blk.cell 3; have x0 := HP2.out.bx.blk.cell 0; have x1 := HP2.out.bx.blk.cell 1; have x2 := HP2.out.bx.blk.cell 2; have x3 := HP2.out.bx.blk.cell 3; simp at p3 x0 x1 x2 x3; obtain ⟨f0, f1, f2, f3⟩ := HCF.out _ HP2.out.gv.chg)
              | (at_builtin; refine appV (w := w) (new := [⟨uk, un, us, fA, fl, fc⟩]) (tn := [t2]) rfl (.tmp 77) (.tmp 84) rfl rfl rfl HP2.out.gv ((Chg.refl _ _).alloc _) (by first | omega | (simp only [List.length_cons, List.length_nil]; omega)) (by first | omega | (simp only [List.length_cons, List.length_nil]; omega)) (src_new _ _ [⟨uk, un, us, fA, fl, fc⟩] _ rfl _ _ rfl) rfl rfl (is_one HVF.out) ?_; intro A3 cc3 w3 hg3 hk3; have HP3 := keepf (HP2.out.app _ hg3 hk3); clear hg3 hk3)
            go_roundw
            case rel => exact ⟨k + 2, ((m + 1) + 1), cc3, false, A3, _, ((ts ++ [t]) ++ [t2]), by omega, by have := HI.out.2.2.1; omega, rfl, rfl, by go_num, keepf ⟨HP3.out, by rw [HI.out.2.1, HD.out, left_le HGT.out]; rw [← HU.out, HD2.out, HU.out]; simp, fun h => by (have := HI.out.2.2.1 rfl; omega), fun _ => by omega⟩⟩
            case measure => simp [intOf]; omega
          · have hul : k + 1 = len := by omega
            have HZ1 := keepf (show l.drop (k + 1) = [] from List.drop_of_length_le (by rw [HL.out]; omega))
            have HZ2 := keepf (show l.drop (k + 2) = [] from List.drop_of_length_le (by rw [HL.out]; omega))
            have e1 : ¬ (k : Int) + 1 < len := by omega
            have d3 : decide ((k : Int) + 1 < len) = false := by simp; omega
            have k1 : IntKind.i64.wrap ((k : Int) + 1) = (k : Int) + 1 := by rw [IntKind.wrap_i64]; omega
            have HP0 := keepf HI.out.1
            go_wp2_with first
              | (at_builtin; refine appV (w := w) (new := [⟨tk, tn, tss, eA, el, ec⟩]) (tn := [t]) rfl (.tmp 56) (.tmp 62) rfl rfl rfl HP0.out.gv ((Chg.refl _ _).alloc _) (by first | omega | (simp only [List.length_cons, List.length_nil]; omega)) (by first | omega | (simp only [List.length_cons, List.length_nil]; omega)) (src_new _ _ [⟨tk, tn, tss, eA, el, ec⟩] _ rfl _ _ rfl) rfl rfl (is_one HVE.out) ?_; intro A2 cc2 w2 hg2 hk2; have HP2 := keepf (HP0.out.app _ hg2 hk2); clear hg2 hk2; have p3 := HP2.out.bv.blk.cell 3; have x0 := HP2.out.bx.blk.cell 0; have x1 := HP2.out.bx.blk.cell 1; have x2 := HP2.out.bx.blk.cell 2; have x3 := HP2.out.bx.blk.cell 3; simp at p3 x0 x1 x2 x3)
            go_roundw
            case rel => exact ⟨k + 2, (m + 1), cc2, false, A2, _, (ts ++ [t]), by omega, by have := HI.out.2.2.1; omega, rfl, rfl, by go_num, keepf ⟨HP2.out, by rw [HI.out.2.1, HD.out, left_le HGT.out]; rw [HZ1.out, HZ2.out]; simp, fun h => by (have := HI.out.2.2.1 rfl; omega), fun _ => by omega⟩⟩
            case measure => simp [intOf]; omega
      · clear htk htn hts hd ht
        by_cases hmore : k + 1 < len
        · obtain ⟨u, hu⟩ : ∃ u, u = k + 1 := ⟨_, rfl⟩
          have hul : u < len := by omega
          have HU := keepf hu
          have e1 : (k : Int) + 1 = (u : Int) := by omega
          have k1 : IntKind.i64.wrap (u : Int) = (u : Int) := by rw [IntKind.wrap_i64]; omega
          have i2 : (u : Int) < len := by omega
          obtain ⟨t2, ht2, hd2⟩ := drop_vt (l := l) (k := u) (by rw [HL.out]; exact hul)
          obtain ⟨fA, fl, fc, hvf, hcf⟩ := el_at HR.out ht2
          obtain ⟨uk, huk⟩ : ∃ tk, t2.kind = tk := ⟨_, rfl⟩
          obtain ⟨un, hun⟩ : ∃ tn, t2.num = tn := ⟨_, rfl⟩
          obtain ⟨us, hus⟩ : ∃ ts, t2.str = ts := ⟨_, rfl⟩
          rw [huk, hun, hus] at hvf
          rw [huk, hun, hus] at hcf
          have HCF := keepf hcf
          have HVF := keepf hvf
          have HD2 := keepf hd2
          have HT2 := keepf ht2
          clear hvf hcf hd2 ht2 hu huk hun hus
          have HP0 := keepf HI.out.1
          go_wp2_with first
            | (at_builtin; refine appV (w := w) (new := [⟨tk, tn, tss, eA, el, ec⟩]) (tn := [t]) rfl (.tmp 56) (.tmp 62) rfl rfl rfl HP0.out.gv ((Chg.refl _ _).alloc _) (by first | omega | (simp only [List.length_cons, List.length_nil]; omega)) (by first | omega | (simp only [List.length_cons, List.length_nil]; omega)) (src_new _ _ [⟨tk, tn, tss, eA, el, ec⟩] _ rfl _ _ rfl) rfl rfl (is_one HVE.out) ?_; intro A2 cc2 w2 hg2 hk2; have HP2 := keepf (HP0.out.app _ hg2 hk2); clear hg2 hk2; have p3 := HP2.out.bv.blk.cell 3; have x0 := HP2.out.bx.blk.cell 0; have x1 := HP2.out.bx.blk.cell 1; have x2 := HP2.out.bx.blk.cell 2; have x3 := HP2.out.bx.blk.cell 3; simp at p3 x0 x1 x2 x3; obtain ⟨f0, f1, f2, f3⟩ := HCF.out _ HP2.out.gv.chg)
            | (at_builtin; refine appV (w := w) (new := [⟨uk, un, us, fA, fl, fc⟩]) (tn := [t2]) rfl (.tmp 77) (.tmp 84) rfl rfl rfl HP2.out.gv ((Chg.refl _ _).alloc _) (by first | omega | (simp only [List.length_cons, List.length_nil]; omega)) (by first | omega | (simp only [List.length_cons, List.length_nil]; omega)) (src_new _ _ [⟨uk, un, us, fA, fl, fc⟩] _ rfl _ _ rfl) rfl rfl (is_one HVF.out) ?_; intro A3 cc3 w3 hg3 hk3; have HP3 := keepf (HP2.out.app _ hg3 hk3); clear hg3 hk3)
          go_roundw
          case rel => exact ⟨k + 2, ((m + 1) + 1), cc3, true, A3, _, ((ts ++ [t]) ++ [t2]), by omega, by have := HI.out.2.2.1; omega, rfl, rfl, by go_num, keepf ⟨HP3.out, by rw [HI.out.2.1, HD.out, left_done]; rw [← HU.out, HD2.out, HU.out]; simp, fun h => by (cases h), fun _ => by omega⟩⟩
          case measure => simp [intOf]; omega
        · have hul : k + 1 = len := by omega
          have HZ1 := keepf (show l.drop (k + 1) = [] from List.drop_of_length_le (by rw [HL.out]; omega))
          have HZ2 := keepf (show l.drop (k + 2) = [] from List.drop_of_length_le (by rw [HL.out]; omega))
          have e1 : ¬ (k : Int) + 1 < len := by omega
          have d3 : decide ((k : Int) + 1 < len) = false := by simp; omega
          have k1 : IntKind.i64.wrap ((k : Int) + 1) = (k : Int) + 1 := by rw [IntKind.wrap_i64]; omega
          have HP0 := keepf HI.out.1
          go_wp2_with first
            | (at_builtin; refine appV (w := w) (new := [⟨tk, tn, tss, eA, el, ec⟩]) (tn := [t]) rfl (.tmp 56) (.tmp 62) rfl rfl rfl HP0.out.gv ((Chg.refl _ _).alloc _) (by first | omega | (simp only [List.length_cons, List.length_nil]; omega)) (by first | omega | (simp only [List.length_cons, List.length_nil]; omega)) (src_new _ _ [⟨tk, tn, tss, eA, el, ec⟩] _ rfl _ _ rfl) rfl rfl (is_one HVE.out) ?_; intro A2 cc2 w2 hg2 hk2; have HP2 := keepf (HP0.out.app _ hg2 hk2); clear hg2 hk2; have p3 := HP2.out.bv.blk.cell 3; have x0 := HP2.out.bx.blk.cell 0; have x1 := HP2.out.bx.blk.cell 1; have x2 := HP2.out.bx.blk.cell 2; have x3 := HP2.out.bx.blk.cell 3; simp at p3 x0 x1 x2 x3)
          go_roundw
          case rel => exact ⟨k + 2, (m + 1), cc2, true, A2, _, (ts ++ [t]), by omega, by have := HI.out.2.2.1; omega, rfl, rfl, by go_num, keepf ⟨HP2.out, by rw [HI.out.2.1, HD.out, left_done]; rw [HZ1.out, HZ2.out]; simp, fun h => by (cases h), fun _ => by omega⟩⟩
          case measure => simp [intOf]; omega
    · obtain hkk : k = len ∨ k = len + 1 := HI.out.2.2.2 (by omega)
      have i1 : ¬ (k : Int) < len := by omega
      have HDZ := keepf (show l.drop k = [] from List.drop_of_length_le (by rw [HL.out]; omega))
      clear hkk h1
      cases done
      · have HFIN := keepf (show L = ts ++ [nmT key, tx] from by rw [HI.out.2.1, HDZ.out]; rfl)
        have hm9 := HI.out.2.2.1 rfl
        have HP0 := keepf HI.out.1
        go_upto_region 19 with (at_builtin; refine appV (w := w) (new := [⟨5, 0, key, none, 0, 0⟩, ⟨xk, xn, xs, xA, xl, xc⟩]) (tn := [nmT key, tx]) rfl (.tmp 92) (.tmp 96) rfl rfl rfl HP0.out.gv ((Chg.refl _ _).alloc _) (by first | omega | (simp only [List.length_cons, List.length_nil]; omega)) (by first | omega | (simp only [List.length_cons, List.length_nil]; omega)) (src_new _ _ [⟨5, 0, key, none, 0, 0⟩, ⟨xk, xn, xs, xA, xl, xc⟩] _ rfl _ _ rfl) rfl rfl (is_two HNM.out HVX.out) ?_; intro AF ccF wF hgF hkF; have HPF := keepf (HP0.out.app _ hgF hkF); clear hgF hkF; have p3 := HPF.out.bv.blk.cell 3; simp at p3)
        have gz3 := HPF.out.bv.blk.frozen 3
        have q0 := HPF.out.bv.blk.cell 0
        have q1 := HPF.out.bv.blk.cell 1
        have q2 := HPF.out.bv.blk.cell 2
        have q3 := HPF.out.bv.blk.cell 3
        simp at q0 q1 q2 q3
        go_upto_region 20 with fail
        clear q0 q1 q2 q3 gz3
        have HB9 : Hid (PB w (wF.setCell ⟨g, 3, none⟩ (.slice AF (m + 2) ccF)) g #[.int .i64 7, .int .i64 n, .string s, .slice AF (m + 2) ccF]) := HPF.out.bv.set 3 _
        have HO9 := keepf (HPF.out.bo.far (Ne.symm HNE.out.1) 3 (.slice AF (m + 2) ccF))
        have HG9 := keepf (HPF.out.gv.far HPF.out.nv HPF.out.bv.new 3 (.slice AF (m + 2) ccF))
        have HC9 := keepf HG9.out.chg
        have HN9 := keepf HPF.out.no
        obtain ⟨w9, hw9⟩ : ∃ W, W = wF.setCell ⟨g, 3, none⟩ (.slice AF (m + 2) ccF) := ⟨_, rfl⟩
        rw [← hw9] at HB9 HO9 HG9 HC9 ⊢
        clear hw9
        have q0 := HB9.out.blk.cell 0
        have q1 := HB9.out.blk.cell 1
        have q2 := HB9.out.blk.cell 2
        have q3 := HB9.out.blk.cell 3
        have z0 := HO9.out.blk.frozen 0
        have z1 := HO9.out.blk.frozen 1
        have z2 := HO9.out.blk.frozen 2
        have z3 := HO9.out.blk.frozen 3
        have y0 := HO9.out.blk.cell 0
        have y1 := HO9.out.blk.cell 1
        have y2 := HO9.out.blk.cell 2
        have y3 := HO9.out.blk.cell 3
        simp at q0 q1 q2 q3 y0 y1 y2 y3
        go_wp2_with fail
        try simp only [Exit.noGoto_ret]
        clear y0 y1 y2 y3
        obtain ⟨hb, hcc⟩ := HO9.out.set4 (a := .int .i64 7) (b := .int .i64 n) (c := .string s) (d := .slice AF (m + 2) ccF) HC9.out rfl
        have hgv := (((HG9.out.far HN9.out HO9.out.new 0 (.int .i64 7)).far HN9.out HO9.out.new 1 (.int .i64 n)).far HN9.out HO9.out.new 2 (.string s)).far HN9.out HO9.out.new 3 (.slice AF (m + 2) ccF)
        have r0 := hb.blk.cell 0
        have r1 := hb.blk.cell 1
        have r2 := hb.blk.cell 2
        have r3 := hb.blk.cell 3
        simp at r0 r1 r2 r3
        refine bodyPost_ret (v := .agg #[.int .i64 7, .int .i64 n, .string s, .slice AF (m + 2) ccF]) (by simp [results, Tryz.results135, go_sem, r0, r1, r2, r3]) rfl ?_
        exact ⟨⟨7, n, s, AF, (m + 2), ccF⟩, rfl, by rw [HE.out, HFIN.out]; exact hgv.val (by unfold maxLen; omega) 7 n s HGD.out.k HGD.out.n HGD.out.s, hcc⟩
      · have HFIN := keepf (show L = ts from by rw [HI.out.2.1, HDZ.out]; show ts ++ [] = ts; rw [List.append_nil])
        have HPF := keepf HI.out.1
        obtain ⟨wF, hwF⟩ : ∃ W, W = wr := ⟨_, rfl⟩
        rw [← hwF] at HPF ⊢
        rw [← hwF] at p0 p1 p2 p3 x0 x1 x2 x3
        clear hwF HI
        go_upto_region 19 with fail
        have gz3 := HPF.out.bv.blk.frozen 3
        have q0 := HPF.out.bv.blk.cell 0
        have q1 := HPF.out.bv.blk.cell 1
        have q2 := HPF.out.bv.blk.cell 2
        have q3 := HPF.out.bv.blk.cell 3
        simp at q0 q1 q2 q3
        go_upto_region 20 with fail
        clear q0 q1 q2 q3 gz3
        have HB9 : Hid (PB w (wF.setCell ⟨g, 3, none⟩ (.slice A2 m c2)) g #[.int .i64 7, .int .i64 n, .string s, .slice A2 m c2]) := HPF.out.bv.set 3 _
        have HO9 := keepf (HPF.out.bo.far (Ne.symm HNE.out.1) 3 (.slice A2 m c2))
        have HG9 := keepf (HPF.out.gv.far HPF.out.nv HPF.out.bv.new 3 (.slice A2 m c2))
        have HC9 := keepf HG9.out.chg
        have HN9 := keepf HPF.out.no
        obtain ⟨w9, hw9⟩ : ∃ W, W = wF.setCell ⟨g, 3, none⟩ (.slice A2 m c2) := ⟨_, rfl⟩
        rw [← hw9] at HB9 HO9 HG9 HC9 ⊢
        clear hw9
        have q0 := HB9.out.blk.cell 0
        have q1 := HB9.out.blk.cell 1
        have q2 := HB9.out.blk.cell 2
        have q3 := HB9.out.blk.cell 3
        have z0 := HO9.out.blk.frozen 0
        have z1 := HO9.out.blk.frozen 1
        have z2 := HO9.out.blk.frozen 2
        have z3 := HO9.out.blk.frozen 3
        have y0 := HO9.out.blk.cell 0
        have y1 := HO9.out.blk.cell 1
        have y2 := HO9.out.blk.cell 2
        have y3 := HO9.out.blk.cell 3
        simp at q0 q1 q2 q3 y0 y1 y2 y3
        go_wp2_with fail
        try simp only [Exit.noGoto_ret]
        clear y0 y1 y2 y3
        obtain ⟨hb, hcc⟩ := HO9.out.set4 (a := .int .i64 7) (b := .int .i64 n) (c := .string s) (d := .slice A2 m c2) HC9.out rfl
        have hgv := (((HG9.out.far HN9.out HO9.out.new 0 (.int .i64 7)).far HN9.out HO9.out.new 1 (.int .i64 n)).far HN9.out HO9.out.new 2 (.string s)).far HN9.out HO9.out.new 3 (.slice A2 m c2)
        have r0 := hb.blk.cell 0
        have r1 := hb.blk.cell 1
        have r2 := hb.blk.cell 2
        have r3 := hb.blk.cell 3
        simp at r0 r1 r2 r3
        refine bodyPost_ret (v := .agg #[.int .i64 7, .int .i64 n, .string s, .slice A2 m c2]) (by simp [results, Tryz.results135, go_sem, r0, r1, r2, r3]) rfl ?_
        exact ⟨⟨7, n, s, A2, m, c2⟩, rfl, by rw [HE.out, HFIN.out]; exact hgv.val (by unfold maxLen; omega) 7 n s HGD.out.k HGD.out.n HGD.out.s, hcc⟩

end Go.Proofs.YtcehpobjnbgpdaaGreatDoor

/- Concat of two and of three rows of values; a value's box whose row is another one. -/
namespace Go.Proofs.YtcehpobjnbgpdaaGreatDoor
open Go.RowKit
set_option linter.unusedVariables false
set_option linter.unusedSimpArgs false

/-- A piece of values that lies in memory; its trees lie in an elder world. -/
structure PcV (w0 W : World) (A : Option Addr) (m c : Nat) (es : List VC) (ts : List VT) : Prop where
  src : Src W 4 A m c (vcells es)
  len : es.length = m
  tlen : ts.length = m
  is : ∀ (j : Nat) (t : VT) (e : VC), ts[j]? = some t → es[j]? = some e → ValIs w0 t e

theorem PcV.ok {w0 W : World} {A : Option Addr} {m c : Nat} {es : List VC} {ts : List VT} (h : PcV w0 W A m c es ts) (hc : Chg NoS w0 W) : SlV.Ok W W ⟨A, c, es, ts⟩ := by
  have h1 := h.len
  subst h1
  exact ⟨h.src, h.tlen, fun j t e a b => (h.is j t e a b).chg hc⟩

/-- What Concat tells. -/
def CatTo (w0 W : World) (N : Nat) (es : List VC) (ts : List VT) (e : Ending) (w' : World) : Prop :=
  ∃ A3 c3, e = .returned (.slice A3 N c3) ∧ GV w0 w' es ts N A3 c3 ∧ Chg NoS W w' ∧ ∀ g, g < W.heap.size → (Value.slice A3 N c3).ownBlock ≠ some g

theorem src_row1 {W : World} {G : Nat} {T : TypeId} {L : List Value} {n : Nat} (hb : Blk W G T L.toArray) (hn : L.length = n) : Src W 1 (some ⟨G, 0, none⟩) n n L := by
  refine ⟨by omega, fun e => (by cases e), fun ad ha j u hj => ?_⟩
  cases ha
  have hadd : (⟨G, 0, none⟩ : Addr).add j = ⟨G, j, none⟩ := by unfold Addr.add; split <;> simp_all
  rw [hadd, hb.cell j]
  simpa using hj

theorem is_app {w0 : World} {es es' : List VC} {ts ts' : List VT} {m : Nat} (h1 : es.length = m) (h2 : ts.length = m) (hi : ∀ (j : Nat) (t : VT) (e : VC), ts[j]? = some t → es[j]? = some e → ValIs w0 t e) (hi' : ∀ (j : Nat) (t : VT) (e : VC), ts'[j]? = some t → es'[j]? = some e → ValIs w0 t e) :
    ∀ (j : Nat) (t : VT) (e : VC), (ts ++ ts')[j]? = some t → (es ++ es')[j]? = some e → ValIs w0 t e := by
  intro j t e ht he
  by_cases hj : j < m
  · rw [List.getElem?_append_left (by omega)] at ht
    rw [List.getElem?_append_left (by omega)] at he
    exact hi j t e ht he
  · rw [List.getElem?_append_right (by omega), h2] at ht
    rw [List.getElem?_append_right (by omega), h1] at he
    exact hi' _ t e ht he

theorem pc_nil {w0 W : World} {A : Option Addr} {c : Nat} (h : A = none → c = 0) : PcV w0 W A 0 c [] [] :=
  ⟨⟨rfl, fun e => ⟨rfl, h e⟩, fun ad ha j u hj => (by simp [vcells] at hj)⟩, rfl, rfl, fun j t e h => (by simp at h)⟩

/-- The pieces of a row that came in. -/
theorem pieces {w : World} {b off : Nat} {l : List VT} (hr : RowIs w (some ⟨b, off, none⟩) 0 l) : ∃ es : List VC, es.length = l.length ∧
    (∀ (W : World) (q cx : Nat), Chg NoS w W → q ≤ l.length → PcV w W (some ⟨b, off, none⟩) q cx (es.take q) (l.take q)) ∧
    (∀ (W : World) (r o m cx : Nat), Chg NoS w W → r + m = l.length → (0 < m → o = off + r * 4) → PcV w W (some ⟨b, o, none⟩) m cx (es.drop r) (l.drop r)) := by
  obtain ⟨es, hes, hec, hei⟩ := hr.list
  refine ⟨es, hes, fun W q cx hc hq => ⟨?_, by rw [List.length_take, hes]; omega, by rw [List.length_take]; omega, fun j t e h1 h2 => ?_⟩, fun W r o m cx hc hr2 ho => ?_⟩
  · have h := src_piece (p := 0) (m := q) (cx := cx) hec hc (by rw [hes]; omega)
    simpa using h
  · rw [List.getElem?_take] at h1 h2
    split at h1
    · next h => rw [if_pos h] at h2; exact hei j t e h1 h2
    · cases h1
  · by_cases hm : m = 0
    · subst hm
      rw [List.drop_of_length_le (by omega), List.drop_of_length_le (by omega)]
      exact pc_nil (fun e => (by cases e))
    · obtain rfl := ho (by omega)
      refine ⟨?_, by rw [List.length_drop, hes]; omega, by rw [List.length_drop]; omega, fun j t e h1 h2 => ?_⟩
      · have h := src_piece (p := r) (m := m) (cx := cx) hec hc (by rw [hes]; omega)
        rwa [List.take_of_length_le (by rw [List.length_drop, hes]; omega)] at h
      · rw [List.getElem?_drop] at h1 h2
        exact hei _ t e h1 h2

theorem pc_one {w W : World} {t : VT} {e : VC} {B : Nat} (hv : ValIs w t e) (hb : Blk W B 24 #[.int .i64 e.k, .int .i64 e.n, .string e.s, .slice e.A e.len e.cap]) : PcV w W (some ⟨B, 0, none⟩) 1 1 [e] [t] :=
  ⟨src_one (fun i hi => by
    rw [hb.cell i]
    match i, hi with
    | 0, _ => rfl
    | 1, _ => rfl
    | 2, _ => rfl
    | 3, _ => rfl), rfl, rfl, is_one hv⟩

theorem pc_two {w W : World} {t u : VT} {e f : VC} {B : Nat} (hv : ValIs w t e) (hu : ValIs w u f) (hb : Blk W B 24 #[.int .i64 e.k, .int .i64 e.n, .string e.s, .slice e.A e.len e.cap, .int .i64 f.k, .int .i64 f.n, .string f.s, .slice f.A f.len f.cap]) : PcV w W (some ⟨B, 0, none⟩) 2 2 [e, f] [t, u] := by
  refine ⟨⟨rfl, fun e => (by cases e), fun ad ha j x hj => ?_⟩, rfl, rfl, is_two hv hu⟩
  cases ha
  have hadd : (⟨B, 0, none⟩ : Addr).add j = ⟨B, j, none⟩ := by unfold Addr.add; split <;> simp_all
  rw [hadd, hb.cell j]
  rw [show vcells [e, f] = [.int .i64 e.k, .int .i64 e.n, .string e.s, .slice e.A e.len e.cap, .int .i64 f.k, .int .i64 f.n, .string f.s, .slice f.A f.len f.cap] from rfl] at hj
  simpa using hj

/-- What holds behind Concat of the two boxes, and of the row that it tells. -/
structure Bx (w W : World) (g go : Nat) (cv cz : Array Value) (es : List VC) (ts : List VT) (m : Nat) (A : Option Addr) (c : Nat) : Prop where
  b : PB w W g cv
  o : PB w W go cz
  row : GV w W es ts m A c
  nb : (Value.slice A m c).ownBlock ≠ some g
  no : (Value.slice A m c).ownBlock ≠ some go
  ne : g ≠ go

theorem Bx.drew {w W : World} {g go : Nat} {cv cz : Array Value} {es : List VC} {ts : List VT} {m c : Nat} {A : Option Addr} (h : Bx w W g go cv cz es ts m A c) : Bx w W.drew g go cv cz es ts m A c := ⟨h.b.drew, h.o.drew, h.row.call ((Chg.refl NoS W).drew), h.nb, h.no, h.ne⟩

/-- The new row is stored in the value's box. -/
theorem Bx.put {w W : World} {g go : Nat} {k n : Int} {s : ByteArray} {v : Value} {cz : Array Value} {es : List VC} {ts : List VT} {m c : Nat} {A : Option Addr} (h : Bx w W g go #[.int .i64 k, .int .i64 n, .string s, v] cz es ts m A c) :
    Bx w (W.setCell ⟨g, 3, none⟩ (.slice A m c)) g go #[.int .i64 k, .int .i64 n, .string s, .slice A m c] cz es ts m A c :=
  ⟨h.b.set 3 _, h.o.far (Ne.symm h.ne) 3 _, h.row.far h.nb h.b.new 3 _, h.nb, h.no, h.ne⟩

/-- The value is told: its four cells in the result's box. -/
theorem Bx.fin {w W : World} {g go : Nat} {k n : Int} {s : ByteArray} {cv cz : Array Value} {es : List VC} {ts : List VT} {m c : Nat} {A : Option Addr} (h : Bx w W g go cv cz es ts m A c) (hz : cz.size = 4) (hm : m ≤ maxLen)
    (hk : -9223372036854775808 ≤ k ∧ k ≤ 9223372036854775807) (hn : -9223372036854775808 ≤ n ∧ n ≤ 9223372036854775807) (hs : s.size ≤ maxLen) (W' : World) (hW : W' = (((W.setCell ⟨go, 0, none⟩ (.int .i64 k)).setCell ⟨go, 1, none⟩ (.int .i64 n)).setCell ⟨go, 2, none⟩ (.string s)).setCell ⟨go, 3, none⟩ (.slice A m c)) :
    PB w W' go #[.int .i64 k, .int .i64 n, .string s, .slice A m c] ∧ ValIs W' (.mk k n s ts) ⟨k, n, s, A, m, c⟩ ∧ Chg NoS w W' := by
  subst hW
  obtain ⟨h1, h2⟩ := h.o.set4 (a := .int .i64 k) (b := .int .i64 n) (c := .string s) (d := .slice A m c) h.row.chg hz
  exact ⟨h1, ((((h.row.far h.no h.o.new 0 _).far h.no h.o.new 1 _).far h.no h.o.new 2 _).far h.no h.o.new 3 _).val hm k n s hk hn hs, h2⟩

end Go.Proofs.YtcehpobjnbgpdaaGreatDoor

