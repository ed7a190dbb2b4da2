/- A source in memory: which places are known, and what they have. New, and what asks a source. -/
import Derived.Test.YtnbjigopgbjneaaSoRd
import Derived.Test.YtnbjigopgbjneaaSoPut
import Derived.Test.YtnbjigopgbjneaaSpanEl
import Derived.Shelf.RegionOpenPlain
import Derived.Lib.Builder
namespace Go.Proofs.Ytnbjigopgbjneaa
open Go.RowKit
set_option linter.unusedVariables false
set_option linter.unusedSimpArgs false

theorem MapP.mono {w : World} {b n m : Nat} {f : Nat → Option Nat} (h : MapP w b n f) (hn : n ≤ m) : MapP w b m f := by
  obtain ⟨es, clock, hb, F, hs, r⟩ := h
  exact ⟨es, clock, hb, F, Nat.le_trans hs hn, r⟩

/-- The cells of a source's own block. -/
abbrev soCs (g n : Nat) (o : Option Addr) (b : Nat) : Array Value := #[.pointer (some ⟨g, 0, none⟩), .int .i64 (n : Nat), .pointer o, .map (some b)]

/-- A source of n bytes at block g: F is known, with the bytes that c tells; S are its blocks. -/
structure SoB (w : World) (S : Nat → Prop) (g n m : Nat) (F : List Sp) (c : Nat → Nat) (b : Nat) (o : Option Addr) (t : Tr) (a : Nat → Option Nat) : Prop where
  blk : Blk w g 63 (soCs g n o b)
  tree : At w t o
  fl : flat t = F
  form : Form F
  le : ∀ y ∈ F, y.2 ≤ (n : Int)
  map : MapP w b m a
  bl : BlAt w a c
  fp : ∀ i, S i ↔ i = g ∨ FpS b a i
  cov : ∀ q : Nat, Num F (q : Int) → ∃ d, a (q / 1024) = some d

def SoAt (w : World) (S : Nat → Prop) (g n m : Nat) (F : List Sp) (c : Nat → Nat) : Prop := ∃ b o t a, SoB w S g n m F c b o t a

section
variable {w w' : World} {S T : Nat → Prop} {g n m : Nat} {F : List Sp} {c : Nat → Nat} {b : Nat} {o : Option Addr} {t : Tr} {a : Nat → Option Nat}
theorem SoB.lt (h : SoB w S g n m F c b o t a) {i : Nat} (hi : S i) : i < w.heap.size := by
  rcases (h.fp i).1 hi with rfl | rfl | ⟨k, hk⟩
  · exact h.blk.lt
  · exact h.map.lt
  · exact h.bl.lt hk
theorem SoB.node (h : SoB w S g n m F c b o t a) : NoNode S w := by
  intro i cs hi hb
  rcases (h.fp i).1 hi with rfl | rfl | ⟨k, hk⟩
  · exact Blk.ne_ h.blk hb (by decide) rfl
  · exact h.map.ne hb rfl
  · exact Blk.ne_ (h.bl.lie k i hk) hb (by decide) rfl
theorem SoB.chg (h : SoB w S g n m F c b o t a) (hc : Chg T w w') (hT : ∀ i, T i → ¬ S i) (hN : NoNode T w) : SoB w' S g n m F c b o t a where
  blk := h.blk.chg hc (fun e => hT g e ((h.fp g).2 (.inl rfl)))
  tree := h.tree.chg hc hN
  fl := h.fl
  form := h.form
  le := h.le
  map := h.map.chg hc (fun e => hT b e ((h.fp b).2 (.inr (.inl rfl))))
  bl := h.bl.chg hc (fun k d hk e => hT d e ((h.fp d).2 (.inr (.inr ⟨k, hk⟩))))
  fp := h.fp
  cov := h.cov
theorem SoB.no (h : SoB w S g n m F c b o t a) (hc : Chg NoS w w') : SoB w' S g n m F c b o t a := h.chg hc (fun _ h => h.elim) (noS_node w)
theorem SoB.set (h : SoB w S g n m F c b o t a) : SetC w g 2 63 (soCs g n o b) F := ⟨t, o, h.blk, rfl, h.tree, h.fl, h.form⟩
theorem SoB.setV (h : SoB w S g n m F c b o t a) : SetV w (some ⟨g, 2, none⟩) F := .inr ⟨g, 2, rfl, h.set.in_⟩
theorem SoB.cells (h : SoB w S g n m F c b o t a) : w.cell? ⟨g, 0, none⟩ = some (.pointer (some ⟨g, 0, none⟩)) ∧ w.cell? ⟨g, 1, none⟩ = some (.int .i64 (n : Nat)) ∧ w.cell? ⟨g, 3, none⟩ = some (.map (some b)) := by
  have h0 := h.blk.cell 0
  have h1 := h.blk.cell 1
  have h3 := h.blk.cell 3
  simp at h0 h1 h3
  exact ⟨h0, h1, h3⟩
theorem SoAt.chg (h : SoAt w S g n m F c) (hc : Chg T w w') (hT : ∀ i, T i → ¬ S i) (hN : NoNode T w) : SoAt w' S g n m F c := by
  obtain ⟨b, o, t, a, h⟩ := h
  exact ⟨b, o, t, a, h.chg hc hT hN⟩
theorem SoAt.no (h : SoAt w S g n m F c) (hc : Chg NoS w w') : SoAt w' S g n m F c := h.chg hc (fun _ h => h.elim) (noS_node w)
theorem SoAt.lt (h : SoAt w S g n m F c) {i : Nat} (hi : S i) : i < w.heap.size := by
  obtain ⟨b, o, t, a, h⟩ := h
  exact h.lt hi
theorem SoAt.node (h : SoAt w S g n m F c) : NoNode S w := by
  obtain ⟨b, o, t, a, h⟩ := h
  exact h.node
theorem SoAt.form (h : SoAt w S g n m F c) : Form F := by
  obtain ⟨b, o, t, a, h⟩ := h
  exact h.form
theorem SoAt.le (h : SoAt w S g n m F c) : ∀ y ∈ F, y.2 ≤ (n : Int) := by
  obtain ⟨b, o, t, a, h⟩ := h
  exact h.le
end

theorem info_so_ex : ∃ j, Try.prog.info? 63 = some j := ⟨_, rfl⟩

theorem info_so : Try.prog.info? 63 = some info_so_ex.choose := info_so_ex.choose_spec

/-- A new source. -/
def NewSo (w : World) (n : Nat) (e : Ending) (w' : World) : Prop :=
  ∃ g S, e = .returned (.tuple #[.pointer (some ⟨g, 0, none⟩), .int .i64 0]) ∧ SoAt w' S g n 0 [] (fun _ => 0) ∧ Chg NoS w w' ∧ ∀ i, S i → w.heap.size ≤ i

theorem new_so (w : World) (n : Nat) : ∃ W : World, (w.alloc (.map #[] 0)).alloc (.cells #[.pointer (some ⟨w.heap.size + 1, 0, none⟩), .int .i64 (n : Nat), .pointer none, .map (some w.heap.size)] 63) = W ∧
    SoAt W (fun i => i = w.heap.size ∨ i = w.heap.size + 1) (w.heap.size + 1) n 0 [] (fun _ => 0) ∧ Chg NoS w W := by
  have hb := Blk.new (w.alloc (.map #[] 0)) 63 #[.pointer (some ⟨w.heap.size + 1, 0, none⟩), .int .i64 (n : Nat), .pointer none, .map (some w.heap.size)]
  rw [World.size_alloc] at hb
  refine ⟨_, rfl, ⟨w.heap.size, none, .leaf, fun _ => none, ?_⟩, ((Chg.refl _ _).alloc _).alloc _⟩
  refine ⟨hb, rfl, rfl, Form.nil, fun y hy => (by cases hy), (MapP.made w).chg ((Chg.refl NoS _).alloc _) (fun h => h), blAt_none _, fun i => ?_, fun q hq => absurd hq (num_nil _)⟩
  unfold FpS
  constructor
  · rintro (h | h)
    · exact .inr (.inl h)
    · exact .inl h
  · rintro (h | h | ⟨k, h⟩)
    · exact .inr h
    · exact .inl h
    · cases h

set_option maxHeartbeats 1000000 in
theorem new_ok (n : Nat) (w : World) (hn : n ≤ 2147483647) :
    Calls Try.prog 7 #[.int .i64 (n : Nat)] w (NewSo w n) := by
  obtain ⟨W, hW, hS, hc⟩ := new_so w n
  have HS := keepf hS
  have HC := keepf hc
  have HW := keepf hW
  have hmm := @run_makeMap Try.prog
  have d0 : decide ((n : Int) < 0) = false := by simp
  have d1 : decide ((2147483647 : Int) < (n : Int)) = false := by simp; omega
  clear hW hS hc
  go_enter Try.func7, Try.ntmps7
  go_wp2_with fail
  go_ret2
  rw [HW.out]
  exact ⟨w.heap.size + 1, _, rfl, HS.out, HC.out, fun i h => by rcases h with h | h <;> omega⟩

theorem new_no (n : Int) (w : World) (hn : n < 0 ∨ 2147483647 < n) :
    Calls Try.prog 7 #[.int .i64 n] w (fun e w' => e = .returned (.tuple #[.pointer none, .int .i64 5]) ∧ w = w') := by
  by_cases h0 : n < 0
  · clear hn
    go_enter Try.func7, Try.ntmps7
    go_wp2_with fail
    go_ret2
    exact ⟨rfl, rfl⟩
  · have h1 : 2147483647 < n := by omega
    clear hn
    go_enter Try.func7, Try.ntmps7
    go_wp2_with fail
    go_ret2
    exact ⟨rfl, rfl⟩

section
variable {w : World} {S : Nat → Prop} {g n m : Nat} {F : List Sp} {c : Nat → Nat}
theorem ready_any (h : SoAt w S g n m F c) : Calls Try.prog 22 #[.pointer (some ⟨g, 0, none⟩)] w (fun e w' => e = .returned (.bool true) ∧ w = w') := by
  obtain ⟨b, o, t, a, h⟩ := h
  obtain ⟨c0, _, _⟩ := h.cells
  clear h
  go_enter Try.func22, Try.ntmps22
  go_wp2_with fail
  go_ret
  exact ⟨rfl, rfl⟩
def hasP (n : Nat) (p : Int) : Bool := decide (0 ≤ p) && decide (p ≤ (n : Int))
theorem has_so (h : SoAt w S g n m F c) (p : Int) : Calls Try.prog 23 #[.pointer (some ⟨g, 0, none⟩), .int .i64 p] w (fun e w' => e = .returned (.bool (hasP n p)) ∧ w = w') := by
  obtain ⟨b, o, t, a, h⟩ := h
  obtain ⟨_, c1, _⟩ := h.cells
  clear h
  by_cases h0 : 0 ≤ p
  · have H := keepf (show hasP n p = decide (p ≤ (n : Int)) by simp [hasP, h0])
    go_enter Try.func23, Try.ntmps23
    go_wp2_with fail
    go_ret
    exact ⟨ret_bool H.out.symm, rfl⟩
  · have H := keepf (show hasP n p = false by simp [hasP, h0])
    have d : decide (0 ≤ p) = false := by simpa using h0
    clear h0
    go_enter Try.func23, Try.ntmps23
    go_wp2_with fail
    go_ret
    exact ⟨ret_bool H.out.symm, rfl⟩
theorem part_so (h : SoAt w S g n m F c) : Calls Try.prog 24 #[.pointer (some ⟨g, 0, none⟩)] w (fun e w' => e = .returned (.tuple #[]) ∧ w = w') := by
  obtain ⟨b, o, t, a, h⟩ := h
  obtain ⟨c0, _, _⟩ := h.cells
  have hne := fun W => Go.Lib.run_neq_ptr_same (P := Try.prog) (w := W) ⟨g, 0, none⟩ Try.underlying23 info_so
  clear h
  go_enter Try.func24, Try.ntmps24
  go_wp2_with fail
  go_end0
  exact ⟨rfl, rfl⟩
theorem total_so (h : SoAt w S g n m F c) : Calls Try.prog 20 #[.pointer (some ⟨g, 0, none⟩)] w (fun e w' => e = .returned (.int .i64 (n : Nat)) ∧ w = w') := by
  have HR := keepf (ready_any h)
  obtain ⟨b, o, t, a, h⟩ := h
  obtain ⟨_, c1, _⟩ := h.cells
  clear h
  go_enter Try.func20, Try.ntmps20
  go_wp2_with (go_at_call 22; refine HR.out.mono ?_; rintro e w1 ⟨rfl, rfl⟩)
  go_ret
  exact ⟨rfl, rfl⟩
theorem known_so (h : SoAt w S g n m F c) (hl : F.length ≤ 100000000) : Calls Try.prog 17 #[.pointer (some ⟨g, 0, none⟩)] w (RowTo w F) := by
  have HR := keepf (ready_any h)
  obtain ⟨b, o, t, a, h⟩ := h
  have HAll := keepf (all_any _ F w h.setV hl)
  clear h
  go_enter Try.func17, Try.ntmps17
  go_wp2_with (first
    | (go_at_call 22; refine HR.out.mono ?_; rintro e w1 ⟨rfl, rfl⟩)
    | (go_at_call 31; refine HAll.out.mono ?_; rintro e w1 ⟨A, cap, rfl, ho, hc, hn⟩; have HO := keepf ho; have HC := keepf hc; have HN := keepf hn; clear ho hc hn))
  go_ret
  exact ⟨A, cap, rfl, HO.out, HC.out, HN.out⟩
/-- The first place that is not known. -/
def firstP (n : Nat) (F : List Sp) (p : Int) : Int := min (uptoL F (max p 0)) (n : Int)
end

end Go.Proofs.Ytnbjigopgbjneaa
