/- Two sources of one file, pieces put in whatever order: what the walk of SourceOrder carries. -/
import Derived.Test.YtnbjigopgbjneaaSoFw
namespace Go.Proofs.Ytnbjigopgbjneaa
open Go.RowKit
set_option linter.unusedVariables false
set_option linter.unusedSimpArgs false

/-- A source that knows F of the file bs. -/
def SvAt (w : World) (bs : List Nat) (S : Nat → Prop) (g M : Nat) (F : List Sp) : Prop := ∃ m c, m ≤ M ∧ SoAt w S g bs.length m F c ∧ ∀ q : Nat, Num F q → c q = bs.getD q 0

theorem SvAt.chg {w w' : World} {bs : List Nat} {S T : Nat → Prop} {g M : Nat} {F : List Sp} (h : SvAt w bs S g M F) (hc : Chg T w w') (hT : ∀ i, T i → ¬ S i) (hN : NoNode T w) : SvAt w' bs S g M F := by
  obtain ⟨m, c, hm, hs, hv⟩ := h
  exact ⟨m, c, hm, hs.chg hc hT hN, hv⟩

theorem SvAt.no {w w' : World} {bs : List Nat} {S : Nat → Prop} {g M : Nat} {F : List Sp} (h : SvAt w bs S g M F) (hc : Chg NoS w w') : SvAt w' bs S g M F := h.chg hc (fun _ h => h.elim) (noS_node w)

theorem SvAt.mono {w : World} {bs : List Nat} {S : Nat → Prop} {g M M' : Nat} {F : List Sp} (h : SvAt w bs S g M F) (hM : M ≤ M') : SvAt w bs S g M' F := by
  obtain ⟨m, c, hm, hs, hv⟩ := h
  exact ⟨m, c, by omega, hs, hv⟩

theorem SvAt.form {w : World} {bs : List Nat} {S : Nat → Prop} {g M : Nat} {F : List Sp} (h : SvAt w bs S g M F) : Form F := by
  obtain ⟨m, c, hm, hs, hv⟩ := h
  exact hs.form

theorem SvAt.lt {w : World} {bs : List Nat} {S : Nat → Prop} {g M : Nat} {F : List Sp} (h : SvAt w bs S g M F) {i : Nat} (hi : S i) : i < w.heap.size := by
  obtain ⟨m, c, hm, hs, hv⟩ := h
  exact hs.lt hi

theorem SvAt.node {w : World} {bs : List Nat} {S : Nat → Prop} {g M : Nat} {F : List Sp} (h : SvAt w bs S g M F) : NoNode S w := by
  obtain ⟨m, c, hm, hs, hv⟩ := h
  exact hs.node

theorem sv_new {w : World} {bs : List Nat} {S : Nat → Prop} {g : Nat} (h : SoAt w S g bs.length 0 [] (fun _ => 0)) : SvAt w bs S g 0 [] := ⟨0, _, Nat.le_refl _, h, fun q hq => absurd hq (num_nil _)⟩

/-- May a span be put? -/
def okS (n : Nat) (y : Sp) : Bool := decide (0 ≤ y.1) && decide (y.1 ≤ y.2) && decide (y.2 ≤ (n : Int))

def ordF (n : Nat) (l : List Sp) : List Sp := puts (l.filter (okS n)) []

theorem ordF_zero (n : Nat) (l : List Sp) : ordF n (l.take 0) = [] := by simp [ordF, puts]

theorem ordF_yes {n : Nat} {l : List Sp} {k : Nat} {y : Sp} (h : l[k]? = some y) (hy : okS n y = true) : ordF n (l.take (k + 1)) = putF y (ordF n (l.take k)) := by
  unfold ordF
  rw [List.take_add_one, h, Option.toList_some, List.filter_append, List.filter_cons_of_pos hy, List.filter_nil, puts_snoc]

theorem ordF_no {n : Nat} {l : List Sp} {k : Nat} {y : Sp} (h : l[k]? = some y) (hy : okS n y = false) : ordF n (l.take (k + 1)) = ordF n (l.take k) := by
  unfold ordF
  rw [List.take_add_one, h, Option.toList_some, List.filter_append, List.filter_cons_of_neg (by rw [hy]; decide), List.filter_nil, List.append_nil]

theorem ok_le {n : Nat} {y : Sp} (h : okS n y = true) : 0 ≤ y.1 ∧ y.1 ≤ y.2 ∧ y.2 ≤ (n : Int) := by
  simp [okS] at h
  omega

theorem ordF_len (n : Nat) (hn : n ≤ 1000000) (l : List Sp) : (ordF n l).length ≤ l.length := by
  have h := puts_len (l.filter (okS n)) [] Form.nil (fun y hy => by have := ok_le (List.mem_filter.1 hy).2; omega)
  have h2 := List.length_filter_le (okS n) l
  unfold ordF
  simp only [List.length_nil] at h
  omega

theorem ordF_rev (n : Nat) (hn : n ≤ 1000000) (l : List Sp) : ordF n l.reverse = ordF n l := by
  unfold ordF
  refine (puts_order (fun y hy => ?_) (fun y => ?_))
  · have := ok_le (List.mem_filter.1 hy).2
    omega
  · simp [List.mem_filter]

/-- How much is read from a place on. -/
def rdK (n : Nat) (F : List Sp) (p : Nat) : Nat := readN n F p (n : Nat)

theorem rdK_nil (n p : Nat) (hp : p ≤ n) : rdK n [] p = 0 := by
  have e : uptoL [] (max (p : Int) 0) = max (p : Int) 0 := rfl
  unfold rdK readN firstP
  rw [e]
  omega

theorem rdK_le {n : Nat} {F : List Sp} (hF : Form F) {p : Nat} (hp : p ≤ n) : p + rdK n F p ≤ n ∧ ∀ q : Nat, p ≤ q → q < p + rdK n F p → Num F q := by
  obtain ⟨h1, h2, h3⟩ := firstP_le hF hp
  unfold rdK readN
  exact ⟨by omega, fun q h4 h5 => h3 q h4 (by omega)⟩

theorem rdK_mono {n : Nat} {F G : List Sp} (hF : Form F) (hG : Form G) {p : Nat} (hp : p ≤ n) (h : ∀ q : Nat, Num F q → Num G q) : rdK n F p ≤ rdK n G p := by
  have hf := upto_spec hF (p : Int)
  have hg := upto_spec hG (p : Int)
  have e : max (p : Int) 0 = (p : Int) := by omega
  unfold rdK readN firstP
  rw [e]
  obtain ⟨u, hu⟩ : ∃ u : Nat, uptoL G (p : Int) = (u : Int) := ⟨(uptoL G (p : Int)).toNat, by omega⟩
  rw [hu] at hg ⊢
  have : uptoL F (p : Int) ≤ (u : Int) := by
    rcases Int.lt_or_le (u : Int) (uptoL F (p : Int)) with h1 | h1
    · exact absurd (h u (hf.2.1 _ hg.1 h1)) hg.2.2
    · exact h1
  omega

/-- The bytes that are read. -/
def rdS (bs : List Nat) (F : List Sp) (p : Nat) : List Nat := (bs.drop p).take (rdK bs.length F p)

theorem rdS_len {bs : List Nat} {F : List Sp} (hF : Form F) {p : Nat} (hp : p ≤ bs.length) : (rdS bs F p).length = rdK bs.length F p := by
  have := (rdK_le hF hp).1
  simp [rdS]
  omega

theorem rdS_pre {bs : List Nat} {F G : List Sp} {p : Nat} (h : rdK bs.length F p ≤ rdK bs.length G p) : (rdS bs G p).take (rdK bs.length F p) = rdS bs F p := by
  unfold rdS
  rw [List.take_take]
  congr 1
  omega

/-- What is read of such a source. -/
def SvRd (w : World) (bs : List Nat) (F : List Sp) (p : Nat) (e : Ending) (w' : World) : Prop :=
  ∃ gr, e = .returned (.tuple #[.slice (some ⟨gr, 0, none⟩) (rdK bs.length F p) (rdK bs.length F p), .bool (decide (p + rdK bs.length F p = bs.length))]) ∧ Src w' 1 (some ⟨gr, 0, none⟩) (rdK bs.length F p) (rdK bs.length F p) (lcells (rdS bs F p)) ∧ Chg NoS w w'

theorem sv_read {w : World} {bs : List Nat} {S : Nat → Prop} {g M : Nat} {F : List Sp} (h : SvAt w bs S g M F) (p : Nat) (hn : bs.length ≤ 300) (hp : p ≤ bs.length) :
    Calls Try.prog 12 #[.pointer (some ⟨g, 0, none⟩), .int .i64 (p : Nat), .int .i64 (bs.length : Nat)] w (SvRd w bs F p) := by
  obtain ⟨m, c, hm, hs, hv⟩ := h
  refine (read_ok hs p bs.length (by omega) hp).mono ?_
  rintro e w' ⟨gr, he, ho, hc, hn2⟩
  have hle := rdK_le hs.form hp
  have e1 : rngB c p (rdK bs.length F p) = rdS bs F p := by
    have e2 : rngB c p (rdK bs.length F p) = rngB (fun q => bs.getD q 0) p (rdK bs.length F p) := rngB_congr fun q h1 h2 => hv q (hle.2 q h1 h2)
    rw [e2]
    exact rng_take (fun q _ => rfl) hle.1
  have ho2 := src_own ho
  change Src w' 1 _ (rdK bs.length F p) (rdK bs.length F p) (lcells (rngB c p (rdK bs.length F p))) at ho2
  rw [e1] at ho2
  exact ⟨gr, he, ho2, hc⟩

theorem sv_known {w : World} {bs : List Nat} {S : Nat → Prop} {g M : Nat} {F : List Sp} (h : SvAt w bs S g M F) (hl : F.length ≤ 100000000) : Calls Try.prog 17 #[.pointer (some ⟨g, 0, none⟩)] w (RowTo w F) := by
  obtain ⟨m, c, hm, hs, hv⟩ := h
  exact known_so hs hl

/-- A piece is put. -/
def SvPut (w : World) (bs : List Nat) (S : Nat → Prop) (g M : Nat) (F : List Sp) (e : Ending) (w' : World) : Prop :=
  e = .returned (.int .i64 0) ∧ ∃ S', SvAt w' bs S' g M F ∧ (∀ i, S' i → S i ∨ w.heap.size ≤ i) ∧ Chg S w w'

theorem sv_put {w : World} {bs : List Nat} {S : Nat → Prop} {g M : Nat} {F : List Sp} (h : SvAt w bs S g M F) (A : Option Addr) (cap y1 y2 : Nat) (hS : Src w 1 A bs.length cap (lcells bs)) (hcap : bs.length ≤ cap) (hn : bs.length ≤ 300) (hM : M ≤ 100000) (hF : F.length ≤ 1000) (hy : y1 ≤ y2) (hy2 : y2 ≤ bs.length)
    (hA : 0 < bs.length → ∀ ad, A = some ad → ¬ S ad.block) :
    Calls Try.prog 11 #[.pointer (some ⟨g, 0, none⟩), .int .i64 (y1 : Nat), .slice (cutL A y1 cap) (y2 - y1) (cap - y1)] w (SvPut w bs S g (M + 300) (putF ((y1 : Int), (y2 : Int)) F)) := by
  obtain ⟨m, c, hm, hs, hv⟩ := h
  have hsrc := src_cutL (lo := y1) (m := y2 - y1) hS hcap (by omega)
  have e : (List.drop y1 (lcells bs)).take (y2 - y1) = lcells ((bs.drop y1).take (y2 - y1)) := by simp [lcells]
  rw [e] at hsrc
  have hl : ((bs.drop y1).take (y2 - y1)).length = y2 - y1 := by simp; omega
  refine (put_so hs y1 (cutL A y1 cap) (y2 - y1) (cap - y1) ((bs.drop y1).take (y2 - y1)) (by omega) hsrc hl (by omega) (by omega) (by omega) (by omega) (by omega) (fun h0 ad e1 hi => by
    obtain ⟨ad0, h1, h2⟩ := cutL_block e1
    rw [← h2] at hi
    exact hA (by omega) ad0 h1 hi)).mono ?_
  rintro e w' ⟨S', c', he, h1, h2, h3, h4, h5, h6⟩
  rw [hl, show y1 + (y2 - y1) = y2 from by omega] at h1
  rw [hl] at h3
  refine ⟨he, S', ⟨_, c', by omega, h1, fun q hq => ?_⟩, h4, h6⟩
  by_cases h7 : Num F q
  · rw [h2 q h7]
    exact hv q h7
  · rcases (putF_num hs.form q).1 hq with h8 | ⟨_, h8, h9⟩
    · exact absurd h8 h7
    · simp only at h8 h9
      rw [h3 q (by omega) (by omega) h7, List.getD_eq_getElem?_getD, List.getD_eq_getElem?_getD, List.getElem?_take_of_lt (by omega), List.getElem?_drop, show y1 + (q - y1) = q from by omega]

/-- The two sources, apart, made by the call. -/
structure StO (w wr : World) (bs : List Nat) (S T : Nat → Prop) (g h M : Nat) (F G : List Sp) : Prop where
  s : SvAt wr bs S g M F
  t : SvAt wr bs T h M G
  c : Chg NoS w wr
  dis : ∀ i, S i → ¬ T i
  lo : ∀ i, S i → w.heap.size ≤ i
  hi : ∀ i, T i → w.heap.size ≤ i

theorem StO.no {w wr w' : World} {bs : List Nat} {S T : Nat → Prop} {g h M : Nat} {F G : List Sp} (k : StO w wr bs S T g h M F G) (hc : Chg NoS wr w') : StO w w' bs S T g h M F G :=
  ⟨k.s.no hc, k.t.no hc, k.c.then_ hc, k.dis, k.lo, k.hi⟩

theorem StO.mono {w wr : World} {bs : List Nat} {S T : Nat → Prop} {g h M M' : Nat} {F G : List Sp} (k : StO w wr bs S T g h M F G) (hM : M ≤ M') : StO w wr bs S T g h M' F G :=
  ⟨k.s.mono hM, k.t.mono hM, k.c, k.dis, k.lo, k.hi⟩

theorem StO.putS {w wr w' : World} {bs : List Nat} {S T : Nat → Prop} {g h M : Nat} {F F' G : List Sp} {e : Ending} (k : StO w wr bs S T g h M F G) (hp : SvPut wr bs S g (M + 300) F' e w') : ∃ S', StO w w' bs S' T g h (M + 300) F' G := by
  obtain ⟨he, S', h1, h2, h3⟩ := hp
  refine ⟨S', h1, (k.t.chg h3 (fun i hi => k.dis i hi) k.s.node).mono (by omega), k.c.trans h3 (fun i hi h4 => by have := k.lo i h4; omega), fun i h4 h5 => ?_, fun i h4 => ?_, k.hi⟩
  · rcases h2 i h4 with h6 | h6
    · exact k.dis i h6 h5
    · have := k.t.lt h5; omega
  · rcases h2 i h4 with h6 | h6
    · exact k.lo i h6
    · exact Nat.le_trans k.c.size h6

theorem StO.swap {w wr : World} {bs : List Nat} {S T : Nat → Prop} {g h M : Nat} {F G : List Sp} (k : StO w wr bs S T g h M F G) : StO w wr bs T S h g M G F :=
  ⟨k.t, k.s, k.c, fun i h1 h2 => k.dis i h2 h1, k.hi, k.lo⟩

theorem StO.putT {w wr w' : World} {bs : List Nat} {S T : Nat → Prop} {g h M : Nat} {F G G' : List Sp} {e : Ending} (k : StO w wr bs S T g h M F G) (hp : SvPut wr bs T h (M + 300) G' e w') : ∃ T', StO w w' bs S T' g h (M + 300) F G' := by
  obtain ⟨T', h1⟩ := k.swap.putS hp
  exact ⟨T', h1.swap⟩

end Go.Proofs.Ytnbjigopgbjneaa
