/- Put: bytes become known, where they were not. -/
import Derived.Test.YtnbjigopgbjneaaSoFs
import Derived.Deep.RegionHeld3
import Derived.Deep.Cut
namespace Go.Proofs.Ytnbjigopgbjneaa
open Go.RowKit
set_option linter.unusedVariables false
set_option linter.unusedSimpArgs false

theorem FillTo.chg {w w' : World} {b m : Nat} {a : Nat → Option Nat} {c : Nat → Nat} {p : Nat} {bs : List Nat} {e : Ending} (h : FillTo w b m a c p bs e w') : Chg (FpS b a) w w' := by
  obtain ⟨_, _, _, _, _, _, _, _, h⟩ := h
  exact h

theorem FillTo.ret {w w' : World} {b m : Nat} {a : Nat → Option Nat} {c : Nat → Nat} {p : Nat} {bs : List Nat} {e : Ending} (h : FillTo w b m a c p bs e w') : e = .returned (.tuple #[]) := by
  obtain ⟨_, _, h, _⟩ := h
  exact h

/-- Behind k gaps. -/
structure GapI (w : World) (b m : Nat) (a : Nat → Option Nat) (c : Nat → Nat) (p : Nat) (bs : List Nat) (gs : List Sp) (k : Nat) (a2 : Nat → Option Nat) (m2 : Nat) (c2 : Nat → Nat) (wr : World) : Prop where
  map : MapP wr b m2 a2
  bl : BlAt wr a2 c2
  ext : Ext w a a2
  mle : ∃ e : Nat, p ≤ e ∧ e ≤ p + bs.length ∧ m2 ≤ m + (e - p) ∧ ∀ y ∈ gs.drop k, (e : Int) ≤ y.1
  cov : ∀ q : Nat, Num (gs.take k) q → ∃ d, a2 (q / 1024) = some d
  val : ∀ q : Nat, Num (gs.take k) q → c2 q = bs.getD (q - p) 0
  keep : ∀ q : Nat, ¬ Num (gs.take k) q → c2 q = c q
  chg : Chg (FpS b a) w wr

theorem GapI.next {w : World} {b m : Nat} {a : Nat → Option Nat} {c : Nat → Nat} {p : Nat} {bs : List Nat} {gs : List Sp} {k : Nat} {a2 : Nat → Option Nat} {m2 : Nat} {c2 : Nat → Nat} {wr w2 w3 : World} {y1 y2 : Nat} {e : Ending}
    (h : GapI w b m a c p bs gs k a2 m2 c2 wr) (hF : Form gs) (hin : ∀ y ∈ gs, (p : Int) ≤ y.1 ∧ y.2 ≤ ((p + bs.length : Nat) : Int)) (hk : gs[k]? = some ((y1 : Int), (y2 : Int))) (hc2 : Chg NoS wr w2)
    (hf : FillTo w2 b m2 a2 c2 y1 ((bs.drop (y1 - p)).take (y2 - p - (y1 - p))) e w3) : e = .returned (.tuple #[]) ∧ ∃ a3 m3 c3, GapI w b m a c p bs gs (k + 1) a3 m3 c3 w3 := by
  obtain ⟨a3, m3, rfl, hM3, hm3, hB3, hx3, hcov3, hc3⟩ := hf
  have hmem := List.mem_of_getElem? hk
  have hy := hF.ok _ hmem
  have hyi := hin _ hmem
  simp only at hy hyi
  have hlen : ((bs.drop (y1 - p)).take (y2 - p - (y1 - p))).length = y2 - y1 := by simp; omega
  rw [hlen] at hm3 hcov3
  have htk : ∀ q : Nat, Num (gs.take (k + 1)) q ↔ Num (gs.take k) q ∨ (y1 ≤ q ∧ q < y2) := fun q => by
    rw [List.take_add_one, hk, Option.toList_some, num_append]
    constructor
    · rintro (h1 | ⟨z, hz, h1⟩)
      · exact .inl h1
      · simp at hz; subst hz; simp only at h1; exact .inr (by omega)
    · rintro (h1 | h1)
      · exact .inl h1
      · exact .inr ⟨_, List.mem_singleton.2 rfl, by simp only; omega⟩
  have hdis : ∀ q : Nat, Num (gs.take k) q → q < y1 := fun q ⟨z, hz, h1⟩ => by
    obtain ⟨j, hj, hjz⟩ := List.mem_iff_getElem.1 hz
    obtain ⟨hk1, hky⟩ := List.getElem?_eq_some_iff.1 hk
    simp at hj
    have hp := List.pairwise_iff_getElem.1 hF.up j k (by omega) hk1 (by omega)
    rw [List.getElem_take] at hjz
    rw [hjz, hky] at hp
    simp only at hp
    omega
  obtain ⟨e0, e1, e2, e3, e4⟩ := h.mle
  have hd0 : (e0 : Int) ≤ y1 := by
    have : ((y1 : Int), (y2 : Int)) ∈ gs.drop k := List.mem_iff_getElem?.2 ⟨0, by rw [List.getElem?_drop]; exact hk⟩
    exact e4 _ this
  refine ⟨rfl, a3, m3, _, hM3, hB3, h.ext.trans hx3 (Nat.le_trans h.chg.size hc2.size), ⟨y2, by omega, by omega, by omega, fun z hz => ?_⟩, fun q hq => ?_, fun q hq => ?_, fun q hq => ?_, ?_⟩
  · obtain ⟨j, hjz⟩ := List.mem_iff_getElem?.1 hz
    rw [List.getElem?_drop] at hjz
    obtain ⟨hj, hjz⟩ := List.getElem?_eq_some_iff.1 hjz
    obtain ⟨hk1, hky⟩ := List.getElem?_eq_some_iff.1 hk
    have hp := List.pairwise_iff_getElem.1 hF.up k (k + 1 + j) hk1 hj (by omega)
    rw [hjz, hky] at hp
    simp only at hp
    omega
  · rcases (htk q).1 hq with h1 | h1
    · obtain ⟨d, hd⟩ := h.cov q h1
      exact ⟨d, hx3.1 _ _ hd⟩
    · exact hcov3 q h1.1 (by omega)
  · unfold putB
    rw [hlen]
    rcases (htk q).1 hq with h1 | h1
    · have := hdis q h1
      rw [if_neg (by omega)]
      exact h.val q h1
    · rw [if_pos (by omega), List.getD_eq_getElem?_getD, List.getD_eq_getElem?_getD, List.getElem?_take_of_lt (by omega), List.getElem?_drop, show y1 - p + (q - y1) = q - p from by omega]
  · have h1 : ¬ Num (gs.take k) q := fun h1 => hq ((htk q).2 (.inl h1))
    have h2 : ¬ (y1 ≤ q ∧ q < y2) := fun h2 => hq ((htk q).2 (.inr h2))
    unfold putB
    rw [hlen, if_neg (by omega)]
    exact h.keep q h1
  · exact (h.chg.then_ hc2).trans hc3 (fun i hi h5 => fp_ext h.ext hi h5)

/-- Bytes are put. -/
def SoPutTo (w : World) (S : Nat → Prop) (g n m : Nat) (F : List Sp) (c : Nat → Nat) (p : Nat) (bs : List Nat) (e : Ending) (w' : World) : Prop :=
  ∃ S' c', e = .returned (.int .i64 0) ∧ SoAt w' S' g n (m + bs.length) (putF ((p : Int), ((p + bs.length : Nat) : Int)) F) c' ∧ (∀ q : Nat, Num F q → c' q = c q) ∧ (∀ q : Nat, p ≤ q → q < p + bs.length → ¬ Num F q → c' q = bs.getD (q - p) 0) ∧
    (∀ i, S' i → S i ∨ w.heap.size ≤ i) ∧ (∀ i, S i → S' i) ∧ Chg S w w'

/-- All gaps are filled, and the span is in. -/
theorem put_all {w w1 w2 w3 : World} {S : Nat → Prop} {g n m : Nat} {F : List Sp} {c : Nat → Nat} {b : Nat} {o : Option Addr} {t : Tr} {a : Nat → Option Nat} {p : Nat} {bs : List Nat} {gs : List Sp} {a2 : Nat → Option Nat} {m2 : Nat} {c2 : Nat → Nat} {e : Ending}
    (h : SoB w S g n m F c b o t a) (h1 : Chg NoS w w1) (hp : p + bs.length ≤ n) (hn : n ≤ 2147483647) (hgs : gs = missF ((p : Int), ((p + bs.length : Nat) : Int)) F)
    (hI : GapI w1 b m a c p bs gs gs.length a2 m2 c2 w2)
    (hP : PutC w2 g 2 63 (soCs g n o b) (putF ((p : Int), ((p + bs.length : Nat) : Int)) F) e w3) :
    e = .returned (.tuple #[]) ∧ ∃ S' c', SoAt w3 S' g n (m + bs.length) (putF ((p : Int), ((p + bs.length : Nat) : Int)) F) c' ∧ (∀ q : Nat, Num F q → c' q = c q) ∧ (∀ q : Nat, p ≤ q → q < p + bs.length → ¬ Num F q → c' q = bs.getD (q - p) 0) ∧
    (∀ i, S' i → S i ∨ w.heap.size ≤ i) ∧ (∀ i, S i → S' i) ∧ Chg S w w3 := by
  obtain ⟨he, ⟨o3, t3, o4, hb3, hi3, ht3, hf3, hF3⟩, hc3⟩ := hP
  have ho : o4 = o3 := by
    simp at hi3
    exact hi3.symm
  subst ho
  have hx : ((p + bs.length : Nat) : Int) ≤ 9223372036854775807 := by omega
  have hm := missF_num h.form ((p : Int), ((p + bs.length : Nat) : Int))
  rw [← hgs] at hm
  have hgb : g ≠ b := h.map.ne h.blk
  have hga : ∀ k d, a2 k = some d → d ≠ g := fun k d hd e1 => by
    subst e1
    rcases hI.ext.2 k d hd with h5 | h5
    · exact Blk.ne_ h.blk (h.bl.lie k d h5) (by decide) rfl
    · have := h.blk.lt
      have := h1.size
      omega
  have htake : gs.take gs.length = gs := List.take_length
  obtain ⟨e0, e1, e2, e3, _⟩ := hI.mle
  have hcv : ∀ q : Nat, Num F q → ∃ d, a2 (q / 1024) = some d := fun q hq => by
    obtain ⟨d, hd⟩ := h.cov q hq
    exact ⟨d, hI.ext.1 _ _ hd⟩
  refine ⟨he, fun i => i = g ∨ FpS b a2 i, c2, ⟨b, o4, t3, a2, ?_⟩, fun q hq => ?_, fun q h5 h6 h7 => ?_, fun i hi => ?_, fun i hi => ?_, ?_⟩
  · refine ⟨hb3, ht3, hf3, hF3, fun y hy => ?_, (hI.map.chg hc3 (fun e => hgb e.symm)).mono (by omega), hI.bl.chg hc3 (fun k d hd e => hga k d hd e), fun i => Iff.rfl, fun q hq => ?_⟩
    · have hok := hF3.ok y hy
      have hnum : Num (putF ((p : Int), ((p + bs.length : Nat) : Int)) F) (y.2 - 1) := ⟨y, hy, by omega, by omega⟩
      rcases (putF_num h.form (y.2 - 1)).1 hnum with ⟨z, hz, h5⟩ | ⟨_, h5⟩
      · have := h.le z hz
        omega
      · simp only at h5
        omega
    · by_cases h5 : Num F q
      · exact hcv q h5
      · rcases (putF_num h.form q).1 hq with h6 | ⟨h6, h7, h8⟩
        · exact absurd h6 h5
        · have := hI.cov q (by rw [htake]; exact (hm q).2 ⟨h6, h7, h8, h5⟩)
          exact this
  · refine hI.keep q (fun h5 => ?_)
    rw [htake] at h5
    exact ((hm q).1 h5).2.2.2 hq
  · refine hI.val q ?_
    rw [htake]
    exact (hm q).2 ⟨by simp [emptyB]; omega, by simp only; omega, by simp only; omega, h7⟩
  · rcases hi with rfl | rfl | ⟨k, hk⟩
    · exact .inl ((h.fp i).2 (.inl rfl))
    · exact .inl ((h.fp i).2 (.inr (.inl rfl)))
    · rcases hI.ext.2 k i hk with h5 | h5
      · exact .inl ((h.fp i).2 (.inr (.inr ⟨k, h5⟩)))
      · have := h1.size
        exact .inr (by omega)
  · rcases (h.fp i).1 hi with rfl | rfl | ⟨k, hk⟩
    · exact .inl rfl
    · exact .inr (.inl rfl)
    · exact .inr (.inr ⟨k, hI.ext.1 _ _ hk⟩)
  · refine ((h1.mono (T := S) (fun _ _ h => h.elim)).trans hI.chg (fun i hi h5 => ?_)).trans hc3 (fun i hi h5 => ?_)
    · exact (h.fp i).2 (.inr h5)
    · exact (h.fp i).2 (.inl h5)

end Go.Proofs.Ytnbjigopgbjneaa
