/- strings.Cut at one byte: it asks nothing of the world. -/
import Derived.Test.YtmmehaghcfdjdaaNLib
import Derived.Test.YtmmehaghcfdjdaaShelf
import Derived.WalkMore
import Derived.BigQuiet
import Derived.BigRegion
import Derived.OwnWalk
import Derived.Deep.Cut
import Derived.Deep.QuietTactic
namespace Go.Proofs.Ytmmehaghcfdjdaa
open Go.RowKit
set_option linter.unusedVariables false
set_option linter.unusedSimpArgs false

/-- What is ahead of the first byte c, what is behind it, and whether there is one. -/
def cutB (c : Nat) : List Nat → List Nat × List Nat × Bool
  | [] => ([], [], false)
  | x :: l => if x = c then ([], l, true) else (x :: (cutB c l).1, (cutB c l).2.1, (cutB c l).2.2)
theorem cutB_at (c : UInt8) : ∀ (l : List UInt8), (Lib.indexByte l c = -1 ∧ cutB c.toNat (l.map UInt8.toNat) = (l.map UInt8.toNat, [], false)) ∨
    ∃ i : Nat, Lib.indexByte l c = i ∧ i < l.length ∧ cutB c.toNat (l.map UInt8.toNat) = ((l.map UInt8.toNat).take i, (l.map UInt8.toNat).drop (i + 1), true) := by
  intro l
  induction l with
  | nil => exact .inl ⟨rfl, rfl⟩
  | cons x l ih =>
    rw [List.map_cons, cutB, Lib.indexByte]
    by_cases h : x = c
    · subst h
      exact .inr ⟨0, by simp, by simp, by simp⟩
    · have h2 : ¬ x.toNat = c.toNat := fun h2 => h (UInt8.toNat_inj.1 h2)
      have h3 : (x == c) = false := by simpa using h
      rw [if_neg h2]
      rcases ih with ⟨h4, h5⟩ | ⟨i, h4, h5, h6⟩
      · refine .inl ⟨?_, by rw [h5]⟩
        simp [h3, h4]
      · refine .inr ⟨i + 1, ?_, by simpa using h5, by rw [h6]; simp⟩
        simp [h3, h4]
theorem cutB_take {l : List Nat} (n : Nat) : (sb l).extract 0 n = sb (l.take n) := by
  unfold sb
  apply ByteArray.ext
  rw [ByteArray.data_extract]
  simp [List.map_take]
theorem cutB_drop {l : List Nat} (n m : Nat) (h : l.length = m) : (sb l).extract n m = sb (l.drop n) := by
  unfold sb
  apply ByteArray.ext
  rw [ByteArray.data_extract]
  simp only [List.extract_toArray, List.extract_eq_take_drop, List.map_drop]
  congr 1
  exact List.take_of_length_le (by rw [List.length_drop, List.length_map]; omega)

set_option maxHeartbeats 1000000 in
theorem cutI_any (c : UInt8) (m : List Nat) (hb : ∀ d ∈ m, d < 256) (hl : m.length ≤ 1000000) (w : World) :
    Calls Try.prog 52 #[.string (sb m), .string ⟨#[c]⟩] w fun e w' => e = .returned (.tuple #[.string (sb (cutB c.toNat m).1), .string (sb (cutB c.toNat m).2.1), .bool (cutB c.toNat m).2.2]) ∧ Chg NoS w w' := by
  have hm : (sb m).data.toList.map UInt8.toNat = m := sl_sb m hb
  have HC := keepf (cutB_at c (sb m).data.toList)
  have HI := keepf (fun W => Go.Proofs.Try.stringslite_Index_one (sb m) c W)
  rw [hm] at HC
  obtain ⟨z, hz⟩ : ∃ z, Lib.indexByte (sb m).data.toList c = z := ⟨_, rfl⟩
  rw [hz] at HC HI
  have hlen : (sb m).data.toList.length = m.length := by rw [← List.length_map (f := UInt8.toNat), hm]
  rw [hlen] at HC
  obtain ⟨n, hn⟩ : ∃ n, m.length = n := ⟨_, rfl⟩
  have hs : (sb m).size = n := by rw [sb_size, hn]
  obtain ⟨t, ht⟩ : ∃ t, sb m = t := ⟨_, rfl⟩
  rcases HC.out with ⟨rfl, h2⟩ | ⟨i, rfl, hi, h2⟩
  · have HE := keepf h2
    rw [ht] at HI ⊢
    have HT := keepf ht
    clear HC h2 hm hz hlen ht
    go_enter Try.func52, Try.ntmps52
    go_wp2_with (go_at_call 60; refine (HI.out _).mono ?_; rintro e w2 ⟨rfl, rfl⟩)
    go_ret3
    rw [HE.out]
    exact ⟨by rw [show (m, ([] : List Nat), false).1 = m from rfl, HT.out]; rfl, Chg.refl _ _⟩
  · have HE := keepf h2
    have e1 := cutB_take (l := m) i
    have e2 := cutB_drop (l := m) (i + 1) n hn
    obtain ⟨a, ha⟩ : ∃ a, sb (m.take i) = a := ⟨_, rfl⟩
    obtain ⟨b, hb2⟩ : ∃ b, sb (m.drop (i + 1)) = b := ⟨_, rfl⟩
    rw [ht] at HI hs e1 e2 ⊢
    rw [ha] at e1
    rw [hb2] at e2
    rw [hn] at hi hl
    have i1 : (i : Int) ≤ n := by omega
    have i2 : (i : Int) + 1 ≤ n := by omega
    have i3 : (0 : Int) ≤ (i : Int) + 1 := by omega
    have i4 : i ≤ n := by omega
    have i5 : i + 1 ≤ n := by omega
    have i6 : ((i : Int) + 1).toNat = i + 1 := by omega
    have d1 : decide ((0 : Int) ≤ i) = true := by simp
    have k1 : IntKind.i64.wrap ((i : Int) + 1) = (i : Int) + 1 := by rw [IntKind.wrap_i64]; omega
    have HA := keepf ha
    have HB := keepf hb2
    clear HC h2 hm hz hlen ht hi ha hb2 hn hb
    go_enter Try.func52, Try.ntmps52
    go_upto_region 3 with (go_at_call 60; refine (HI.out _).mono ?_; rintro e w2 ⟨rfl, rfl⟩)
    go_quiet (fail)
    go_wp2_with fail
    go_ret3
    rw [HE.out]
    exact ⟨by rw [show (m.take i, m.drop (i + 1), true).1 = m.take i from rfl, show (m.take i, m.drop (i + 1), true).2.1 = m.drop (i + 1) from rfl, HA.out, HB.out]; rfl, (Chg.refl _ _).drewN nq⟩

theorem cutF_any (c : UInt8) (m : List Nat) (hb : ∀ d ∈ m, d < 256) (hl : m.length ≤ 1000000) (w : World) :
    Calls Try.prog 44 #[.string (sb m), .string ⟨#[c]⟩] w fun e w' => e = .returned (.tuple #[.string (sb (cutB c.toNat m).1), .string (sb (cutB c.toNat m).2.1), .bool (cutB c.toNat m).2.2]) ∧ Chg NoS w w' := by
  have H := keepf (fun W => cutI_any c m hb hl W)
  obtain ⟨t, ht⟩ : ∃ t, sb m = t := ⟨_, rfl⟩
  obtain ⟨a, ha⟩ : ∃ a, sb (cutB c.toNat m).1 = a := ⟨_, rfl⟩
  obtain ⟨b, hb2⟩ : ∃ b, sb (cutB c.toNat m).2.1 = b := ⟨_, rfl⟩
  obtain ⟨f, hf⟩ : ∃ f, (cutB c.toNat m).2.2 = f := ⟨_, rfl⟩
  rw [ht, ha, hb2, hf] at H
  rw [ht, ha, hb2, hf]
  clear ht ha hb2 hf hb hl
  go_enter Try.func44, Try.ntmps44
  go_wp2_with (go_at_call 52; refine (H.out _).mono ?_; rintro e w2 ⟨rfl, hc2⟩; have HC2 := keepf hc2; clear hc2)
  go_ret3
  exact ⟨rfl, HC2.out⟩
end Go.Proofs.Ytmmehaghcfdjdaa
