/- What Add of a sum does with parts. -/
import Derived.Test.YtgfdinclhakjhaaSum
namespace Go.Proofs.Ytgfdinclhakjhaa
open Go.RowKit
set_option linter.unusedVariables false

/-- A slice of bytes that may be nil. -/
structure Piece where
  A : Option Addr
  len : Nat
  cap : Nat
  bs : List Nat
instance : Inhabited Piece := ⟨⟨none, 0, 0, []⟩⟩
def Piece.cell (p : Piece) : Value := .slice p.A p.len p.cap
/-- It lies in memory, not in one of the blocks of S. -/
structure Piece.At (p : Piece) (w : World) (S : Nat → Prop) : Prop where
  src : Src w 1 p.A p.len p.cap (ucells p.bs)
  len : p.bs.length = p.len
  cap : p.len ≤ p.cap
  bytes : ∀ x ∈ p.bs, x < 256
  apart : ∀ a, p.A = some a → 0 < p.len → ¬ S a.block
theorem Piece.At.chg {p : Piece} {w w' : World} {S T : Nat → Prop} (h : p.At w S) (hc : Chg T w w') (hT : ∀ a, p.A = some a → 0 < p.len → ¬ T a.block) : p.At w' S :=
  ⟨h.src.chg hc hT (fun h0 => by have := h.src.1; omega), h.len, h.cap, h.bytes, h.apart⟩
theorem Piece.At.no {p : Piece} {w w' : World} {S : Nat → Prop} (h : p.At w S) (hc : Chg NoS w w') : p.At w' S := h.chg hc (fun _ _ _ h => h)

def Piece.all (ps : List Piece) : List Nat := ps.flatMap Piece.bs

theorem all_snoc (ps : List Piece) (k : Nat) (p : Piece) (h : ps[k]? = some p) : Piece.all (ps.take (k + 1)) = Piece.all (ps.take k) ++ p.bs := by
  rw [List.take_add_one, h]
  simp [Piece.all]

theorem all_le (ps : List Piece) (k : Nat) : (Piece.all (ps.take k)).length ≤ (Piece.all ps).length := by
  have e : (Piece.all ps).length = (Piece.all (ps.take k ++ ps.drop k)).length := by rw [List.take_append_drop]
  rw [e]
  simp only [Piece.all, List.flatMap_append, List.length_append]
  omega

set_option maxHeartbeats 1000000 in
theorem add_any (w : World) (b : Nat) (all : List Nat) (A : Option Addr) (m c : Nat) (ps : List Piece) (hb : SumAt w b all) (hl : ps.length = m) (hS : Src w 1 A m c (ps.map Piece.cell)) (hA : ∀ a, A = some a → 0 < m → a.block ≠ b)
    (hp : ∀ p ∈ ps, p.At w (fun i => i = b)) (hle : ∀ p ∈ ps, p.len ≤ 1048576) (hm : m ≤ 1000) (hn : all.length + (Piece.all ps).length ≤ 1000000000000) :
    Calls Try.prog 10 #[.pointer (some ⟨b, 0, none⟩), .slice A m c] w fun e w' => e = .returned (.tuple #[]) ∧ SumAt w' b (all ++ Piece.all ps) ∧ Chg (fun i => i = b) w w' := by
  have HB := keepf hb
  have HL := keepf hl
  have HS := keepf hS
  have HA := keepf hA
  have HP := keepf hp
  have HLE := keepf hle
  have HN := keepf hn
  clear hb hl hS hA hp hle hn
  go_enter Try.func10, Try.ntmps10
  go_wp2_with fail
  go_loopw [10] (fun vi wr => ∃ k : Nat, k ≤ m ∧ vi = .int .i64 (k : Nat) ∧ Hid (SumAt wr b (all ++ Piece.all (ps.take k)) ∧ Chg (fun i => i = b) w wr))
    (fun vi _ => m - (intOf vi).toNat)
  case atStart => exact ⟨0, Nat.zero_le _, rfl, keepf ⟨by simpa [Piece.all] using HB.out, Chg.refl _ _⟩⟩
  case round =>
    obtain ⟨k, hk, rfl, HI⟩ := hrel
    by_cases hlt : k < m
    · obtain ⟨p, hpk⟩ : ∃ p, ps[k]? = some p := ⟨_, List.getElem?_eq_getElem (by rw [HL.out]; exact hlt)⟩
      have hmem : p ∈ ps := List.mem_of_getElem? hpk
      obtain ⟨ba, off, hAe, hcell⟩ := (HS.out.chg HI.out.2 (by intro a ha h0; exact HA.out a ha h0) (by intro h; omega)).plain (by simp [HL.out]; omega)
      have hcp := hcell k p.cell (by simp [hpk])
      have hpa := (HP.out p hmem).chg HI.out.2 (HP.out p hmem).apart
      have hpl := HLE.out p hmem
      have hnk : ((all ++ Piece.all (ps.take k)).length : Int) ≤ 1000000000000 := by
        have := all_le ps k
        have := HN.out
        rw [List.length_append]
        omega
      have hps := hpa.len
      have HPA := keepf hpa
      have HSN := keepf (all_snoc ps k p hpk)
      clear hcell hpa hmem hpk
      obtain ⟨pA, plen, pcap, pbs⟩ := p
      simp only [Piece.cell] at hcp hpl hps
      have htk := take_any wr b (all ++ Piece.all (ps.take k)) (all ++ Piece.all (ps.take k)).length pA plen pcap pbs HI.out.1 HPA.out.src HPA.out.len hpl HPA.out.cap HPA.out.bytes HPA.out.apart
      have HTK := keepf htk
      clear htk
      subst hAe
      obtain ⟨n0, hn0⟩ : ∃ n0, (all ++ Piece.all (ps.take k)).length = n0 := ⟨_, rfl⟩
      rw [hn0] at HTK hnk
      have HN0 := keepf hn0
      clear hn0
      go_wp2_with fail
      refine HTK.out.mono ?_
      rintro e w2 ⟨rfl, hh2, hc2⟩
      have c2 := hh2.cell 2
      have f2 := hh2.frozen 2
      simp at c2
      have HH2 := keepf hh2
      have HC2 := keepf hc2
      clear hh2 hc2
      go_wp2_with fail
      go_roundw
      case rel =>
        refine ⟨k + 1, by omega, by go_num, keepf ⟨?_, ((HI.out.2).trans HC2.out (fun _ _ h => h)).setCell (p := ⟨b, 2, none⟩) (fun _ => rfl) _⟩⟩
        have h1 := HH2.out.set_ 2 (.int .i64 ((n0 : Int) + plen))
        have h2 := HSN.out
        rw [h2, ← List.append_assoc]
        unfold SumAt Halves
        rw [List.length_append, HN0.out, hps]
        simpa using h1
      case measure => simp [intOf]; omega
    · obtain rfl : k = m := by omega
      go_wp2_with fail
      go_end0
      refine ⟨rfl, ?_, HI.out.2⟩
      have := HI.out.1
      rwa [List.take_of_length_le (by rw [HL.out]; exact Nat.le_refl _)] at this
end Go.Proofs.Ytgfdinclhakjhaa
