/- A row of truths cut at both ends. -/
import Derived.Test.YtmkgffmeookblaaRefBits
namespace Go.Proofs.Ytmkgffmeookblaa
open Go.RowKit
set_option linter.unusedVariables false

theorem cut_own {w : World} {A : Option Addr} {N c : Nat} {L : List Bool} (h : w.ownsRow 0 4 1 (.slice A N c) N (tcells L)) (a n : Nat) (han : a + n ≤ N) (hm : N ≤ 1000000) :
    ∃ As cs, (∀ wx, (Instr.slice 25 (.slice A N c) (some (.int .i64 (a : Int))) (some (.int .i64 ((a : Int) + (n : Int)))) none).run Try.prog wx = .ok (.slice As n cs) wx) ∧
      Src w 1 As n cs (tcells ((L.drop a).take n)) := by
  have hl : L.length = N := by
    have := h.1
    simpa [tcells] using this
  have hNc : N ≤ c := by
    rcases h.2 with ⟨h', h0⟩ | ⟨g, cap, cur, h', _, _, h1, _⟩
    · omega
    · simp only [Value.slice.injEq] at h'
      omega
  have hS := src_own h
  refine ⟨if c = a then A else A.map (·.add (a * 1)), c - a, fun wx => ?_, ?_, ?_, ?_⟩
  · have h1 := run_slice_lh (P := Try.prog) (w := wx) 25 A N c (by kernel_rfl) .i64 .i64 (a : Int) ((a : Int) + (n : Int)) (by omega) (by omega) (by omega)
    rw [h1]
    have h2 : (sizeOf (Try.prog.elem 25)).run Try.prog wx = .ok 1 wx := by kernel_rfl
    rw [h2]
    simp only [Result.andThen, sliced, Int.toNat_natCast, show ((a : Int) + (n : Int)).toNat = a + n from by omega, Nat.add_sub_cancel_left]
  · rw [tcells_len]
    simp
    omega
  · intro hn
    split at hn
    · rename_i hca
      subst hn
      have := hS.2.1 rfl
      omega
    · rename_i hca
      rw [Option.map_eq_none_iff] at hn
      have := hS.2.1 hn
      omega
  · intro ad had j u hu
    have hj : j < n := by
      have := (List.getElem?_eq_some_iff.1 hu).1
      rw [tcells_len, List.length_take] at this
      omega
    have hu2 : (tcells L)[a + j]? = some u := by
      rw [← hu]
      simp [tcells, hj]
    split at had
    · omega
    · rw [Option.map_eq_some_iff] at had
      obtain ⟨ad0, hA, rfl⟩ := had
      have := hS.2.2 ad0 hA (a + j) u hu2
      rw [Nat.mul_one, Go.Deep.add_add]
      exact this
end Go.Proofs.Ytmkgffmeookblaa
