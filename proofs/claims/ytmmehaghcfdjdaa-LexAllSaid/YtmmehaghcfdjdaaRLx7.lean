/- The document's own Next, from any place on. -/
import Derived.Test.YtmmehaghcfdjdaaRLx6
namespace Go.Proofs.Ytmmehaghcfdjdaa
open Go.RowKit
set_option linter.unusedVariables false
set_option linter.unusedSimpArgs false
set_option maxHeartbeats 4000000 in
set_option maxRecDepth 100000 in
theorem rnext_bad (n : Nat) (A : Option Addr) (c : Nat) (p : Int) (last : Bool) (w : World) (hp : p < 0 ∨ (n : Int) < p) :
    Calls Try.prog 10 #[.slice A n c, .int .i64 p, .bool last] w (NxTo w (2, noT 0)) := by
  by_cases h0 : p < 0
  · go_enter Try.func10, Try.ntmps10
    go_wp2_with fail
    (try simp only [Exit.noGoto_ret])
    refine bodyPost_ret (v := .tuple #[.agg #[.int .i64 0, .int .i64 0, .int .i64 0, .int .i64 0, .int .i64 0, .string ⟨#[]⟩, .slice none 0 0, .string ⟨#[]⟩], .int .i64 2]) (by simp [results, Try.results10, go_sem]) rfl ?_
    exact ⟨rfl, (Chg.refl NoS w).alloc _⟩
  · have h1 : (n : Int) < p := hp.resolve_left h0
    have h2 : decide (p < 0) = false := by simpa using h0
    clear hp h0
    go_enter Try.func10, Try.ntmps10
    go_wp2_with fail
    (try simp only [Exit.noGoto_ret])
    refine bodyPost_ret (v := .tuple #[.agg #[.int .i64 0, .int .i64 0, .int .i64 0, .int .i64 0, .int .i64 0, .string ⟨#[]⟩, .slice none 0 0, .string ⟨#[]⟩], .int .i64 2]) (by simp [results, Try.results10, go_sem]) rfl ?_
    exact ⟨rfl, (Chg.refl NoS w).alloc _⟩
theorem rnext_any (bs : List Nat) (A : Option Addr) (c : Nat) (p : Int) (last : Bool) (w : World) (hS : Src w 1 A bs.length c (lcells bs)) (hl : bs.length ≤ 90000) (hc : bs.length ≤ c) (hb : ∀ x ∈ bs, x < 256) :
    Calls Try.prog 10 #[.slice A bs.length c, .int .i64 p, .bool last] w (NxTo w (nextA bs p last)) := by
  unfold nextA
  by_cases h : p < 0 ∨ (bs.length : Int) < p
  · rw [if_pos h]
    exact rnext_bad bs.length A c p last w h
  · rw [if_neg h]
    have h2 := rnext_in bs A c p.toNat last w hS hl hc (by omega) hb
    rwa [show ((p.toNat : Nat) : Int) = p from by omega] at h2
end Go.Proofs.Ytmmehaghcfdjdaa
