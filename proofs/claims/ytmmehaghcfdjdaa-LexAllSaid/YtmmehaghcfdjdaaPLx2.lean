/- The reader's small steps: a byte is taken, or passed; what is told at the end; a number to the base 8. -/
import Derived.Test.YtmmehaghcfdjdaaPLx1
import Derived.Test.YtmmehaghcfdjdaaBldr
import Derived.Deep.QuietTactic
namespace Go.Proofs.Ytmmehaghcfdjdaa
open Go.RowKit
set_option linter.unusedVariables false
set_option linter.unusedSimpArgs false

set_option maxHeartbeats 1000000 in
/-- No byte is left. -/
theorem ptake_end {V w W : World} {A : Option Addr} {n c R : Nat} {last : Bool} {out : List Nat} (h : RD V w W A n c last R n out) :
    Calls Try.prog 26 #[.pointer (some ⟨R, 0, none⟩)] W fun e W' => e = .returned (.tuple #[.int .u8 0, .bool false]) ∧ RD V w W' A n c last R n out := by
  obtain ⟨c2, c3, c4, f3⟩ := h.cells
  have H := keepf h
  clear h
  go_enter Try.func26, Try.ntmps26
  go_upto_region 1 with fail
  go_quiet (fail)
  go_wp2_with fail
  go_ret2
  exact ⟨rfl, H.out.drewN _⟩
set_option maxHeartbeats 1000000 in
theorem ptake_at {V w W : World} {A : Option Addr} {bs : List Nat} {c R p x : Nat} {last : Bool} {out : List Nat} (h : RD V w W A bs.length c last R p out) (hS : Src w 1 A bs.length c (lcells bs)) (hl : bs.length ≤ 1000000) (hc : bs.length ≤ c) (hx : bs[p]? = some x) :
    Calls Try.prog 26 #[.pointer (some ⟨R, 0, none⟩)] W fun e W' => e = .returned (.tuple #[.int .u8 (x : Nat), .bool true]) ∧ RD V w W' A bs.length c last R (p + 1) out := by
  have hp : p < bs.length := (List.getElem?_eq_some_iff.1 hx).1
  obtain ⟨c2, c3, c4, f3⟩ := h.cells
  have hR := h.new
  obtain ⟨b, off, rfl, hcell⟩ := lcell hS h.chg (by omega)
  have c0 := hcell p x hx
  have hbR : b ≠ R := by
    have h0 := (lcell hS (Chg.refl NoS w) (by omega))
    obtain ⟨b', off', e, hc'⟩ := h0
    cases e
    have := cell_lt (hc' p x hx)
    simp only at this
    omega
  have H := keepf h
  obtain ⟨n, hn⟩ : ∃ n, bs.length = n := ⟨_, rfl⟩
  rw [hn] at c2 hp hl hc H ⊢
  clear h hS hx hcell hn
  have e1 : ((p : Int) == n) = false := by simp; omega
  have e2 : (p == n) = false := by simp; omega
  have i1 : ((p : Int) + 1 - 1) = p := by omega
  have i2 : ((p : Int) + 1).toNat = p + 1 := by omega
  go_enter Try.func26, Try.ntmps26
  go_upto_region 1 with fail
  go_quiet (fail)
  go_upto_region 4 with fail
  go_quiet (fail)
  go_wp2_with fail
  go_ret2
  exact ⟨rfl, ((H.out.drewN _).at_ _).drewN _⟩
set_option maxHeartbeats 1000000 in
theorem ppass_end {V w W : World} {A : Option Addr} {n c R : Nat} {last : Bool} {out : List Nat} (h : RD V w W A n c last R n out) (y : Nat) :
    Calls Try.prog 30 #[.pointer (some ⟨R, 0, none⟩), .int .u8 (y : Nat)] W fun e W' => e = .returned (.bool false) ∧ RD V w W' A n c last R n out := by
  obtain ⟨c2, c3, c4, f3⟩ := h.cells
  have H := keepf h
  clear h
  go_enter Try.func30, Try.ntmps30
  go_upto_region 1 with fail
  go_quiet (fail)
  go_wp2_with fail
  go_ret
  exact ⟨rfl, H.out.drewN _⟩
set_option maxHeartbeats 1000000 in
theorem ppass_no {V w W : World} {A : Option Addr} {bs : List Nat} {c R p x : Nat} {last : Bool} {out : List Nat} (h : RD V w W A bs.length c last R p out) (hS : Src w 1 A bs.length c (lcells bs)) (hl : bs.length ≤ 1000000) (hc : bs.length ≤ c) (hx : bs[p]? = some x) (y : Nat) (hy : x ≠ y) :
    Calls Try.prog 30 #[.pointer (some ⟨R, 0, none⟩), .int .u8 (y : Nat)] W fun e W' => e = .returned (.bool false) ∧ RD V w W' A bs.length c last R p out := by
  have hp : p < bs.length := (List.getElem?_eq_some_iff.1 hx).1
  obtain ⟨c2, c3, c4, f3⟩ := h.cells
  have hR := h.new
  obtain ⟨b, off, rfl, hcell⟩ := lcell hS h.chg (by omega)
  have c0 := hcell p x hx
  have hbR : b ≠ R := by
    have h0 := (lcell hS (Chg.refl NoS w) (by omega))
    obtain ⟨b', off', e, hc'⟩ := h0
    cases e
    have := cell_lt (hc' p x hx)
    simp only at this
    omega
  have H := keepf h
  obtain ⟨n, hn⟩ : ∃ n, bs.length = n := ⟨_, rfl⟩
  rw [hn] at c2 hp hl hc H ⊢
  clear h hS hx hcell hn
  have e1 : ((p : Int) == n) = false := by simp; omega
  have e2 : (p == n) = false := by simp; omega
  have e3 : ((x : Int) != y) = true := by simp; omega
  have e4 : (x != y) = true := by simp; omega
  go_enter Try.func30, Try.ntmps30
  go_upto_region 1 with fail
  go_quiet (fail)
  go_wp2_with fail
  go_ret
  exact ⟨rfl, H.out.drewN _⟩
set_option maxHeartbeats 1000000 in
theorem ppass_at {V w W : World} {A : Option Addr} {bs : List Nat} {c R p x : Nat} {last : Bool} {out : List Nat} (h : RD V w W A bs.length c last R p out) (hS : Src w 1 A bs.length c (lcells bs)) (hl : bs.length ≤ 1000000) (hc : bs.length ≤ c) (hx : bs[p]? = some x) :
    Calls Try.prog 30 #[.pointer (some ⟨R, 0, none⟩), .int .u8 (x : Nat)] W fun e W' => e = .returned (.bool true) ∧ RD V w W' A bs.length c last R (p + 1) out := by
  have hp : p < bs.length := (List.getElem?_eq_some_iff.1 hx).1
  obtain ⟨c2, c3, c4, f3⟩ := h.cells
  have hR := h.new
  obtain ⟨b, off, rfl, hcell⟩ := lcell hS h.chg (by omega)
  have c0 := hcell p x hx
  have hbR : b ≠ R := by
    have h0 := (lcell hS (Chg.refl NoS w) (by omega))
    obtain ⟨b', off', e, hc'⟩ := h0
    cases e
    have := cell_lt (hc' p x hx)
    simp only at this
    omega
  have H := keepf h
  obtain ⟨n, hn⟩ : ∃ n, bs.length = n := ⟨_, rfl⟩
  rw [hn] at c2 hp hl hc H ⊢
  clear h hS hx hcell hn
  have e1 : ((p : Int) == n) = false := by simp; omega
  have e2 : (p == n) = false := by simp; omega
  go_enter Try.func30, Try.ntmps30
  go_upto_region 1 with fail
  go_quiet (fail)
  go_wp2_with fail
  go_ret
  exact ⟨rfl, (H.out.drewN _).at_ _⟩
/-- What is told where a token goes up to the end. -/
theorem pcut_any {V w W : World} {A : Option Addr} {n c R p : Nat} {last : Bool} {out : List Nat} (h : RD V w W A n c last R p out) (er : Int) :
    Calls Try.prog 27 #[.pointer (some ⟨R, 0, none⟩), .int .i64 er] W fun e W' => e = .returned (.int .i64 (if last then er else 6)) ∧ W = W' := by
  obtain ⟨c2, c3, c4, f3⟩ := h.cells
  clear h
  cases last
  all_goals
    go_enter Try.func27, Try.ntmps27
    go_wp2_with fail
    go_ret
    exact ⟨rfl, rfl⟩
set_option maxHeartbeats 1000000 in
/-- What was put together, as a value of a kind. -/
theorem pbuilt_any {V w W : World} {A : Option Addr} {n c R p : Nat} {last : Bool} {out : List Nat} (h : RD V w W A n c last R p out) (hb : ∀ d ∈ out, d < 256) (hl : out.length ≤ 1000000) (k : Nat) :
    Calls Try.prog 38 #[.pointer (some ⟨R, 0, none⟩), .int .i64 (k : Nat)] W fun e W' => e = .returned (.tuple #[.agg #[.int .i64 (k : Nat), .int .i64 0, .string (sb out), .slice none 0 0], .int .i64 0]) ∧ RE V w W' R p := by
  have HST := keepf (fun (X : World) (hX : Chg NoS W X) => pstring_any (h.call hX).here hb hl)
  obtain ⟨s, hs⟩ : ∃ s, sb out = s := ⟨_, rfl⟩
  rw [hs] at HST ⊢
  have hR := h.lt
  have HKB := keepf (h.kb)
  have hwg := h.chg.size
  clear hs h hb hl
  go_enter Try.func38, Try.ntmps38
  go_upto_region 1 with fail
  have HNEW := keepf (Blk.new W 26 #[.int .i64 0, .int .i64 0, .string ⟨#[]⟩, .slice none 0 0])
  have HCH := keepf ((Chg.refl NoS W).alloc (.cells #[.int .i64 0, .int .i64 0, .string ⟨#[]⟩, .slice none 0 0] 26))
  obtain ⟨W1, hW1⟩ : ∃ W1, W1 = W.alloc (.cells #[.int .i64 0, .int .i64 0, .string ⟨#[]⟩, .slice none 0 0] 26) := ⟨_, rfl⟩
  rw [← hW1] at HNEW HCH ⊢
  clear hW1
  obtain ⟨g, hg⟩ : ∃ g, g = W.heap.size := ⟨_, rfl⟩
  rw [← hg] at HNEW ⊢
  have hgR : g ≠ R := by omega
  have HG := keepf hg
  clear hg
  go_upto_region 2 with (go_at_call 50; refine (HST.out _ HCH.out).mono ?_; rintro e w3 ⟨rfl, hre⟩; have hcl := (hre.kb _ _ _ hgR (by decide) HNEW.out).cl4; obtain ⟨r0, r1, r2, r3, z0, z1, z2, z3⟩ := hcl; have HRE := keepf hre; clear hre)
  go_wp2_with fail
  refine bodyPost_ret (v := .tuple #[.agg #[.int .i64 (k : Nat), .int .i64 0, .string s, .slice none 0 0], .int .i64 0]) (by simp [results, Try.results38, go_sem, r0, r1, r2, r3]) rfl ?_
  have h8 := HG.out
  exact ⟨rfl, ((HRE.out.back (KB.chg HCH.out)).set4 hgR (by omega) (by omega) _ _ _ _).back HKB.out⟩
end Go.Proofs.Ytmmehaghcfdjdaa
