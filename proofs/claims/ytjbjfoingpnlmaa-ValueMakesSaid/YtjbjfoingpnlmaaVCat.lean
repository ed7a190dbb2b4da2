/- Rows of values: Grow and Concat of the library at them; and 'behind'. -/
import Derived.Test.YtjbjfoingpnlmaaRowV
import Derived.Test.YtjbjfoingpnlmaaRVt7
import Derived.Lib.AppendZeros
namespace Go.Proofs.Ytjbjfoingpnlmaa
open Go.RowKit
set_option linter.unusedVariables false
set_option linter.unusedSimpArgs false

theorem growV_any (n : Nat) (w : World) (hn : n ≤ 1000000000) : Calls Try.prog 59 #[.slice none 0 0, .int .i64 n] w fun e w' => ∃ A c, e = .returned (.slice A 0 c) ∧ GV w w' [] [] 0 A c := by
  obtain ⟨i0, hi, hz0, hz1, hz2⟩ := info_partsV info_VC
  rcases Nat.eq_zero_or_pos n with rfl | h0
  · go_enter Try.func59, Try.ntmps59
    go_wp2_with fail
    go_ret
    exact ⟨none, 0, rfl, GV.start (Chg.refl _ _)⟩
  · obtain ⟨cc, hcc⟩ : ∃ cc, cc = grownCap w n 0 24 := ⟨_, rfl⟩
    have hc1 : n ≤ cc := hcc ▸ grownCap_ge _ _ _ _
    have hc2 : cc ≤ maxLen := hcc ▸ grownCap_le_maxLen _ _ _ _ (by unfold maxLen; omega)
    have hrun := fun ty => Go.Lib.run_append_nil_zeros (P := Try.prog) w 22 3 ty 24 i0 _ .i64 .i64 Try.underlying22 Try.underlying3 hi hz0 n h0 (by rw [hz1]; omega) (by omega) (by rw [hz2]; omega)
    rw [← hcc] at hrun
    have HR := keepf hrun
    have HC2 := keepf hc2
    have HC1 := keepf hc1
    clear hrun hcc hc2 hc1
    have d1 : decide ((n : Int) < 0) = false := by simp
    have d2 : decide (0 < (n : Int)) = true := by simp; omega
    go_enter Try.func59, Try.ntmps59
    go_wp2_with (first
      | (at_builtin; go_loud (refine Go.Lib.wpList_append_run _ rfl (.tmp 20) (.tmp 21) 22 3 rfl _ _ rfl rfl _ _ (HR.out _) ?_)))
    go_ret
    refine ⟨some ⟨w.heap.size, 0, none⟩, cc, rfl, ⟨⟨rfl, .inr ⟨w.heap.size, cc, _, rfl, Nat.zero_le _, heap_alloc_new w.drew _, Nat.zero_le _, HC2.out, ?_, rfl⟩⟩, ((Chg.refl _ w).drew).alloc _, fun a ha => (by cases ha; exact Nat.le_refl _), rfl, rfl, fun j t e h => (by simp at h)⟩⟩
    rw [Array.size_append, size_zeroCells, size_zeroCells]
    have := HC1.out
    show n * 4 + (cc - n) * 4 = cc * 4
    omega
theorem take_moreV {α : Type} (L : List α) (k : Nat) (x : α) (h : L[k]? = some x) : L.take (k + 1) = L.take k ++ [x] := by
  rw [List.take_add_one, h]
  rfl
/-- A slice of values: where it lies, its capacity, its cells and its trees. -/
structure SlV where
  A : Option Addr
  c : Nat
  es : List VC
  ts : List VT
def SlV.val (x : SlV) : Value := .slice x.A x.es.length x.c
def allC (Xs : List SlV) : List VC := Xs.flatMap SlV.es
def allT (Xs : List SlV) : List VT := Xs.flatMap SlV.ts
theorem allC_snoc (Xs : List SlV) (x : SlV) : allC (Xs ++ [x]) = allC Xs ++ x.es := by simp [allC]
theorem allT_snoc (Xs : List SlV) (x : SlV) : allT (Xs ++ [x]) = allT Xs ++ x.ts := by simp [allT]
theorem allC_take (Xs : List SlV) (k : Nat) : (allC (Xs.take k)).length ≤ (allC Xs).length := by
  have h : allC (Xs.take k) ++ allC (Xs.drop k) = allC Xs := by unfold allC; rw [← List.flatMap_append, List.take_append_drop]
  have h2 := congrArg List.length h
  rw [List.length_append] at h2
  omega
/-- What a slice of values is to be. -/
structure SlV.Ok (w0 w : World) (x : SlV) : Prop where
  src : Src w 4 x.A x.es.length x.c (vcells x.es)
  len : x.ts.length = x.es.length
  is : ∀ (j : Nat) (t : VT) (e : VC), x.ts[j]? = some t → x.es[j]? = some e → ValIs w0 t e

set_option maxHeartbeats 2000000 in
theorem catV_any (Xs : List SlV) (A : Option Addr) (c : Nat) (w : World) (hX : Xs.length ≤ 100) (h0 : 0 < Xs.length) (hT : (allC Xs).length ≤ 1000000000) (hS : Src w 1 A Xs.length c (Xs.map SlV.val)) (hall : ∀ x ∈ Xs, x.Ok w w) :
    Calls Try.prog 43 #[.slice A Xs.length c] w fun e w' => ∃ A3 c3, e = .returned (.slice A3 (allC Xs).length c3) ∧ GV w w' (allC Xs) (allT Xs) (allC Xs).length A3 c3 := by
  obtain ⟨b, off, rfl, hcell⟩ := hS.plain (by simpa using h0)
  have HC := keepf hcell
  have HALL := keepf hall
  have HT := keepf hT
  obtain ⟨n, hn⟩ : ∃ n, n = Xs.length := ⟨_, rfl⟩
  have HN := keepf hn
  rw [← hn] at hX ⊢
  have hle : Hid (∀ k, (allC (Xs.take k)).length ≤ 1000000000) := fun k => Nat.le_trans (allC_take Xs k) hT
  have HTK : Hid (Xs.take n = Xs) := by show _ = _; rw [hn, List.take_length]
  clear hn hS hcell hall h0 hT
  go_enter Try.func43, Try.ntmps43
  go_wp2_with fail
  go_loop [3, 11] (fun v i => ∃ k : Nat, k ≤ n ∧ i = .int .i64 k ∧ v = .int .i64 (allC (Xs.take k)).length) (fun _ i => n - (intOf i).toNat)
  case atStart => exact ⟨0, Nat.zero_le _, rfl, by simp [allC]⟩
  case round =>
    obtain ⟨k, hk, rfl, rfl⟩ := hrel
    by_cases hlt : k < n
    · obtain ⟨x, hx⟩ : ∃ x, Xs[k]? = some x := ⟨_, List.getElem?_eq_getElem (by have := HN.out; omega)⟩
      have hc := HC.out k x.val (by simp [hx])
      unfold SlV.val at hc
      have e1 := hle.out (k + 1)
      rw [take_moreV Xs k x hx, allC_snoc, List.length_append] at e1
      obtain ⟨s, hs⟩ : ∃ s, s = (allC (Xs.take k)).length := ⟨_, rfl⟩
      obtain ⟨m, hm⟩ : ∃ m, m = x.es.length := ⟨_, rfl⟩
      have e2 : (allC (Xs.take (k + 1))).length = s + m := by rw [take_moreV Xs k x hx, allC_snoc, List.length_append, hs, hm]
      rw [← hs] at e1 ⊢
      rw [← hm] at e1 hc
      have E2 := keepf e2
      clear hs hm e2
      have d1 : decide ((s : Int) + m < 0) = false := by simp; omega
      go_wp2_with fail
      go_round
      case rel => exact ⟨k + 1, by omega, by go_num, by rw [E2.out]; go_num⟩
      case measure => simp [intOf]; omega
    · obtain rfl : n = k := by omega
      rw [HTK.out]
      obtain ⟨s, hs⟩ : ∃ s, s = (allC Xs).length := ⟨_, rfl⟩
      have HSS := keepf hs
      rw [← hs]
      have hsl : s ≤ 1000000000 := by have := HT.out; omega
      clear hs
      go_wp2_with (go_at_call 59; refine (growV_any s _ hsl).mono ?_; rintro e w3 ⟨A3, c3, rfl, hg3⟩; have HG3 := keepf hg3; clear hg3)
      go_loopw [6, 27] (fun va vb wr => ∃ k : Nat, ∃ A2 : Option Addr, ∃ c2 : Nat, k ≤ n ∧ vb = .int .i64 k ∧ va = .slice A2 (allC (Xs.take k)).length c2 ∧ Hid (GV w wr (allC (Xs.take k)) (allT (Xs.take k)) (allC (Xs.take k)).length A2 c2)) (fun _ vb _ => n - (intOf vb).toNat)
      case atStart => exact ⟨0, A3, c3, Nat.zero_le _, rfl, by simp [allC], keepf (by simpa [allC, allT] using HG3.out)⟩
      case round =>
        obtain ⟨k, A2, c2, hk, rfl, rfl, HG⟩ := hrel
        by_cases hlt : k < n
        · obtain ⟨x, hx⟩ : ∃ x, Xs[k]? = some x := ⟨_, List.getElem?_eq_getElem (by have := HN.out; omega)⟩
          have hc := (HG.out.chg.cell (p := ⟨b, off + k, none⟩) (by exact cell_lt (HC.out k x.val (by simp [hx]))) (fun h => h)).trans (HC.out k x.val (by simp [hx]))
          unfold SlV.val at hc
          have HX := keepf (take_moreV Xs k x hx)
          have HOK := keepf (HALL.out x (List.mem_of_getElem? hx))
          have HSx := keepf (HOK.out.src.below (w0 := w) HG.out.chg)
          have hlen := hle.out (k + 1)
          rw [HX.out, allC_snoc, List.length_append] at hlen
          have HLN := keepf hlen
          obtain ⟨xa, xc, xe, xt⟩ := x
          clear hlen hx
          simp only [] at hc HX HOK HSx HLN
          go_wp2_with (first
            | (at_builtin; go_loud (refine appV (w := w) (wr := wr) (es := allC (Xs.take k)) (ts := allT (Xs.take k)) (new := xe) (tn := xt) rfl (.tmp 31) (.tmp 32) rfl rfl rfl HG.out (Chg.refl _ _) (by have := HLN.out; omega) (by have := HLN.out; omega) HSx.out rfl HOK.out.len HOK.out.is ?_); intro A4 c4 w4 hg4 _; have HG4 := keepf hg4; clear hg4))
          go_roundw
          case rel =>
            refine ⟨k + 1, A4, c4, by omega, by go_num, ?_, ?_⟩
            · rw [HX.out, allC_snoc]; simp
            · rw [HX.out, allC_snoc, allT_snoc, List.length_append]
              exact HG4.out
          case measure => simp [intOf]; omega
        · obtain rfl : n = k := by omega
          rw [HTK.out] at HG ⊢
          go_wp2_with fail
          go_ret
          exact ⟨A2, c2, rfl, HG.out⟩
set_option maxHeartbeats 1000000 in
theorem behind_any (b off len cap q r : Nat) (w : World) (hr : r = min (q + 2) len) (hc : len ≤ cap) (hl : len ≤ 1000000000) (hq : q ≤ len) :
    Calls Try.prog 44 #[.slice (some ⟨b, off, none⟩) len cap, .int .i64 (q : Nat)] w fun e w' => (∃ o, e = .returned (.slice (some ⟨b, o, none⟩) (len - r) (cap - r)) ∧ (r < len → o = off + r * 4)) ∧ w' = w := by
  have e1 : min ((q : Int) + 2) (len : Int) = (r : Nat) := by omega
  have i1 : r ≤ len := by omega
  have i2 : (r : Int) ≤ len := by omega
  clear hr
  go_enter Try.func44, Try.ntmps44
  go_wp2_with fail
  all_goals
    go_ret
    exact ⟨⟨_, rfl, fun h => by first | rfl | omega⟩, rfl⟩
/-- Trees of an elder world. -/
theorem GV.base {w0 w w' : World} {es : List VC} {ts : List VT} {n c : Nat} {A : Option Addr} (h : GV w w' es ts n A c) (hc : Chg NoS w0 w) (hi : ∀ (j : Nat) (t : VT) (e : VC), ts[j]? = some t → es[j]? = some e → ValIs w0 t e) : GV w0 w' es ts n A c :=
  ⟨h.own, hc.trans h.chg (fun _ _ e => e), fun a ha => Nat.le_trans hc.size (h.new a ha), h.len, h.tlen, hi⟩
end Go.Proofs.Ytjbjfoingpnlmaa
