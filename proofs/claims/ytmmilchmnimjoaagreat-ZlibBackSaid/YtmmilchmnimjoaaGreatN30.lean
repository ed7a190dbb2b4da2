/- Merged by program: A3Sum A3Add A3WorkA A3By. -/
import Derived.Test.YtmmilchmnimjoaaGreatN29
import Derived.BigQuiet
import Derived.Laws.BitsAllLaws
import Derived.Lib.SmallJoins
/- What a sum of bytes that come does. -/
namespace Go.Proofs.YtmmilchmnimjoaaGreat
open Go.RowKit
set_option linter.unusedVariables false
def SumAt (w : World) (b : Nat) (all : List Nat) : Prop := Halves w b (lowA all) (highA all) all.length
theorem a3_take_any (w : World) (b : Nat) (all : List Nat) (n : Int) (A : Option Addr) (len cap : Nat) (bs : List Nat) (hb : Halves w b (lowA all) (highA all) n)
    (hS : Src w 1 A len cap (ucells bs)) (hl : bs.length = len) (hm : len ≤ 1048576) (hlc : len ≤ cap) (hby : ∀ x ∈ bs, x < 256) (hne : ∀ a, A = some a → 0 < len → a.block ≠ b) :
    Calls Tryz.prog 65 #[.pointer (some ⟨b, 0, none⟩), .slice A len cap] w fun e w' =>
      e = .returned (.tuple #[]) ∧ Halves w' b (lowA (all ++ bs)) (highA (all ++ bs)) n ∧ Chg (fun i => i = b) w w' := by
  have h := callsIn_wide.1 (take_in w b (lowA all) (highA all) n A len cap bs hb (low_lt all) (high_lt all) hS hl hm hlc hby hne)
  rw [low_more, high_more] at h
  exact h
theorem or_cat (hi r : Nat) (hr : r < 65536) : hi * 65536 ||| r = 65536 * hi + r := by
  have h := Nat.two_pow_add_eq_or_of_lt (i := 16) hr hi
  rw [Nat.mul_comm hi]
  exact h.symm
theorem sum_bits (lo hi : Nat) (hhi : hi < 65521) : bits BinOp.or IntKind.u64 ((hi : Int) * 65536) (((lo : Int) + 1) % 65521) % 4294967296 = ((65536 * hi + (lo + 1) % 65521 : Nat) : Int) := by
  have hr := Nat.mod_lt (lo + 1) (show 0 < 65521 by decide)
  rw [show (hi : Int) * 65536 = ((hi * 65536 : Nat) : Int) from by simp, show ((lo : Int) + 1) % 65521 = (((lo + 1) % 65521 : Nat) : Int) from by simp, u64_or_nat _ _ (by omega) (by omega), or_cat _ _ (by omega)]
  omega
theorem sum_any (lo hi : Nat) (w : World) (hlo : lo < 65521) (hhi : hi < 65521) :
    Calls Tryz.prog 66 #[.agg #[.int .u64 lo, .int .u64 hi]] w fun e w' => e = .returned (.int .u32 (65536 * hi + (lo + 1) % 65521 : Nat)) ∧ Chg NoS w w' := by
  have hb := sum_bits lo hi hhi
  go_enter Tryz.func66, Tryz.ntmps66
  go_wp2_with fail
  go_ret
  exact ⟨by rw [← hb]; rfl, (Chg.refl _ _).alloc _⟩
theorem value_any (w : World) (b : Nat) (all : List Nat) (n : Int) (hb : Halves w b (lowA all) (highA all) n) :
    Calls Tryz.prog 45 #[.pointer (some ⟨b, 0, none⟩)] w fun e w' => e = .returned (.int .u32 (sumA all : Nat)) ∧ Chg NoS w w' := by
  have c0 := hb.cell 0
  have c1 := hb.cell 1
  simp at c0 c1
  have h0 := low_lt all
  have h1 := high_lt all
  unfold sumA
  generalize lowA all = lo at *
  generalize highA all = hi at *
  clear hb
  go_enter Tryz.func45, Tryz.ntmps45
  go_wp2_with (go_at_call 66; refine (sum_any lo hi _ h0 h1).mono ?_; rintro e w' ⟨rfl, hc⟩; have HC := keepf hc; clear hc)
  go_ret
  exact ⟨rfl, HC.out⟩
end Go.Proofs.YtmmilchmnimjoaaGreat
/- What Add of a sum does with parts. -/
namespace Go.Proofs.YtmmilchmnimjoaaGreat
open Go.RowKit
set_option linter.unusedVariables false
structure Piece where
  A : Option Addr
  len : Nat
  cap : Nat
  bs : List Nat
instance : Inhabited Piece := ⟨⟨none, 0, 0, []⟩⟩
def Piece.cell (p : Piece) : Value := .slice p.A p.len p.cap
structure Piece.At (p : Piece) (w : World) (S : Nat → Prop) : Prop where
  src : Src w 1 p.A p.len p.cap (ucells p.bs)
  len : p.bs.length = p.len
  cap : p.len ≤ p.cap
  bytes : ∀ x ∈ p.bs, x < 256
  apart : ∀ a, p.A = some a → 0 < p.len → ¬ S a.block
theorem Piece.At.chg {p : Piece} {w w' : World} {S T : Nat → Prop} (h : p.At w S) (hc : Chg T w w') (hT : ∀ a, p.A = some a → 0 < p.len → ¬ T a.block) : p.At w' S :=
  ⟨h.src.chg hc hT (fun h0 => by have := h.src.1; omega), h.len, h.cap, h.bytes, h.apart⟩
theorem Piece.At.no {p : Piece} {w w' : World} {S : Nat → Prop} (h : p.At w S) (hc : Chg NoS w w') : p.At w' S := h.chg hc (fun _ _ _ h => h)
def Piece.all (ps : List Piece) : List Nat := ps.flatMap Piece.bs
theorem all_snoc (ps : List Piece) (k : Nat) (p : Piece) (h : ps[k]? = some p) : Piece.all (ps.take (k + 1)) = Piece.all (ps.take k) ++ p.bs := by
  rw [List.take_add_one, h]
  simp [Piece.all]
theorem all_le (ps : List Piece) (k : Nat) : (Piece.all (ps.take k)).length ≤ (Piece.all ps).length := by
  have e : (Piece.all ps).length = (Piece.all (ps.take k ++ ps.drop k)).length := by rw [List.take_append_drop]
  rw [e]
  simp only [Piece.all, List.flatMap_append, List.length_append]
  omega
set_option maxHeartbeats 1000000 in
theorem add_any (w : World) (b : Nat) (all : List Nat) (A : Option Addr) (m c : Nat) (ps : List Piece) (hb : SumAt w b all) (hl : ps.length = m) (hS : Src w 1 A m c (ps.map Piece.cell)) (hA : ∀ a, A = some a → 0 < m → a.block ≠ b)
    (hp : ∀ p ∈ ps, p.At w (fun i => i = b)) (hle : ∀ p ∈ ps, p.len ≤ 1048576) (hm : m ≤ 1000) (hn : all.length + (Piece.all ps).length ≤ 1000000000000) :
    Calls Tryz.prog 44 #[.pointer (some ⟨b, 0, none⟩), .slice A m c] w fun e w' => e = .returned (.tuple #[]) ∧ SumAt w' b (all ++ Piece.all ps) ∧ Chg (fun i => i = b) w w' := by
  have HB := keepf hb
  have HL := keepf hl
  have HS := keepf hS
  have HA := keepf hA
  have HP := keepf hp
  have HLE := keepf hle
  have HN := keepf hn
  clear hb hl hS hA hp hle hn
  go_enter Tryz.func44, Tryz.ntmps44
  go_wp2_with fail
  go_loopw [10] (fun vi wr => ∃ k : Nat, k ≤ m ∧ vi = .int .i64 (k : Nat) ∧ Hid (SumAt wr b (all ++ Piece.all (ps.take k)) ∧ Chg (fun i => i = b) w wr))
    (fun vi _ => m - (intOf vi).toNat)
  case atStart => exact ⟨0, Nat.zero_le _, rfl, keepf ⟨by simpa [Piece.all] using HB.out, Chg.refl _ _⟩⟩
  case round =>
    obtain ⟨k, hk, rfl, HI⟩ := hrel
    by_cases hlt : k < m
    · obtain ⟨p, hpk⟩ : ∃ p, ps[k]? = some p := ⟨_, List.getElem?_eq_getElem (by rw [HL.out]; exact hlt)⟩
      have hmem : p ∈ ps := List.mem_of_getElem? hpk
      obtain ⟨ba, off, hAe, hcell⟩ := (HS.out.chg HI.out.2 (by intro a ha h0; exact HA.out a ha h0) (by intro h; omega)).plain (by simp [HL.out]; omega)
      have hcp := hcell k p.cell (by simp [hpk])
      have hpa := (HP.out p hmem).chg HI.out.2 (HP.out p hmem).apart
      have hpl := HLE.out p hmem
      have hnk : ((all ++ Piece.all (ps.take k)).length : Int) ≤ 1000000000000 := by
        have := all_le ps k
        have := HN.out
        rw [List.length_append]
        omega
      have hps := hpa.len
      have HPA := keepf hpa
      have HSN := keepf (all_snoc ps k p hpk)
      clear hcell hpa hmem hpk
      obtain ⟨pA, plen, pcap, pbs⟩ := p
      simp only [Piece.cell] at hcp hpl hps
      have htk := a3_take_any wr b (all ++ Piece.all (ps.take k)) (all ++ Piece.all (ps.take k)).length pA plen pcap pbs HI.out.1 HPA.out.src HPA.out.len hpl HPA.out.cap HPA.out.bytes HPA.out.apart
      have HTK := keepf htk
      clear htk
      subst hAe
      obtain ⟨n0, hn0⟩ : ∃ n0, (all ++ Piece.all (ps.take k)).length = n0 := ⟨_, rfl⟩
      rw [hn0] at HTK hnk
      have HN0 := keepf hn0
      clear hn0
      go_wp2_with fail
      refine HTK.out.mono ?_
      rintro e w2 ⟨rfl, hh2, hc2⟩
      have c2 := hh2.cell 2
      have f2 := hh2.frozen 2
      simp at c2
      have HH2 := keepf hh2
      have HC2 := keepf hc2
      clear hh2 hc2
      go_wp2_with fail
      go_roundw
      case rel =>
        refine ⟨k + 1, by omega, by go_num, keepf ⟨?_, ((HI.out.2).trans HC2.out (fun _ _ h => h)).setCell (p := ⟨b, 2, none⟩) (fun _ => rfl) _⟩⟩
        have h1 := HH2.out.set_ 2 (.int .i64 ((n0 : Int) + plen))
        have h2 := HSN.out
        rw [h2, ← List.append_assoc]
        unfold SumAt Halves
        rw [List.length_append, HN0.out, hps]
        simpa using h1
      case measure => simp [intOf]; omega
    · obtain rfl : k = m := by omega
      go_wp2_with fail
      go_end0
      refine ⟨rfl, ?_, HI.out.2⟩
      have := HI.out.1
      rwa [List.take_of_length_le (by rw [HL.out]; exact Nat.le_refl _)] at this
end Go.Proofs.YtmmilchmnimjoaaGreat
/- The sum of bytes, by the program and by the document; the small question that every statement asks. -/
namespace Go.Proofs.YtmmilchmnimjoaaGreat
open Go.RowKit
set_option linter.unusedVariables false
theorem new_sum (w : World) : SumAt (w.alloc (.cells #[.int .u64 0, .int .u64 0, .int .i64 0] 82)) w.heap.size [] := Blk.new w 82 #[.int .u64 0, .int .u64 0, .int .i64 0]
theorem a3_src_one (w : World) (t : TypeId) (u : Value) : Src (w.alloc (.cells #[u] t)) 1 (some ⟨w.heap.size, 0, none⟩) 1 1 [u] :=
  ⟨rfl, fun h => (by cases h), fun ad had j v hv => by
    cases had
    match j with
    | 0 =>
      simp at hv
      subst hv
      have := (Blk.new w t #[u]).cell 0
      exact this
    | j + 1 => simp at hv⟩
theorem Piece.At.far {p : Piece} {w w' : World} (h : p.At w NoS) (hc : Chg NoS w w') {b : Nat} (hb : w.heap.size ≤ b) : p.At w' (fun i => i = b) :=
  ⟨(h.no hc).src, h.len, h.cap, h.bytes, fun a ha h0 => by
    obtain ⟨b', off, e, hc'⟩ := h.src.plain (by simp [ucells, h.len]; exact h0)
    have hlt := cell_lt (hc' 0 _ (by simp only [ucells, List.getElem?_map]; rw [List.getElem?_eq_getElem (by rw [h.len]; exact h0)]; rfl))
    rw [e] at ha
    injection ha with ha
    subst ha
    show ¬ (b' = b)
    have : b' < w.heap.size := hlt
    omega⟩
theorem a3_chg_new {w w2 w3 : World} {b : Nat} (h : Chg NoS w w2) (k : Chg (fun i => i = b) w2 w3) (hb : w.heap.size ≤ b) : Chg NoS w w3 := h.trans k (fun i hi e => by omega)
theorem adlerSum_any (w : World) (p : Piece) (hp : p.At w NoS) (hle : p.len ≤ 1048576) :
    Calls Tryz.prog 27 #[p.cell] w fun e w' => e = .returned (.int .u32 (sumA p.bs : Nat)) ∧ Chg NoS w w' := by
  have hc1 := (Chg.refl NoS w).alloc (.cells #[.int .u64 0, .int .u64 0, .int .i64 0] 82)
  have hs1 := new_sum w
  have hs2 : SumAt ((w.alloc (.cells #[.int .u64 0, .int .u64 0, .int .i64 0] 82)).alloc (.cells #[p.cell] 22)) w.heap.size [] := Blk.alloc hs1 _
  have hc2 := hc1.alloc (.cells #[p.cell] 22)
  have hsrc := a3_src_one (w.alloc (.cells #[.int .u64 0, .int .u64 0, .int .i64 0] 82)) 22 p.cell
  rw [World.size_alloc] at hsrc
  have hadd := add_any _ w.heap.size [] _ 1 1 [p] hs2 rfl hsrc (by intro a ha _; cases ha; show w.heap.size + 1 ≠ w.heap.size; omega) (by intro q hq; simp at hq; subst hq; exact hp.far hc2 (Nat.le_refl _)) (by intro q hq; simp at hq; subst hq; exact hle) (by omega) (by have := hp.len; simp [Piece.all]; omega)
  rw [show ([] : List Nat) ++ Piece.all [p] = p.bs from by simp [Piece.all]] at hadd
  have HADD := keepf hadd
  have HC2 := keepf hc2
  clear hp hadd hc2 hc1 hs1 hs2 hsrc
  obtain ⟨pA, plen, pcap, pbs⟩ := p
  simp only [Piece.cell] at *
  go_enter Tryz.func27, Tryz.ntmps27
  go_wp2_with fail
  refine HADD.out.mono ?_
  rintro e w3 ⟨rfl, hs3, hc3⟩
  have HV := keepf (value_any _ _ _ _ hs3)
  have HC3 := keepf (a3_chg_new HC2.out hc3 (Nat.le_refl _))
  clear hs3 hc3
  go_wp2_with fail
  refine HV.out.mono ?_
  rintro e w4 ⟨rfl, hc4⟩
  have HC4 := keepf (HC3.out.trans hc4 (fun _ _ h => h))
  clear hc4
  go_wp2_with fail
  go_ret
  exact ⟨rfl, HC4.out⟩
theorem i64_eq {a b : Int} (h : a = b) : Value.int .i64 a = Value.int .i64 b := by rw [h]
theorem ret_u32 {a b : Int} (h : a = b) : Ending.returned (.int .u32 a) = .returned (.int .u32 b) := by rw [h]
theorem low_snoc (bs : List Nat) (x : Nat) : lowA (bs ++ [x]) = (lowA bs + x) % 65521 := by
  unfold lowA
  rw [acc_snoc]
  simp only [stepA]
  omega
theorem high_snoc (bs : List Nat) (x : Nat) : highA (bs ++ [x]) = (highA bs + (lowA bs + x + 1)) % 65521 := by
  unfold highA lowA
  rw [acc_snoc]
  simp only [stepA]
  omega
set_option maxHeartbeats 1000000 in
theorem refSum_any (w : World) (p : Piece) (hp : p.At w NoS) (hle : p.len ≤ 1048576) :
    Calls Tryz.prog 21 #[p.cell] w fun e w' => e = .returned (.int .u32 (sumA p.bs : Nat)) ∧ w = w' := by
  obtain ⟨pA, plen, pcap, pbs⟩ := p
  have hpl := hp.len
  have HS := keepf hp.src
  have HBY := keepf hp.bytes
  simp only [Piece.cell] at *
  have HPL := keepf hpl
  clear hp hpl
  go_enter Tryz.func21, Tryz.ntmps21
  go_wp2_with fail
  go_loopw [3, 4, 5] (fun va vb vk wr => ∃ k : Nat, k ≤ plen ∧ va = .int .i64 ((lowA (pbs.take k) + 1) % 65521 : Nat) ∧ vb = .int .i64 (highA (pbs.take k) : Nat) ∧ vk = .int .i64 (k : Nat) ∧ wr = w)
    (fun _ _ vk _ => plen - (intOf vk).toNat)
  case atStart => exact ⟨0, Nat.zero_le _, by simp [lowA, acc], by simp [highA, acc], rfl, rfl⟩
  case round =>
    obtain ⟨k, hk, rfl, rfl, rfl, rfl⟩ := hrel
    by_cases hlt : k < plen
    · obtain ⟨y, hy⟩ : ∃ y, pbs[k]? = some y := ⟨_, List.getElem?_eq_getElem (by rw [HPL.out]; exact hlt)⟩
      have hy256 : y < 256 := HBY.out y (List.mem_of_getElem? hy)
      obtain ⟨ba, off, hAe, hcell⟩ := HS.out.plain (by simp [ucells, HPL.out]; omega)
      have hcy := hcell k (.int .u8 (y : Nat)) (by simp [ucells, hy])
      have htk : pbs.take (k + 1) = pbs.take k ++ [y] := by rw [List.take_add_one, hy]; rfl
      have hl1 := low_snoc (pbs.take k) y
      have hh1 := high_snoc (pbs.take k) y
      rw [← htk] at hl1 hh1
      have HL1 := keepf hl1
      have HH1 := keepf hh1
      have hl0 := low_lt (pbs.take k)
      have hh0 := high_lt (pbs.take k)
      clear hcell htk hl1 hh1 hy
      subst hAe
      generalize lowA (pbs.take k) = L at *
      generalize highA (pbs.take k) = H at *
      obtain ⟨L1, hL1⟩ : ∃ L1, (L + 1) % 65521 = L1 := ⟨_, rfl⟩
      rw [hL1]
      have HL0 := keepf hL1
      have hL1b : L1 < 65521 := by omega
      clear hL1
      have t1 : ((L1 : Int) + y).tmod 65521 = (((L1 + y) % 65521 : Nat) : Int) := by rw [Int.tmod_eq_emod_of_nonneg (by omega)]; simp
      have t2 : ((H : Int) + (((L1 + y) % 65521 : Nat) : Int)).tmod 65521 = (((H + (L1 + y) % 65521) % 65521 : Nat) : Int) := by rw [Int.tmod_eq_emod_of_nonneg (by omega)]; simp
      go_wp2_with fail
      go_roundw
      case rel =>
        have e0 := HL0.out
        exact ⟨k + 1, by omega, i64_eq (by rw [HL1.out]; omega), i64_eq (by rw [HH1.out]; omega), by go_num, trivial⟩
      case measure => simp [intOf]; omega
    · obtain rfl : k = plen := by omega
      have hl0 := low_lt pbs
      have hh0 := high_lt pbs
      rw [List.take_of_length_le (by rw [HPL.out]; exact Nat.le_refl _)]
      have hsa : sumA pbs = 65536 * highA pbs + (lowA pbs + 1) % 65521 := rfl
      have HSA := keepf hsa
      clear hsa
      generalize lowA pbs = L at *
      generalize highA pbs = H at *
      obtain ⟨L1, hL1⟩ : ∃ L1, (L + 1) % 65521 = L1 := ⟨_, rfl⟩
      rw [hL1] at HSA ⊢
      have hL1b : L1 < 65521 := by omega
      clear hL1
      go_wp2_with fail
      go_ret
      exact ⟨ret_u32 (by rw [HSA.out]; omega), rfl⟩
end Go.Proofs.YtmmilchmnimjoaaGreat
/- A sum's bytes, by the program and by the document, and back. -/
namespace Go.Proofs.YtmmilchmnimjoaaGreat
open Go.RowKit
set_option linter.unusedVariables false
def b4 (x : Nat) : List Nat := [x / 16777216, x / 65536 % 256, x / 256 % 256, x % 256]
theorem b4_lt (x : Nat) (hx : x < 4294967296) : ∀ b ∈ b4 x, b < 256 := by
  intro b hb
  simp only [b4, List.mem_cons, List.not_mem_nil, or_false] at hb
  omega
theorem a3_bytes_any (x : Nat) (w : World) (hx : x < 4294967296) : Calls Tryz.prog 26 #[.int .u32 x] w fun e w' => e = .returned (.slice (some ⟨w.heap.size, 0, none⟩) 4 4) ∧ w' = w.alloc (.cells (ucells (b4 x)).toArray 5) := by
  go_enter Tryz.func26, Tryz.ntmps26
  go_wp2_with fail
  go_ret
  exact ⟨rfl, by simp [ucells, b4]⟩
theorem refBytes_any (x : Nat) (w : World) (hx : x < 4294967296) : Calls Tryz.prog 20 #[.int .u32 x] w fun e w' => e = .returned (.slice (some ⟨w.heap.size, 0, none⟩) 4 4) ∧ w' = w.alloc (.cells (ucells (b4 x)).toArray 5) := by
  go_enter Tryz.func20, Tryz.ntmps20
  go_wp2_with fail
  go_ret
  exact ⟨rfl, by simp [ucells, b4]⟩
def val4 (b0 b1 b2 b3 : Nat) : Nat := b0 * 16777216 + b1 * 65536 + b2 * 256 + b3
theorem or_add (i a r : Nat) (hr : r < 2 ^ i) : 2 ^ i * a ||| r = 2 ^ i * a + r := (Nat.two_pow_add_eq_or_of_lt hr a).symm
theorem val_bits (b0 b1 b2 b3 : Nat) (h0 : b0 < 256) (h1 : b1 < 256) (h2 : b2 < 256) (h3 : b3 < 256) :
    bits BinOp.or IntKind.u32 (bits BinOp.or IntKind.u32 (bits BinOp.or IntKind.u32 ((b0 : Int) * 16777216) ((b1 : Int) * 65536)) ((b2 : Int) * 256)) (b3 : Int) = ((val4 b0 b1 b2 b3 : Nat) : Int) := by
  rw [show (b0 : Int) * 16777216 = ((b0 * 16777216 : Nat) : Int) from by simp, show (b1 : Int) * 65536 = ((b1 * 65536 : Nat) : Int) from by simp, show (b2 : Int) * 256 = ((b2 * 256 : Nat) : Int) from by simp]
  have e1 : b0 * 16777216 ||| b1 * 65536 = b0 * 16777216 + b1 * 65536 := by
    have := or_add 24 b0 (b1 * 65536) (by omega)
    rw [Nat.mul_comm b0]
    exact this
  have e2 : (b0 * 16777216 + b1 * 65536) ||| b2 * 256 = b0 * 16777216 + b1 * 65536 + b2 * 256 := by
    have := or_add 16 (b0 * 256 + b1) (b2 * 256) (by omega)
    rw [show (2 : Nat) ^ 16 * (b0 * 256 + b1) = b0 * 16777216 + b1 * 65536 from by omega] at this
    exact this
  have e3 : (b0 * 16777216 + b1 * 65536 + b2 * 256) ||| b3 = b0 * 16777216 + b1 * 65536 + b2 * 256 + b3 := by
    have := or_add 8 (b0 * 65536 + b1 * 256 + b2) b3 (by omega)
    rw [show (2 : Nat) ^ 8 * (b0 * 65536 + b1 * 256 + b2) = b0 * 16777216 + b1 * 65536 + b2 * 256 from by omega] at this
    exact this
  rw [u32_or_nat _ _ (by omega) (by omega), e1, u32_or_nat _ _ (by omega) (by omega), e2, u32_or_nat _ _ (by omega) (by omega), e3]
  rfl
theorem val_some (b off cap : Nat) (b0 b1 b2 b3 : Nat) (w : World) (h0 : b0 < 256) (h1 : b1 < 256) (h2 : b2 < 256) (h3 : b3 < 256)
    (c0 : w.cell? ⟨b, off, none⟩ = some (.int .u8 b0)) (c1 : w.cell? ⟨b, off + 1, none⟩ = some (.int .u8 b1)) (c2 : w.cell? ⟨b, off + 2, none⟩ = some (.int .u8 b2)) (c3 : w.cell? ⟨b, off + 3, none⟩ = some (.int .u8 b3)) :
    Calls Tryz.prog 32 #[.slice (some ⟨b, off, none⟩) 4 cap] w fun e w' => e = .returned (.tuple #[.int .u32 (val4 b0 b1 b2 b3 : Nat), .int .i64 0]) ∧ ∃ n, w' = w.drewN n := by
  have hv := val_bits b0 b1 b2 b3 h0 h1 h2 h3
  go_enter Tryz.func32, Tryz.ntmps32
  go_wp2_with fail
  go_quiet (fail)
  go_wp2_with fail
  go_ret2
  exact ⟨by rw [← hv]; rfl, nq, rfl⟩
end Go.Proofs.YtmmilchmnimjoaaGreat
