/- The sum of bytes, by the program and by the document; the small question that every statement asks. -/
import Derived.Test.YtgfdinclhakjhaaAdd
import Derived.Lib.SmallJoins
namespace Go.Proofs.Ytgfdinclhakjhaa
open Go.RowKit
set_option linter.unusedVariables false

theorem new_sum (w : World) : SumAt (w.alloc (.cells #[.int .u64 0, .int .u64 0, .int .i64 0] 33)) w.heap.size [] := Blk.new w 33 #[.int .u64 0, .int .u64 0, .int .i64 0]

theorem src_one (w : World) (t : TypeId) (u : Value) : Src (w.alloc (.cells #[u] t)) 1 (some ⟨w.heap.size, 0, none⟩) 1 1 [u] :=
  ⟨rfl, fun h => (by cases h), fun ad had j v hv => by
    cases had
    match j with
    | 0 =>
      simp at hv
      subst hv
      have := (Blk.new w t #[u]).cell 0
      exact this
    | j + 1 => simp at hv⟩

theorem Piece.At.far {p : Piece} {w w' : World} (h : p.At w NoS) (hc : Chg NoS w w') {b : Nat} (hb : w.heap.size ≤ b) : p.At w' (fun i => i = b) :=
  ⟨(h.no hc).src, h.len, h.cap, h.bytes, fun a ha h0 => by
    obtain ⟨b', off, e, hc'⟩ := h.src.plain (by simp [ucells, h.len]; exact h0)
    have hlt := cell_lt (hc' 0 _ (by simp only [ucells, List.getElem?_map]; rw [List.getElem?_eq_getElem (by rw [h.len]; exact h0)]; rfl))
    rw [e] at ha
    injection ha with ha
    subst ha
    show ¬ (b' = b)
    have : b' < w.heap.size := hlt
    omega⟩

theorem chg_new {w w2 w3 : World} {b : Nat} (h : Chg NoS w w2) (k : Chg (fun i => i = b) w2 w3) (hb : w.heap.size ≤ b) : Chg NoS w w3 := h.trans k (fun i hi e => by omega)

theorem adlerSum_any (w : World) (p : Piece) (hp : p.At w NoS) (hle : p.len ≤ 1048576) :
    Calls Try.prog 7 #[p.cell] w fun e w' => e = .returned (.int .u32 (sumA p.bs : Nat)) ∧ Chg NoS w w' := by
  have hc1 := (Chg.refl NoS w).alloc (.cells #[.int .u64 0, .int .u64 0, .int .i64 0] 33)
  have hs1 := new_sum w
  have hs2 : SumAt ((w.alloc (.cells #[.int .u64 0, .int .u64 0, .int .i64 0] 33)).alloc (.cells #[p.cell] 22)) w.heap.size [] := Blk.alloc hs1 _
  have hc2 := hc1.alloc (.cells #[p.cell] 22)
  have hsrc := src_one (w.alloc (.cells #[.int .u64 0, .int .u64 0, .int .i64 0] 33)) 22 p.cell
  rw [World.size_alloc] at hsrc
  have hadd := add_any _ w.heap.size [] _ 1 1 [p] hs2 rfl hsrc (by intro a ha _; cases ha; show w.heap.size + 1 ≠ w.heap.size; omega) (by intro q hq; simp at hq; subst hq; exact hp.far hc2 (Nat.le_refl _)) (by intro q hq; simp at hq; subst hq; exact hle) (by omega) (by have := hp.len; simp [Piece.all]; omega)
  rw [show ([] : List Nat) ++ Piece.all [p] = p.bs from by simp [Piece.all]] at hadd
  have HADD := keepf hadd
  have HC2 := keepf hc2
  clear hp hadd hc2 hc1 hs1 hs2 hsrc
  obtain ⟨pA, plen, pcap, pbs⟩ := p
  simp only [Piece.cell] at *
  go_enter Try.func7, Try.ntmps7
  go_wp2_with fail
  refine HADD.out.mono ?_
  rintro e w3 ⟨rfl, hs3, hc3⟩
  have HV := keepf (value_any _ _ _ _ hs3)
  have HC3 := keepf (chg_new HC2.out hc3 (Nat.le_refl _))
  clear hs3 hc3
  go_wp2_with fail
  refine HV.out.mono ?_
  rintro e w4 ⟨rfl, hc4⟩
  have HC4 := keepf (HC3.out.trans hc4 (fun _ _ h => h))
  clear hc4
  go_wp2_with fail
  go_ret
  exact ⟨rfl, HC4.out⟩

theorem i64_eq {a b : Int} (h : a = b) : Value.int .i64 a = Value.int .i64 b := by rw [h]
theorem ret_u32 {a b : Int} (h : a = b) : Ending.returned (.int .u32 a) = .returned (.int .u32 b) := by rw [h]

theorem low_snoc (bs : List Nat) (x : Nat) : lowA (bs ++ [x]) = (lowA bs + x) % 65521 := by
  unfold lowA
  rw [acc_snoc]
  simp only [stepA]
  omega
theorem high_snoc (bs : List Nat) (x : Nat) : highA (bs ++ [x]) = (highA bs + (lowA bs + x + 1)) % 65521 := by
  unfold highA lowA
  rw [acc_snoc]
  simp only [stepA]
  omega

set_option maxHeartbeats 1000000 in
theorem refSum_any (w : World) (p : Piece) (hp : p.At w NoS) (hle : p.len ≤ 1048576) :
    Calls Try.prog 8 #[p.cell] w fun e w' => e = .returned (.int .u32 (sumA p.bs : Nat)) ∧ w = w' := by
  obtain ⟨pA, plen, pcap, pbs⟩ := p
  have hpl := hp.len
  have HS := keepf hp.src
  have HBY := keepf hp.bytes
  simp only [Piece.cell] at *
  have HPL := keepf hpl
  clear hp hpl
  go_enter Try.func8, Try.ntmps8
  go_wp2_with fail
  go_loopw [3, 4, 5] (fun va vb vk wr => ∃ k : Nat, k ≤ plen ∧ va = .int .i64 ((lowA (pbs.take k) + 1) % 65521 : Nat) ∧ vb = .int .i64 (highA (pbs.take k) : Nat) ∧ vk = .int .i64 (k : Nat) ∧ wr = w)
    (fun _ _ vk _ => plen - (intOf vk).toNat)
  case atStart => exact ⟨0, Nat.zero_le _, by simp [lowA, acc], by simp [highA, acc], rfl, rfl⟩
  case round =>
    obtain ⟨k, hk, rfl, rfl, rfl, rfl⟩ := hrel
    by_cases hlt : k < plen
    · obtain ⟨y, hy⟩ : ∃ y, pbs[k]? = some y := ⟨_, List.getElem?_eq_getElem (by rw [HPL.out]; exact hlt)⟩
      have hy256 : y < 256 := HBY.out y (List.mem_of_getElem? hy)
      obtain ⟨ba, off, hAe, hcell⟩ := HS.out.plain (by simp [ucells, HPL.out]; omega)
      have hcy := hcell k (.int .u8 (y : Nat)) (by simp [ucells, hy])
      have htk : pbs.take (k + 1) = pbs.take k ++ [y] := by rw [List.take_add_one, hy]; rfl
      have hl1 := low_snoc (pbs.take k) y
      have hh1 := high_snoc (pbs.take k) y
      rw [← htk] at hl1 hh1
      have HL1 := keepf hl1
      have HH1 := keepf hh1
      have hl0 := low_lt (pbs.take k)
      have hh0 := high_lt (pbs.take k)
      clear hcell htk hl1 hh1 hy
      subst hAe
      generalize lowA (pbs.take k) = L at *
      generalize highA (pbs.take k) = H at *
      obtain ⟨L1, hL1⟩ : ∃ L1, (L + 1) % 65521 = L1 := ⟨_, rfl⟩
      rw [hL1]
      have HL0 := keepf hL1
      have hL1b : L1 < 65521 := by omega
      clear hL1
      have t1 : ((L1 : Int) + y).tmod 65521 = (((L1 + y) % 65521 : Nat) : Int) := by rw [Int.tmod_eq_emod_of_nonneg (by omega)]; simp
      have t2 : ((H : Int) + (((L1 + y) % 65521 : Nat) : Int)).tmod 65521 = (((H + (L1 + y) % 65521) % 65521 : Nat) : Int) := by rw [Int.tmod_eq_emod_of_nonneg (by omega)]; simp
      go_wp2_with fail
      go_roundw
      case rel =>
        have e0 := HL0.out
        exact ⟨k + 1, by omega, i64_eq (by rw [HL1.out]; omega), i64_eq (by rw [HH1.out]; omega), by go_num, trivial⟩
      case measure => simp [intOf]; omega
    · obtain rfl : k = plen := by omega
      have hl0 := low_lt pbs
      have hh0 := high_lt pbs
      rw [List.take_of_length_le (by rw [HPL.out]; exact Nat.le_refl _)]
      have hsa : sumA pbs = 65536 * highA pbs + (lowA pbs + 1) % 65521 := rfl
      have HSA := keepf hsa
      clear hsa
      generalize lowA pbs = L at *
      generalize highA pbs = H at *
      obtain ⟨L1, hL1⟩ : ∃ L1, (L + 1) % 65521 = L1 := ⟨_, rfl⟩
      rw [hL1] at HSA ⊢
      have hL1b : L1 < 65521 := by omega
      clear hL1
      go_wp2_with fail
      go_ret
      exact ⟨ret_u32 (by rw [HSA.out]; omega), rfl⟩

/-- A block that a row of bytes was laid in. -/
theorem piece_new {w : World} {b : Nat} {t : TypeId} {fr : Nat × Nat} {bs : List Nat} (n : Nat) (hb : w.heap[b]? = some (.cells (ucells bs).toArray t fr)) (hn : bs.length = n) (hby : ∀ x ∈ bs, x < 256) : Piece.At ⟨some ⟨b, 0, none⟩, n, n, bs⟩ w NoS :=
  ⟨⟨by simp [ucells, hn], fun h => (by cases h), fun ad had j u hu => by
    cases had
    have h1 := cell_of_row w b j _ t fr hb
    rw [List.getElem?_toArray, hu] at h1
    by_cases hj : j = 0
    · subst hj; exact h1
    · simpa [Addr.add, hj] using h1⟩, hn, Nat.le_refl _, hby, fun _ _ _ h => h⟩

theorem piece_nil (w : World) (S : Nat → Prop) : Piece.At ⟨none, 0, 0, []⟩ w S := ⟨⟨rfl, fun _ => ⟨rfl, rfl⟩, fun _ h => (by cases h)⟩, rfl, Nat.le_refl _, fun _ h => (by cases h), fun _ h => (by cases h)⟩

theorem wiki_sum : sumA [87, 105, 107, 105, 112, 101, 100, 105, 97] = 300286872 := by decide
theorem nil_sum : sumA [] = 1 := by decide

abbrev wk1 (w : World) : World := w.alloc (.cells #[.int .u64 0, .int .u64 0, .int .i64 0] 33)
abbrev wk2 (w : World) : World := (wk1 w).alloc (.cells #[.int .u8 87, .int .u8 105, .int .u8 107, .int .u8 105] 5 (4, 5))
abbrev wk3 (w : World) : World := (wk2 w).alloc (.cells #[.int .u8 112, .int .u8 101, .int .u8 100, .int .u8 105, .int .u8 97] 5 (5, 6))
abbrev wk4 (w : World) : World := (wk3 w).alloc (.cells #[.slice (some ⟨w.heap.size + 1, 0, none⟩) 4 4, .slice (some ⟨w.heap.size + 1 + 1, 0, none⟩) 5 5] 22)

theorem wk_add (w : World) : Calls Try.prog 10 #[.pointer (some ⟨w.heap.size, 0, none⟩), .slice (some ⟨w.heap.size + 1 + 1 + 1, 0, none⟩) 2 2] (wk4 w) fun e w' => e = .returned (.tuple #[]) ∧ SumAt w' w.heap.size [87, 105, 107, 105, 112, 101, 100, 105, 97] ∧ Chg NoS w w' := by
  have hc : Chg NoS w (wk4 w) := ((((Chg.refl _ _).alloc _).alloc _).alloc _).alloc _
  have hs : SumAt (wk4 w) w.heap.size [] := Blk.alloc (Blk.alloc (Blk.alloc (new_sum w) _) _) _
  have e1 : (wk1 w).heap.size = w.heap.size + 1 := by simp
  have e2 : (wk2 w).heap.size = w.heap.size + 1 + 1 := by simp
  have e3 : (wk3 w).heap.size = w.heap.size + 1 + 1 + 1 := by simp
  have b1 : (wk2 w).heap[w.heap.size + 1]? = some (.cells (ucells [87, 105, 107, 105]).toArray 5 (4, 5)) := by rw [← e1]; exact heap_alloc_new (wk1 w) _
  have b2 : (wk3 w).heap[w.heap.size + 1 + 1]? = some (.cells (ucells [112, 101, 100, 105, 97]).toArray 5 (5, 6)) := by rw [← e2]; exact heap_alloc_new (wk2 w) _
  have p1 := (piece_new 4 b1 rfl (by decide)).no (((Chg.refl NoS _).alloc (.cells #[.int .u8 112, .int .u8 101, .int .u8 100, .int .u8 105, .int .u8 97] 5 (5, 6))).alloc (.cells #[.slice (some ⟨w.heap.size + 1, 0, none⟩) 4 4, .slice (some ⟨w.heap.size + 1 + 1, 0, none⟩) 5 5] 22))
  have p2 := (piece_new 5 b2 rfl (by decide)).no ((Chg.refl NoS _).alloc (.cells #[.slice (some ⟨w.heap.size + 1, 0, none⟩) 4 4, .slice (some ⟨w.heap.size + 1 + 1, 0, none⟩) 5 5] 22))
  have b3 : Blk (wk4 w) (w.heap.size + 1 + 1 + 1) 22 #[.slice (some ⟨w.heap.size + 1, 0, none⟩) 4 4, .slice (some ⟨w.heap.size + 1 + 1, 0, none⟩) 5 5] := by rw [← e3]; exact Blk.new (wk3 w) _ _
  have hS : Src (wk4 w) 1 (some ⟨w.heap.size + 1 + 1 + 1, 0, none⟩) 2 2 ([⟨some ⟨w.heap.size + 1, 0, none⟩, 4, 4, [87, 105, 107, 105]⟩, ⟨some ⟨w.heap.size + 1 + 1, 0, none⟩, 5, 5, [112, 101, 100, 105, 97]⟩].map Piece.cell) := ⟨rfl, fun h => (by cases h), fun ad had j u hu => by
    cases had
    have h1 := b3.cell j
    match j with
    | 0 => simp [Piece.cell] at hu; subst hu; exact h1
    | 1 => simp [Piece.cell] at hu; subst hu; exact h1
    | j + 2 => simp at hu⟩
  refine (add_any (wk4 w) w.heap.size [] _ 2 2 _ hs rfl hS (by intro a ha _; cases ha; show w.heap.size + 1 + 1 + 1 ≠ w.heap.size; omega) ?_ ?_ (by omega) (by simp [Piece.all])).mono ?_
  · intro p hp
    simp only [List.mem_cons, List.not_mem_nil, or_false] at hp
    rcases hp with rfl | rfl
    · exact ⟨p1.src, p1.len, p1.cap, p1.bytes, by intro a ha _; cases ha; show ¬ (w.heap.size + 1 = w.heap.size); omega⟩
    · exact ⟨p2.src, p2.len, p2.cap, p2.bytes, by intro a ha _; cases ha; show ¬ (w.heap.size + 1 + 1 = w.heap.size); omega⟩
  · intro p hp
    simp only [List.mem_cons, List.not_mem_nil, or_false] at hp
    rcases hp with rfl | rfl <;> simp
  · rintro e w' ⟨rfl, hs', hc'⟩
    exact ⟨rfl, hs', chg_new hc hc' (Nat.le_refl _)⟩

set_option maxHeartbeats 1000000 in
theorem works_any (w : World) :
    Calls Try.prog 9 #[] w fun e w' => e = .returned (.bool true) ∧ Chg NoS w w' := by
  have h1 := Go.Joins.run_convert_bytes_const_at (P := Try.prog) (w.alloc (.cells #[.int .u64 0, .int .u64 0, .int .i64 0] 33)) 22 5 #[.int .u8 87, .int .u8 105, .int .u8 107, .int .u8 105] 4 4 (w.heap.size + 1) (by simp) Try.underlying22 Try.underlying5
  have h2 := Go.Joins.run_convert_bytes_const_at (P := Try.prog) ((w.alloc (.cells #[.int .u64 0, .int .u64 0, .int .i64 0] 33)).alloc (.cells #[.int .u8 87, .int .u8 105, .int .u8 107, .int .u8 105] 5 (4, 5))) 22 5 #[.int .u8 112, .int .u8 101, .int .u8 100, .int .u8 105, .int .u8 97] 5 5 (w.heap.size + 1 + 1) (by simp) Try.underlying22 Try.underlying5
  simp only [List.size_toArray, List.length_cons, List.length_nil, Nat.reduceAdd] at h1 h2
  have HADD := keepf (wk_add w)
  go_enter Try.func9, Try.ntmps9
  go_wp2_with fail
  refine HADD.out.mono ?_
  rintro e w5 ⟨rfl, hs5, hc5⟩
  clear h1 h2
  have h3 := Go.Joins.run_convert_bytes_const_at (P := Try.prog) w5 22 5 #[.int .u8 87, .int .u8 105, .int .u8 107, .int .u8 105, .int .u8 112, .int .u8 101, .int .u8 100, .int .u8 105, .int .u8 97] 9 9 w5.heap.size rfl Try.underlying22 Try.underlying5
  simp only [List.size_toArray, List.length_cons, List.length_nil, Nat.reduceAdd] at h3
  have hs6 : SumAt (w5.alloc (.cells #[.int .u8 87, .int .u8 105, .int .u8 107, .int .u8 105, .int .u8 112, .int .u8 101, .int .u8 100, .int .u8 105, .int .u8 97] 5 (9, 10))) w.heap.size _ := Blk.alloc hs5 _
  have hc6 := hc5.alloc (.cells #[.int .u8 87, .int .u8 105, .int .u8 107, .int .u8 105, .int .u8 112, .int .u8 101, .int .u8 100, .int .u8 105, .int .u8 97] 5 (9, 10))
  have p6 := piece_new (bs := [87, 105, 107, 105, 112, 101, 100, 105, 97]) (t := 5) (fr := (9, 10)) 9 (heap_alloc_new w5 (.cells #[.int .u8 87, .int .u8 105, .int .u8 107, .int .u8 105, .int .u8 112, .int .u8 101, .int .u8 100, .int .u8 105, .int .u8 97] 5 (9, 10))) rfl (by decide)
  have hsum := adlerSum_any _ _ p6 (by simp)
  rw [wiki_sum] at hsum
  simp only [Piece.cell] at hsum
  have HS6 := keepf hs6
  have HC6 := keepf hc6
  have HSUM := keepf hsum
  clear hs5 hc5 hs6 hc6 p6 hsum
  go_wp2_with fail
  refine HSUM.out.mono ?_
  rintro e w7 ⟨rfl, hc7⟩
  have HS7 := keepf (Blk.chg HS6.out hc7 (fun h => h))
  have HC7 := keepf (HC6.out.trans hc7 (fun _ _ h => h))
  clear hc7 h3
  have hnone := adlerSum_any w7 ⟨none, 0, 0, []⟩ (piece_nil _ _) (by decide)
  rw [nil_sum] at hnone
  simp only [Piece.cell] at hnone
  have HNONE := keepf hnone
  clear hnone
  go_wp2_with fail
  refine HNONE.out.mono ?_
  rintro e w8 ⟨rfl, hc8⟩
  have HS8 := keepf (Blk.chg HS7.out hc8 (fun h => h))
  have HC8 := keepf (HC7.out.trans hc8 (fun _ _ h => h))
  clear hc8
  have hval := value_any _ _ _ _ HS8.out
  rw [wiki_sum] at hval
  have HVAL := keepf hval
  clear hval
  go_wp2_with fail
  refine HVAL.out.mono ?_
  rintro e w9 ⟨rfl, hc9⟩
  have HS9 := keepf (Blk.chg HS8.out hc9 (fun h => h))
  have HC9 := keepf (HC8.out.trans hc9 (fun _ _ h => h))
  clear hc9
  have HLEN := keepf (len_any _ _ _ _ _ HS9.out)
  go_wp2_with fail
  refine HLEN.out.mono ?_
  rintro e w10 ⟨rfl, rfl⟩
  go_wp2_with fail
  go_ret
  exact ⟨rfl, HC9.out⟩
end Go.Proofs.Ytgfdinclhakjhaa
