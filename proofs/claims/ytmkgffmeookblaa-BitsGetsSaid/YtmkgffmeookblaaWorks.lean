/- The small question that every statement asks first: three bits, written and read back. -/
import Derived.Test.YtmkgffmeookblaaGet
import Derived.Laws.BytesArg
namespace Go.Proofs.Ytmkgffmeookblaa
open Go.RowKit
set_option linter.unusedVariables false

/-- The string of bytes. -/
def bstr (bs : List Nat) : ByteArray := strOfNums (bs.map fun b : Nat => (b : Int))

theorem convert_own {w : World} {A : Option Addr} {n c : Nat} {bs : List Nat} (h : w.ownsRow 0 5 1 (.slice A n c) n (ucells bs)) :
    (convert 35 9 (.slice A n c)).run Try.prog w = .ok (.string (bstr bs)) w := by
  rcases Nat.eq_zero_or_pos n with h0 | h0
  · subst h0
    have hb : bs = [] := by
      have := h.1
      simp [ucells] at this
      exact this
    subst hb
    rcases A with _ | a
    · exact run_convert_bytes_nil w 35 5 Try.underlying35 Try.underlying5 _ _ 9 Try.underlying9
    · rcases h.2 with ⟨h', _⟩ | ⟨g, cap, cur, h', _⟩
      · simp at h'
      · simp only [Value.slice.injEq, Option.some.injEq] at h'
        obtain ⟨rfl, _, rfl⟩ := h'
        exact run_convert_bytes_arg w 35 5 Try.underlying35 Try.underlying5 g 0 0 c [] rfl (fun i hi => absurd hi (by omega)) 9 Try.underlying9
  · obtain ⟨g, cap, hv, _, _⟩ := own_form h h0
    simp only [Value.slice.injEq] at hv
    obtain ⟨rfl, _, rfl⟩ := hv
    have hlen : bs.length = n := by
      have := h.1
      simpa [ucells] using this
    refine run_convert_bytes_arg w 35 5 Try.underlying35 Try.underlying5 g 0 n c (bs.map fun b : Nat => (b : Int)) (by simpa using hlen) (fun i hi => ?_) 9 Try.underlying9
    have hc := h.cellAt i (by omega)
    rw [Nat.zero_add, hc]
    simp [ucells, hlen, hi]

theorem ucells_bytes (high : Bool) (L : List Bool) : bcells high L = ucells (bytesOf high L) := rfl

theorem work1 : bytesOf true (numBits true 5 3) = [160] := by decide
theorem work2 : bytesOf false (numBits false 5 3) = [5] := by decide
theorem work3 : numAt true [160] 0 3 = 5 := by decide
theorem work4 : bstr [160] = ⟨#[160]⟩ := rfl
theorem work5 : bstr [5] = ⟨#[5]⟩ := rfl
theorem work7 : nby (([] : List Bool) ++ numBits true 5 3).length = 1 := by decide
theorem work8 : nby (([] : List Bool) ++ numBits false 5 3).length = 1 := by decide
theorem work6 : Lib.bitLen 5 = 3 := by decide

set_option maxHeartbeats 1000000 in
theorem works_any (w : World) :
    Calls Try.prog 8 #[] w fun e w' => e = .returned (.bool true) ∧ Chg NoS w w' := by
  have hA := wr_new true w
  have hB := wr_new false (w.alloc (.cells #[.bool true, .bool true, .int .i64 0, .slice none 0 0] 51))
  have hA2 := hA.chg (T := NoS) ((Chg.refl _ _).alloc (.cells #[.bool true, .bool false, .int .i64 0, .slice none 0 0] 51)) (fun _ _ h => h)
  have hc0 : Chg NoS w ((w.alloc (.cells #[.bool true, .bool true, .int .i64 0, .slice none 0 0] 51)).alloc (.cells #[.bool true, .bool false, .int .i64 0, .slice none 0 0] 51)) := ((Chg.refl _ _).alloc _).alloc _
  have HA := keepf hA2
  have HB := keepf hB
  have HC := keepf hc0
  clear hA hB hA2 hc0
  go_enter Try.func8, Try.ntmps8
  go_wp2_with fail
  refine (new_any true _).mono ?_
  rintro e w' ⟨rfl, rfl⟩
  go_wp2_with fail
  refine (new_any false _).mono ?_
  rintro e w' ⟨rfl, rfl⟩
  go_wp2_with fail
  refine (put_ok w.heap.size true [] (.slice none 0 0) 5 3 _ HA.out (by simp) (by omega) (by omega)).mono ?_
  rintro e w3 ⟨rfl, S1, hW1, hc1, hf1⟩
  have hB3 := HB.out.chg hc1 (by
    rintro i (rfl | hi)
    · rintro (h | h)
      · simp at h
      · simp [Value.ownBlock] at h
    · simp [Value.ownBlock] at hi)
  have HA3 := keepf hW1
  have HB3 := keepf hB3
  have HC3 := keepf (HC.out.trans hc1 (fun i hi h => by
    rcases h with h | h
    · omega
    · simp [Value.ownBlock] at h))
  have HF3 := keepf hf1
  clear HA HB HC hW1 hc1 hf1 hB3
  simp only [World.size_alloc] at HB3
  go_wp2_with fail
  refine (put_ok (w.heap.size + 1) false [] (.slice none 0 0) 5 3 _ HB3.out (by simp) (by omega) (by omega)).mono ?_
  rintro e w4 ⟨rfl, S2, hW2, hc2, hf2⟩
  have hA4 := HA3.out.chg hc2 (by
    rintro i hi (h | h)
    · subst h
      rcases hi with h | h
      · omega
      · have := HF3.out (w.heap.size + 1) (by simp) h
        simp [Value.ownBlock] at this
    · simp [Value.ownBlock] at h)
  have HA4 := keepf hA4
  have HB4 := keepf hW2
  have HC4 := keepf (HC3.out.trans hc2 (fun i hi h => by
    rcases h with h | h
    · omega
    · simp [Value.ownBlock] at h))
  clear HA3 HB3 HC3 HF3 hW2 hc2 hf2 hA4
  go_wp2_with fail
  refine (read_any true [160] _ 1 _ (src_one w4 (.int .u8 160) 5) (by simp)).mono ?_
  rintro e w5 ⟨gr, S5, rfl, hR, hc3, hgr, hS5⟩
  have hc4 := ((Chg.refl NoS w4).alloc (.cells #[.int .u8 160] 5)).trans hc3 (fun _ _ h => h)
  have HA5 := keepf (HA4.out.chg hc4 (fun _ _ h => h))
  have HB5 := keepf (HB4.out.chg hc4 (fun _ _ h => h))
  have HC5 := keepf (HC4.out.trans hc4 (fun _ _ h => h))
  have HR5 := keepf hR
  have hlt : w4.heap.size < gr := by simp at hgr; omega
  have ha1 := HA4.out.lt
  have hb1 := HB4.out.lt
  have HD := keepf (show ∀ i, WS w.heap.size S1 i ∨ WS (w.heap.size + 1) S2 i → ¬ i = gr from fun i h e => by
    rcases h with h | h
    · have := ha1 i h; omega
    · have := hb1 i h; omega)
  have HG := keepf (show w.heap.size < gr from Nat.lt_of_le_of_lt HC4.out.size hlt)
  clear HA4 HB4 HC4 hR hc3 hgr hS5 hc4 hlt ha1 hb1
  go_wp2_with fail
  refine (get_ok gr 0 3 true [160] S5 _ HR5.out (by simp) (by simp) (by omega) (by simp)).mono ?_
  rintro e w6 ⟨rfl, hR6, hc6⟩
  have HA6 := keepf (HA5.out.chg hc6 (fun i h => HD.out i (.inl h)))
  have HB6 := keepf (HB5.out.chg hc6 (fun i h => HD.out i (.inr h)))
  have HC6 := keepf (HC5.out.trans hc6 (fun i hi h => by
    have := HG.out
    omega))
  have HR6 := keepf hR6
  clear HA5 HB5 HC5 HR5 hR6 hc6
  rw [work3]
  go_wp2_with fail
  have hb1 := bytes_any w.heap.size true _ S1 _ HA6.out (by simp [numBits_length])
  rw [work7, ucells_bytes, List.nil_append, work1] at hb1
  refine hb1.mono ?_
  clear hb1
  rintro e w7 ⟨A7, cap7, rfl, hown7, hc7, hf7⟩
  have hcv := convert_own hown7
  rw [work4] at hcv
  have HB7 := keepf (HB6.out.chg hc7 (fun _ _ h => h))
  have HR7 := keepf (show Rd w7 gr true [160] 3 S5 from ⟨HR6.out.1.chg hc7 (fun h => h), own_chg HR6.out.2 hc7 (fun _ _ h => h)⟩)
  have HC7 := keepf (HC6.out.trans hc7 (fun _ _ h => h))
  clear HA6 HB6 HR6 HC6 hown7 hc7 hf7
  go_wp2_with fail
  have hb2 := bytes_any (w.heap.size + 1) false _ S2 _ HB7.out (by simp [numBits_length])
  rw [work8, ucells_bytes, List.nil_append, work2] at hb2
  refine hb2.mono ?_
  clear hb2 hcv
  rintro e w8 ⟨A8, cap8, rfl, hown8, hc8, hf8⟩
  have hcv := convert_own hown8
  rw [work5] at hcv
  have hR8 : Rd w8 gr true [160] 3 S5 := ⟨HR7.out.1.chg hc8 (fun h => h), own_chg HR7.out.2 hc8 (fun _ _ h => h)⟩
  have HC8 := keepf (HC7.out.trans hc8 (fun _ _ h => h))
  obtain ⟨A5, cap5, hS5, _⟩ := own_slice hR8.2
  subst hS5
  have h0 := hR8.1.cell 0
  have h2 := hR8.1.cell 2
  have h3 := hR8.1.cell 3
  simp at h0 h2 h3
  clear HB7 HR7 HC7 hown8 hc8 hf8 hR8
  go_wp2_with fail
  refine (left_any gr 3 1 cap5 A5 _ (by omega) (by omega) h0 h2 h3).mono ?_
  rintro e w9 ⟨rfl, m, rfl⟩
  go_wp2_with fail
  refine (width_any 5 _ (by omega) (by omega)).mono ?_
  rintro e w10 ⟨rfl, rfl⟩
  rw [show Lib.bitLen (5 : Int).toNat = 3 from work6]
  go_wp2
  go_ret
  exact ⟨rfl, HC8.out.drewN m⟩
end Go.Proofs.Ytmkgffmeookblaa
