/- The small question that every statement of inflate asks: one byte, and none. -/
import Derived.Test.YtbdnhhhagpgibaaInf
import Derived.Test.YtbdnhhhagpgibaaWorks
namespace Go.Proofs.Ytbdnhhhagpgibaa
open Go.RowKit
set_option linter.unusedVariables false
set_option linter.unusedSimpArgs false

theorem vl_div (B : List Bool) (m d : Nat) (h : m + d ≤ B.length) : vl (B.take (m + d)) / 2 ^ d = vl (B.take m) := by
  induction d with
  | zero => simp
  | succ d ih =>
    have hl : m + d < B.length := by omega
    rw [← Nat.add_assoc, List.take_succ_eq_append_getElem hl, vl_snoc, Nat.pow_succ, Nat.mul_comm (2 ^ d) 2, ← Nat.div_div_eq_div_mul]
    have hb : (2 * vl (B.take (m + d)) + B[m + d].toNat) / 2 = vl (B.take (m + d)) := by cases B[m + d] <;> simp <;> omega
    rw [hb]
    exact ih (by omega)

/-- A code that is hit is the symbol. -/
theorem out_hit {ls : List Int} {B : List Bool} {n s : Nat} (h : Hit ls B n s) : Out ls B s n 0 := by
  refine .ok n s h (fun m q hm hh => ?_)
  have hne : q ≠ s := by
    rintro rfl
    have := hh.2.2.1.symm.trans h.2.2.1
    simp at this
    omega
  refine apart hh.1 (by omega) hh.2.2.1 h.2.2.1 hne ?_
  rw [h.2.2.2, hh.2.2.2]
  have := vl_div B m (n - m) (by have := h.2.1; omega)
  rw [show m + (n - m) = n from by omega] at this
  exact this

def wb1 : List Nat := [75, 4, 0]
def wb2 : List Nat := [3, 0, 7]
set_option maxRecDepth 100000 in
theorem hit1 : fixS[(97 : Nat)]? = some ((8 : Nat) : Int) ∧ cd fixS 97 = vl ((leftBits false wb1 3).take 8) ∧ 8 ≤ (leftBits false wb1 3).length := by decide +kernel
set_option maxRecDepth 100000 in
theorem hit2 : fixS[(256 : Nat)]? = some ((7 : Nat) : Int) ∧ cd fixS 256 = vl ((leftBits false wb1 11).take 7) ∧ 7 ≤ (leftBits false wb1 11).length := by decide +kernel
set_option maxRecDepth 100000 in
theorem hit3 : cd fixS 256 = vl ((leftBits false wb2 3).take 7) ∧ 7 ≤ (leftBits false wb2 3).length := by decide +kernel
theorem head1 : numAt false wb1 1 2 = 1 ∧ numAt false wb1 0 1 = 1 ∧ numAt false wb2 1 2 = 1 ∧ numAt false wb2 0 1 = 1 := by decide +kernel

theorem runs1 : Runs wb1 9 st0 (.ok [97] 18) := by
  have s1 : Step wb1 9 st0 (.inl ⟨3, [], .coded fixS fixD 1⟩) := .head (by
    unfold stHead
    rw [if_neg (by decide), if_neg (by rw [head1.1]; decide), if_pos head1.1, head1.2.1])
  have s2 : Step wb1 9 ⟨3, [], .coded fixS fixD 1⟩ (.inl ⟨11, [97], .coded fixS fixD 1⟩) := .coded (out_hit ⟨by decide, hit1.2.2, hit1.1, hit1.2.1⟩) (by simp [stCoded])
  have s3 : Step wb1 9 ⟨11, [97], .coded fixS fixD 1⟩ (.inl ⟨18, [97], .plain 0 1⟩) := .coded (out_hit ⟨by decide, hit2.2.2, hit2.1, hit2.2.1⟩) (by simp [stCoded])
  exact .go s1 (.go s2 (.go s3 (.stop (end_last (by decide)))))
theorem runs2 : Runs wb2 0 st0 (.ok [] 10) := by
  have s1 : Step wb2 0 st0 (.inl ⟨3, [], .coded fixS fixD 1⟩) := .head (by
    unfold stHead
    rw [if_neg (by decide), if_neg (by rw [head1.2.2.1]; decide), if_pos head1.2.2.1, head1.2.2.2])
  have s3 : Step wb2 0 ⟨3, [], .coded fixS fixD 1⟩ (.inl ⟨10, [], .plain 0 1⟩) := .coded (out_hit ⟨by decide, hit3.2, hit2.1, hit3.1⟩) (by simp [stCoded])
  exact .go s1 (.go s3 (.stop (end_last (by decide))))

theorem src_lit3 (w : World) (x y z : Nat) : Src (w.alloc (.cells #[.int .u8 x, .int .u8 y, .int .u8 z] 5)) 1 (some ⟨w.heap.size, 0, none⟩) [x, y, z].length 3 (ucells [x, y, z]) := by
  refine ⟨rfl, fun h => (by cases h), fun ad had j u hu => ?_⟩
  cases had
  rw [Addr.add_mid, Nat.zero_add, (Blk.new w 5 _).cell]
  match j, hu with
  | 0, hu => exact hu
  | 1, hu => exact hu
  | 2, hu => exact hu
  | j + 3, hu => simp [ucells] at hu

theorem inf1 (w : World) : Calls Try.prog 8 #[.slice (some ⟨w.heap.size, 0, none⟩) 3 3, .int .i64 9] (w.alloc (.cells #[.int .u8 75, .int .u8 4, .int .u8 0] 5))
    fun e w' => ∃ A c, e = .returned (.tuple #[.slice A 1 c, .int .i64 3, .int .i64 0]) ∧ Chg NoS w w' ∧ w'.ownsRow 0 5 1 (.slice A 1 c) 1 (ucells [97]) := by
  refine (inflate_any wb1 (some ⟨w.heap.size, 0, none⟩) 3 9 _ (src_lit3 w 75 4 0) (by decide) (by decide) (by decide)).mono ?_
  rintro e w' ⟨A, c, n, k, out, rfl, hc, ho, _, _, hr⟩
  rcases hr with ⟨rfl, b, _, rfl, hr⟩ | ⟨_, _, _, hr⟩
  · have h1 := hr.one runs1
    injection h1 with h1 h2
    subst h1 h2
    exact ⟨A, c, rfl, ((Chg.refl NoS w).alloc _).trans hc (fun _ _ h => h), ho⟩
  · have h1 := hr.one runs1
    cases h1
theorem inf2 (w : World) : Calls Try.prog 8 #[.slice (some ⟨w.heap.size, 0, none⟩) 3 3, .int .i64 0] (w.alloc (.cells #[.int .u8 3, .int .u8 0, .int .u8 7] 5))
    fun e w' => ∃ A c, e = .returned (.tuple #[.slice A 0 c, .int .i64 2, .int .i64 0]) ∧ Chg NoS w w' := by
  refine (inflate_any wb2 (some ⟨w.heap.size, 0, none⟩) 3 0 _ (src_lit3 w 3 0 7) (by decide) (by decide) (by decide)).mono ?_
  rintro e w' ⟨A, c, n, k, out, rfl, hc, ho, _, _, hr⟩
  rcases hr with ⟨rfl, b, _, rfl, hr⟩ | ⟨_, _, _, hr⟩
  · have h1 := hr.one runs2
    injection h1 with h1 h2
    subst h1 h2
    exact ⟨A, c, rfl, ((Chg.refl NoS w).alloc _).trans hc (fun _ _ h => h)⟩
  · have h1 := hr.one runs2
    cases h1

theorem bstr1 : bstr [97] = ⟨#[97]⟩ := rfl
set_option maxHeartbeats 1000000 in
set_option maxRecDepth 100000 in
theorem works_any5 (w : World) : Calls Try.prog 7 #[] w fun e w' => e = .returned (.bool true) ∧ Chg NoS w w' := by
  have H1 := keepf (inf1 w)
  go_enter Try.func7, Try.ntmps7
  go_upto_region 2 with (go_at_call 8; refine H1.out.mono ?_; rintro e w2 ⟨A2, c2, rfl, hc2, ho2⟩; have HC2 := keepf hc2; have HO2 := keepf ho2; have H2 := keepf (inf2 w2); clear hc2 ho2)
  go_upto_region 3 with (go_at_call 8; refine H2.out.mono ?_; rintro e w3 ⟨A3, c3, rfl, hc3⟩; have HC3 := keepf hc3; clear hc3)
  have hconv := convert_own (own_chg HO2.out HC3.out (fun _ _ h => h))
  rw [bstr1] at hconv
  go_wp2_with fail
  go_ret
  exact ⟨rfl, HC2.out.trans HC3.out (fun _ _ h => h)⟩
end Go.Proofs.Ytbdnhhhagpgibaa
