/- Merged by program: StB. -/
import Derived.Test.YtmmilchmnimjoaaGreatN12
import Derived.Test.YtmmilchmnimjoaaGreatN17
/- The document's own Stored: bytes as they are; what the program's bits are as bytes. -/
namespace Go.Proofs.YtmmilchmnimjoaaGreat
open Go.RowKit
set_option linter.unusedVariables false
set_option linter.unusedSimpArgs false
theorem byteBits_get : ∀ (xs : List Nat) (i p : Nat), p < 8 → (byteBits xs).getD (8 * i + p) false = (xs.getD i 0).testBit p
  | [], i, p, h => by simp [byteBits]
  | x :: xs, i, p, h => by
    have e : byteBits (x :: xs) = numBits false x 8 ++ byteBits xs := by simp [byteBits]
    rw [e]
    cases i with
    | zero =>
      rw [List.getD_eq_getElem?_getD, List.getElem?_append_left (by rw [numBits_length]; omega), ← List.getD_eq_getElem?_getD, Nat.mul_zero, Nat.zero_add, numBits_getD _ _ _ _ h]
      rfl
    | succ i =>
      rw [List.getD_eq_getElem?_getD, List.getElem?_append_right (by rw [numBits_length]; omega), ← List.getD_eq_getElem?_getD, numBits_length, show 8 * (i + 1) + p - 8 = 8 * i + p from by omega, byteBits_get xs i p h]
      rfl
theorem bytesOf_bits (xs : List Nat) (h : ∀ x ∈ xs, x < 256) : bytesOf false (byteBits xs) = xs := by
  have hl : nby (byteBits xs).length = xs.length := by rw [byteBits_len, nby]; omega
  apply List.ext_getElem
  · rw [bytesOf_length, hl]
  · intro i h1 h2
    rw [bytesOf_length] at h1
    have e := bytesOf_get false (byteBits xs) i h1
    have e2 : (bytesOf false (byteBits xs))[i]? = some ((bytesOf false (byteBits xs))[i]'(by rw [bytesOf_length]; exact h1)) := List.getElem?_eq_getElem _
    rw [e2] at e
    injection e with e
    rw [e]
    have hx := h _ (List.getElem_mem h2)
    apply Nat.eq_of_testBit_eq
    intro p
    unfold byteAt
    rw [obf_bit]
    by_cases hp : p < 8
    · show (decide (p < 8) && (byteBits xs).getD (8 * i + p) false) = _
      rw [byteBits_get xs i p hp, decide_eq_true hp, List.getD_eq_getElem?_getD, List.getElem?_eq_getElem h2]
      rfl
    · rw [decide_eq_false hp, Bool.false_and]
      symm
      apply Nat.testBit_lt_two_pow
      exact Nat.lt_of_lt_of_le hx (show 2 ^ 8 ≤ 2 ^ p from Nat.pow_le_pow_right (by omega) (by omega))
theorem numBits_16 (x : Nat) : numBits false x 16 = numBits false (x % 256) 8 ++ numBits false (x / 256) 8 := by
  apply List.ext_getElem
  · simp [numBits_length]
  · intro k h1 h2
    rw [numBits_length] at h1
    have e : ∀ (y n j : Nat) (h : j < (numBits false y n).length), (numBits false y n)[j] = y.testBit j := fun y n j h => by simp [numBits]
    rw [e]
    by_cases hk : k < 8
    · rw [List.getElem_append_left (by rw [numBits_length]; exact hk), e, show 256 = 2 ^ 8 from rfl, Nat.testBit_mod_two_pow]
      simp [hk]
    · rw [List.getElem_append_right (by rw [numBits_length]; omega), e, numBits_length, show 256 = 2 ^ 8 from rfl, Nat.testBit_div_two_pow]
      congr 1
      omega
theorem xor_not (n : Nat) (h : n ≤ 65535) : n ^^^ 65535 = 65535 - n := by
  apply Nat.eq_of_testBit_eq
  intro i
  rw [Nat.testBit_xor, show 65535 = 2 ^ 16 - 1 from rfl, Nat.testBit_two_pow_sub_one, show 2 ^ 16 - 1 - n = 2 ^ 16 - (n + 1) from by omega, Nat.testBit_two_pow_sub_succ (by omega)]
  by_cases hi : i < 16
  · simp [hi]
  · simp only [hi, decide_false, Bool.xor_false, Bool.false_and]
    apply Nat.testBit_lt_two_pow
    exact Nat.lt_of_le_of_lt h (Nat.lt_of_lt_of_le (show 65535 < 2 ^ 16 by decide) (Nat.pow_le_pow_right (by omega) (by omega)))
def st5 (bs : List Nat) : List Nat := [1, bs.length % 256, bs.length / 256, 255 - bs.length % 256, 255 - bs.length / 256] ++ bs
theorem st5_len (bs : List Nat) : (st5 bs).length = 5 + bs.length := by simp [st5]; omega
theorem st5_bytes (bs : List Nat) (hl : bs.length ≤ 65535) (hb : ∀ x ∈ bs, x < 256) : bytesOf false (storedL true bs []) = st5 bs := by
  rw [storedL, dif_pos hl, blockL, xor_not _ hl, numBits_16, numBits_16]
  have e0 : alignL ([] ++ headBits true 0) = numBits false 1 8 := by decide
  have e1 : (65535 - bs.length) % 256 = 255 - bs.length % 256 := by omega
  have e2 : (65535 - bs.length) / 256 = 255 - bs.length / 256 := by omega
  rw [e0, e1, e2]
  have e3 : numBits false 1 8 ++ (numBits false (bs.length % 256) 8 ++ numBits false (bs.length / 256) 8) ++ (numBits false (255 - bs.length % 256) 8 ++ numBits false (255 - bs.length / 256) 8) ++ byteBits bs = byteBits (st5 bs) := by
    simp [byteBits, st5]
  rw [e3]
  apply bytesOf_bits
  intro x hx
  simp only [st5, List.mem_append, List.mem_cons, List.not_mem_nil, or_false] at hx
  rcases hx with (rfl | rfl | rfl | rfl | rfl) | hx
  · omega
  · omega
  · omega
  · omega
  · omega
  · exact hb x hx
theorem uone (bs : List Nat) : ∀ u ∈ ucells bs, u.oneCell' = true := by
  intro u hu
  obtain ⟨x, _, rfl⟩ := List.mem_map.1 hu
  rfl
def StTo (w : World) (bs : List Nat) (n : Nat) (e : Ending) (w' : World) : Prop := ∃ A c, e = .returned (.slice A n c) ∧ w'.ownsRow 0 5 1 (.slice A n c) n (ucells bs) ∧ Chg NoS w w'
set_option maxHeartbeats 1000000 in
set_option maxRecDepth 100000 in
theorem rstored (bs : List Nat) (A : Option Addr) (c : Nat) (w : World) (hS : Src w 1 A bs.length c (ucells bs)) (hc : bs.length ≤ c) (hl : bs.length ≤ 1500) :
    Calls Tryz.prog 28 #[.slice A bs.length c] w (StTo w (st5 bs) (5 + bs.length)) := by
  have HS := keepf hS
  obtain ⟨n, hn⟩ : ∃ n, n = bs.length := ⟨_, rfl⟩
  have HN := keepf hn
  rw [← hn] at HS hc hl ⊢
  obtain ⟨n1, hn1⟩ : ∃ n1, n1 = n % 256 := ⟨_, rfl⟩
  obtain ⟨n2, hn2⟩ : ∃ n2, n2 = n / 256 := ⟨_, rfl⟩
  have e1 : (n : Int) % 256 = (n1 : Int) := by omega
  have e2 : (n : Int) / 256 = (n2 : Int) := by omega
  have e0 : (n : Int) / 65535 = 0 := by omega
  have b1 : n1 < 256 := by omega
  have b2 : n2 < 256 := by omega
  obtain ⟨n3, hn3⟩ : ∃ n3, n3 = 255 - n1 := ⟨_, rfl⟩
  obtain ⟨n4, hn4⟩ : ∃ n4, n4 = 255 - n2 := ⟨_, rfl⟩
  have e3 : (255 : Int) - n1 = (n3 : Int) := by omega
  have e4 : (255 : Int) - n2 = (n4 : Int) := by omega
  have b3 : n3 < 256 := by omega
  have b4 : n4 < 256 := by omega
  have HE := keepf (show st5 bs = [1, n1, n2, n3, n4] ++ bs by rw [hn3, hn4, hn1, hn2, hn]; rfl)
  clear hS hn hn1 hn2 hn3 hn4
  obtain ⟨i0, hi, hz0, hz1, hz2⟩ := info_parts info_u8
  go_enter Tryz.func28, Tryz.ntmps28
  go_wp2_with fail
  go_loopw [3, 4, 5] (fun vo va vk wr => (vk = .int .i64 0 ∧ va = .int .i64 0 ∧ vo = .slice none 0 0 ∧ wr = w) ∨ (∃ A2 c2, vk = .int .i64 1 ∧ va = .int .i64 (n : Nat) ∧ vo = .slice A2 (5 + n) c2 ∧ Hid (wr.ownsRow 0 5 1 (.slice A2 (5 + n) c2) (5 + n) (ucells (st5 bs))) ∧ Hid (Chg NoS w wr))) (fun _ _ vk _ => 1 - (intOf vk).toNat)
  case atStart => exact .inl ⟨rfl, rfl, rfl, rfl⟩
  case round =>
    rcases hrel with ⟨rfl, rfl, rfl, rfl⟩ | ⟨A2, c2, rfl, rfl, rfl, HO, HC⟩
    · have d0 : decide ((65535 : Int) < n) = false := by simp; omega
      have d1 : ((n : Int) == n) = true := by simp
      have hmid : ∀ W : World, (Instr.sliceAt 22 (.slice A n c) (some (.int .i64 0)) (some (.int .i64 (n : Nat))) none).run Tryz.prog W = .ok (.slice A n c) W := fun W => by
        have h := midB A n c 0 n (by omega) hc W
        rwa [cutA_zero, Nat.sub_zero, Nat.sub_zero] at h
      have HSR := keepf (fun (W : World) (h : Chg NoS wr W) => Src.below (w0 := wr) HS.out h)
      obtain ⟨bz, d2⟩ : ∃ bz, ((n : Int) == 0) = bz := ⟨_, rfl⟩
      have f5 := src_mark7 (w := wr) #[.int .u8 1, .int .u8 (n1 : Nat), .int .u8 (n2 : Nat), .int .u8 (n3 : Nat), .int .u8 (n4 : Nat)] 5 (0, 0) (m := 5) (size := 1) rfl rfl
      have F5 := keepf f5
      clear f5
      cases bz
      all_goals
        go_upto_region 15 with (at_builtin; refine wpList_append_src rfl (.tmp 34) (.tmp 50) 22 rfl 5 i0 (.int .u8 0) 1 1 Tryz.underlying22 hi hz0 hz1 hz2 rfl (by decide) (.slice none 0 0) 0 [] rfl (own_nil _ _ _ _) _ _ _ [.int .u8 1, .int .u8 (n1 : Nat), .int .u8 (n2 : Nat), .int .u8 (n3 : Nat), .int .u8 (n4 : Nat)] rfl F5.out (by simp [Value.oneCell']) (by decide) (by decide) ?_; intro S4 w4 hown4 hgr4 hat4; obtain ⟨A4, c4, rfl, hA4⟩ := own_slice hown4; have HO4 := keepf hown4; have HC4 := keepf (grow_chg (Chg.refl NoS wr) (show ∀ a, (none : Option Addr) = some a → wr.heap.size ≤ a.block from fun a h => by cases h) ((Chg.refl NoS wr).alloc _) hgr4); have HN4 := keepf (grow_new (show ∀ a, (none : Option Addr) = some a → wr.heap.size ≤ a.block from fun a h => by cases h) (by simp) hat4); clear hown4 hgr4 hat4 hA4)
        go_wp2_with (at_builtin; refine wpList_append_src rfl (.tmp 52) (.tmp 58) 22 rfl 5 i0 (.int .u8 0) 1 1 Tryz.underlying22 hi hz0 hz1 hz2 rfl (by decide) (.slice A4 (0 + 5) c4) (0 + 5) _ rfl HO4.out _ _ _ (ucells bs) rfl (HSR.out _ HC4.out) (uone bs) (by unfold maxLen; omega) (by omega) ?_; intro S5 w5 hown5 hgr5 hat5; obtain ⟨A5, c5, rfl, hA5⟩ := own_slice hown5; have HO5 := keepf hown5; have HC5 := keepf (grow_chg HC4.out HN4.out (Chg.refl NoS w4) hgr5); clear hown5 hgr5 hat5 hA5)
        go_roundw
        case rel =>
          refine .inr ⟨A5, c5, by go_num, by go_num, rfl, ?_, HC5.out⟩
          have h := HO5.out
          have e : ucells (st5 bs) = [.int .u8 1, .int .u8 (n1 : Nat), .int .u8 (n2 : Nat), .int .u8 (n3 : Nat), .int .u8 (n4 : Nat)] ++ ucells bs := by rw [HE.out]; simp [ucells]
          show w5.ownsRow _ _ _ _ _ _
          rw [e]
          exact h
        case measure => simp [intOf]
    · go_wp2_with fail
      go_ret
      exact ⟨A2, c2, rfl, HO.out, HC.out⟩
end Go.Proofs.YtmmilchmnimjoaaGreat
