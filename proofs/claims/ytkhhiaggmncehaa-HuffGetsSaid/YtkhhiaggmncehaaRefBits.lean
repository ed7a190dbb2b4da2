/- The document's own answer: bytes' bits, and the number of bits; and a reader's Align. -/
import Derived.Test.YtkhhiaggmncehaaRef
import Derived.Test.YtkhhiaggmncehaaBits2
namespace Go.Proofs.Ytkhhiaggmncehaa
open Go.RowKit
set_option linter.unusedVariables false

/-- Behind Bits. -/
def BitsTo (w : World) (L : List Bool) (e : Ending) (w' : World) : Prop :=
  ∃ A cap, e = .returned (.slice A L.length cap) ∧ Grow w w' L L.length (.slice A L.length cap)

set_option maxHeartbeats 1000000 in
set_option maxRecDepth 100000 in
theorem refbits_any (high : Bool) (bs : List Nat) (A : Option Addr) (c : Nat) (w : World) (hbs : bs.length ≤ 1000000) (hb : ∀ b ∈ bs, b < 256) (hS : Src w 1 A bs.length c (ucells bs)) :
    Calls Try.prog 15 #[.slice A bs.length c, .bool high] w (BitsTo w (allBits high bs)) := by
  have HS := keepf hS
  have HB := keepf hb
  clear hS hb
  obtain ⟨i0, hi, hz0, hz1, hz2⟩ := info_parts info_bool
  go_enter Try.func15, Try.ntmps15
  go_wp2_with fail
  go_loopw [5, 6] (fun v i wr => ∃ k : Nat, k ≤ bs.length ∧ i = .int .i64 k ∧ Grow w wr ((allBits high bs).take (8 * k)) (8 * k) v) (fun _ i _ => bs.length - (intOf i).toNat)
  case atStart => exact ⟨0, Nat.zero_le _, rfl, own_nil _ _ _ _, Chg.refl _ _, fun i _ h => by simp [Value.ownBlock] at h⟩
  case round =>
    obtain ⟨k, hk, rfl, hG⟩ := hrel
    obtain ⟨A5, c5, rfl, _⟩ := own_slice hG.o
    have HG := keepf hG
    clear hG
    by_cases hlt : k < bs.length
    · obtain ⟨b, off, rfl, hcell⟩ := HS.out.plain (by simp [ucells]; omega)
      have hc := hcell k (.int .u8 (bs[k] : Nat)) (by simp [ucells, hlt])
      have hbk := HB.out bs[k] (List.getElem_mem hlt)
      have HN := keepf (allBits_next high bs k)
      have hbd : bs.getD k 0 = bs[k] := by simp [List.getD_eq_getElem?_getD, hlt]
      rw [hbd] at HN
      generalize bs[k] = x at *
      have E0 := keepf hc
      clear hcell hc hbd
      go_wp2_with fail
      go_loopw [5, 7] (fun v i wr => ∃ j : Nat, j ≤ 8 ∧ i = .int .i64 j ∧ Grow w wr ((allBits high bs).take (8 * k + j)) (8 * k + j) v) (fun _ i _ => 8 - (intOf i).toNat)
      case atStart => exact ⟨0, Nat.zero_le _, rfl, HG.out⟩
      case round =>
        obtain ⟨j, hj, rfl, hG2⟩ := hrel
        obtain ⟨A6, c6, rfl, _⟩ := own_slice hG2.o
        have HG2 := keepf hG2
        clear hG2 HG
        by_cases hj8 : j < 8
        · have hck := (HG2.out.c.cell (p := ⟨b, off + k, none⟩) (by exact cell_lt E0.out) (fun h => h)).trans E0.out
          have HN2 := keepf (HN.out j hj8 hlt)
          cases high
          · simp only [rowAt, cond_false] at HN2
            go_wp2_with fail
            refine (bit_any x j _ (by omega) (by omega) (by omega)).mono ?_
            rintro e w' ⟨rfl, rfl⟩
            rw [Int.toNat_natCast]
            go_wp2_with (first
              | (at_builtin; refine wpList_append_src rfl (.tmp 30) (.tmp 38) 38 rfl 4 i0 (.bool false) 1 1 Try.underlying38 hi hz0 hz1 hz2 rfl (by decide) (.slice A6 (8 * k + j) c6) _ _ rfl (own_chg (S := NoS) HG2.out.o ((Chg.refl _ _).alloc _) (fun _ _ h => h)) _ _ _ _ rfl (src_one _ _ _) (bool_one _) (by unfold maxLen; omega) (by omega) ?_; intro S2 w2 hown2 hgr hat; obtain ⟨A2, c2, rfl, hA2⟩ := own_slice hown2; have HGr := keepf hgr; have HO2 := keepf hown2; have HA2 := keepf hat; clear hgr hown2 hat hA2))
            go_roundw
            case rel => exact ⟨j + 1, by omega, by go_num, by rw [HN2.out, ← Nat.add_assoc]; exact HG2.out.add (M := [_]) (m := 1) HGr.out HO2.out HA2.out⟩
            case measure => simp [intOf]; omega
          · simp only [rowAt, cond_true] at HN2
            go_wp2_with fail
            refine (bit_any x (7 - j) _ (by omega) (by omega) (by omega)).mono ?_
            rintro e w' ⟨rfl, rfl⟩
            rw [show ((7 : Int) - (j : Int)).toNat = 7 - j from by omega]
            go_wp2_with (first
              | (at_builtin; refine wpList_append_src rfl (.tmp 19) (.tmp 28) 38 rfl 4 i0 (.bool false) 1 1 Try.underlying38 hi hz0 hz1 hz2 rfl (by decide) (.slice A6 (8 * k + j) c6) _ _ rfl (own_chg (S := NoS) HG2.out.o ((Chg.refl _ _).alloc _) (fun _ _ h => h)) _ _ _ _ rfl (src_one _ _ _) (bool_one _) (by unfold maxLen; omega) (by omega) ?_; intro S2 w2 hown2 hgr hat; obtain ⟨A2, c2, rfl, hA2⟩ := own_slice hown2; have HGr := keepf hgr; have HO2 := keepf hown2; have HA2 := keepf hat; clear hgr hown2 hat hA2))
            go_roundw
            case rel => exact ⟨j + 1, by omega, by go_num, by rw [HN2.out, ← Nat.add_assoc]; exact HG2.out.add (M := [_]) (m := 1) HGr.out HO2.out HA2.out⟩
            case measure => simp [intOf]; omega
        · obtain rfl : j = 8 := by omega
          go_wp2_with fail
          go_roundw
          case rel => exact ⟨k + 1, by omega, by go_num, HG2.out⟩
          case measure => simp [intOf]; omega
    · obtain rfl : k = bs.length := by omega
      go_wp2_with fail
      go_ret
      have hG := HG.out
      have hL := allBits_length high bs
      rw [List.take_of_length_le (by rw [hL]; exact Nat.le_refl _)] at hG
      exact ⟨A5, c5, by rw [hL]; rfl, by rw [hL]; exact hG⟩
end Go.Proofs.Ytkhhiaggmncehaa
