/- The document's own answer: bytes' bits, and the number of bits; and a reader's Align. -/
import Derived.Test.YtmkgffmeookblaaRef
import Derived.Test.YtmkgffmeookblaaBits2
namespace Go.Proofs.Ytmkgffmeookblaa
open Go.RowKit
set_option linter.unusedVariables false

theorem ralign_any (g a : Nat) (high : Bool) (bs : List Nat) (S : Value) (w : World) (hR : Rd w g high bs a S) (ha : a ≤ 1073741824) :
    Calls Try.prog 17 #[.pointer (some ⟨g, 0, none⟩)] w fun e w' => e = .returned (.tuple #[]) ∧ Rd w' g high bs (a + (8 - a % 8) % 8) S ∧ Chg (fun i => i = g) w w' := by
  have h0 := hR.1.cell 0
  have h2 := hR.1.cell 2
  have f2 := hR.1.frozen 2
  have hne := own_ne_blk hR.2 hR.1 (by decide)
  simp at h0 h2
  have HR := keepf hR
  have HN := keepf hne
  clear hR hne
  go_enter Try.func17, Try.ntmps17
  go_wp2_with (go_at_call 29; refine (rready_any g _ h0).mono ?_; rintro e w' ⟨rfl, rfl⟩)
  have HG := keepf (fun W h => gap_any g a W (by omega) h)
  have hs : IntKind.i64.wrap ((a : Int) + ((8 - a % 8) % 8 : Nat)) = (a : Int) + ((8 - a % 8) % 8 : Nat) := by rw [IntKind.wrap_i64]; omega
  refine wp_region_still_tail 13 (by kernel_rfl) (by kernel_rfl) ?_
  simp only [List.take_succ_cons, List.take_zero, List.drop_succ_cons, List.drop_zero]
  change wpStill _ _ w.drew _ _ _
  repeat still_step
  still_call (same_right (HG.out _ h2))
  repeat still_step
  refine wpStill_nil ?_
  change wpList _ _ _ _ _ w.drew
  go_wp2
  go_end0
  refine ⟨rfl, ⟨?_, ?_⟩, ?_⟩
  · have h1 := (HR.out.1.set_ 2 (.int .i64 ((a + (8 - a % 8) % 8 : Nat) : Int))).drew
    simpa using h1
  · exact own_chg (S := fun i => i = g) HR.out.2 (((Chg.refl (fun i => i = g) w).setCell (p := ⟨g, 2, none⟩) (fun _ => rfl) _).drew) (fun i hi he => HN.out (by rw [hi, he]))
  · exact ((Chg.refl (fun i => i = g) w).drew).setCell (p := ⟨g, 2, none⟩) (fun _ => rfl) _

set_option maxHeartbeats 1000000 in
theorem refof_any (high : Bool) (M : List Bool) (A : Option Addr) (c : Nat) (w : World) (hM : M.length ≤ 32) (hS : Src w 1 A M.length c (tcells M)) :
    Calls Try.prog 19 #[.slice A M.length c, .bool high] w fun e w' => e = .returned (.int .u32 (ofPart high M M.length : Nat)) ∧ w = w' := by
  have HS := keepf hS
  clear hS
  go_enter Try.func19, Try.ntmps19
  go_wp2_with fail
  go_loop [5, 6] (fun v i => ∃ k x : Nat, k ≤ M.length ∧ i = .int .i64 k ∧ v = .int .u32 x ∧ Hid (x = ofPart high M k)) (fun _ i => M.length - (intOf i).toNat)
  case atStart => exact ⟨0, 0, Nat.zero_le _, rfl, rfl, rfl⟩
  case round =>
    obtain ⟨k, x, hk, rfl, rfl, hx⟩ := hrel
    by_cases hlt : k < M.length
    · obtain ⟨b, off, rfl, hcell⟩ := HS.out.plain (by rw [tcells_len]; omega)
      have hx31 : x < 2147483648 := by
        have h1 := ofPart_lt high M k
        rw [← hx.out] at h1
        have h2 : 2 ^ k ≤ 2 ^ 31 := Nat.pow_le_pow_right (by decide) (by omega)
        omega
      cases high
      · obtain ⟨q, hq⟩ : ∃ q, q = M.length - 1 - k := ⟨_, rfl⟩
        have hql : q < M.length := by omega
        obtain ⟨bq, hbq⟩ : ∃ bq, M[q]? = some bq := ⟨_, List.getElem?_eq_getElem hql⟩
        have hc := hcell q (.bool bq) (by simp [tcells, hbq])
        have hs := ofPart_succ false M k bq (by simp only [cond_false]; rw [← hq, List.getD_eq_getElem?_getD, hbq]; rfl)
        rw [← hx.out] at hs
        have HSU := keepf hs
        clear hs hcell hbq
        rw [hq] at hc
        clear hql hq
        cases bq
        · go_wp2_with fail
          go_round
          case rel => exact ⟨k + 1, 2 * x, by omega, by go_num, by go_num, HSU.out.symm⟩
          case measure => simp [intOf]; omega
        · go_wp2_with fail
          go_round
          case rel => exact ⟨k + 1, 2 * x + 1, by omega, by go_num, by go_num, HSU.out.symm⟩
          case measure => simp [intOf]; omega
      · obtain ⟨bq, hbq⟩ : ∃ bq, M[k]? = some bq := ⟨_, List.getElem?_eq_getElem hlt⟩
        have hc := hcell k (.bool bq) (by simp [tcells, hbq])
        have hs := ofPart_succ true M k bq (by simp only [cond_true]; rw [List.getD_eq_getElem?_getD, hbq]; rfl)
        rw [← hx.out] at hs
        have HSU := keepf hs
        clear hs hcell hbq
        cases bq
        · go_wp2_with fail
          go_round
          case rel => exact ⟨k + 1, 2 * x, by omega, by go_num, by go_num, HSU.out.symm⟩
          case measure => simp [intOf]; omega
        · go_wp2_with fail
          go_round
          case rel => exact ⟨k + 1, 2 * x + 1, by omega, by go_num, by go_num, HSU.out.symm⟩
          case measure => simp [intOf]; omega
    · obtain rfl : k = M.length := by omega
      go_wp2_with fail
      go_ret
      exact ⟨by rw [← hx.out]; rfl, rfl⟩

/-- Behind Bits. -/
def BitsTo (w : World) (L : List Bool) (e : Ending) (w' : World) : Prop :=
  ∃ A cap, e = .returned (.slice A L.length cap) ∧ Grow w w' L L.length (.slice A L.length cap)

set_option maxHeartbeats 1000000 in
theorem refbits_any (high : Bool) (bs : List Nat) (A : Option Addr) (c : Nat) (w : World) (hbs : bs.length ≤ 1000000) (hb : ∀ b ∈ bs, b < 256) (hS : Src w 1 A bs.length c (ucells bs)) :
    Calls Try.prog 16 #[.slice A bs.length c, .bool high] w (BitsTo w (allBits high bs)) := by
  have HS := keepf hS
  have HB := keepf hb
  clear hS hb
  obtain ⟨i0, hi, hz0, hz1, hz2⟩ := info_parts info_bool
  go_enter Try.func16, Try.ntmps16
  go_wp2_with fail
  go_loopw [5, 6] (fun v i wr => ∃ k : Nat, k ≤ bs.length ∧ i = .int .i64 k ∧ Grow w wr ((allBits high bs).take (8 * k)) (8 * k) v) (fun _ i _ => bs.length - (intOf i).toNat)
  case atStart => exact ⟨0, Nat.zero_le _, rfl, own_nil _ _ _ _, Chg.refl _ _, fun i _ h => by simp [Value.ownBlock] at h⟩
  case round =>
    obtain ⟨k, hk, rfl, hG⟩ := hrel
    obtain ⟨A5, c5, rfl, _⟩ := own_slice hG.o
    have HG := keepf hG
    clear hG
    by_cases hlt : k < bs.length
    · obtain ⟨b, off, rfl, hcell⟩ := HS.out.plain (by simp [ucells]; omega)
      have hc := hcell k (.int .u8 (bs[k] : Nat)) (by simp [ucells, hlt])
      have hbk := HB.out bs[k] (List.getElem_mem hlt)
      have HN := keepf (allBits_next high bs k)
      have hbd : bs.getD k 0 = bs[k] := by simp [List.getD_eq_getElem?_getD, hlt]
      rw [hbd] at HN
      generalize bs[k] = x at *
      have E0 := keepf hc
      clear hcell hc hbd
      go_wp2_with fail
      go_loopw [5, 7] (fun v i wr => ∃ j : Nat, j ≤ 8 ∧ i = .int .i64 j ∧ Grow w wr ((allBits high bs).take (8 * k + j)) (8 * k + j) v) (fun _ i _ => 8 - (intOf i).toNat)
      case atStart => exact ⟨0, Nat.zero_le _, rfl, HG.out⟩
      case round =>
        obtain ⟨j, hj, rfl, hG2⟩ := hrel
        obtain ⟨A6, c6, rfl, _⟩ := own_slice hG2.o
        have HG2 := keepf hG2
        clear hG2 HG
        by_cases hj8 : j < 8
        · have hck := (HG2.out.c.cell (p := ⟨b, off + k, none⟩) (by exact cell_lt E0.out) (fun h => h)).trans E0.out
          have HN2 := keepf (HN.out j hj8 hlt)
          cases high
          · simp only [rowAt, cond_false] at HN2
            go_wp2_with fail
            refine (bit_any x j _ (by omega) (by omega) (by omega)).mono ?_
            rintro e w' ⟨rfl, rfl⟩
            rw [Int.toNat_natCast]
            go_wp2_with (first
              | (at_builtin; refine wpList_append_src rfl (.tmp 30) (.tmp 38) 25 rfl 4 i0 (.bool false) 1 1 Try.underlying25 hi hz0 hz1 hz2 rfl (by decide) (.slice A6 (8 * k + j) c6) _ _ rfl (own_chg (S := NoS) HG2.out.o ((Chg.refl _ _).alloc _) (fun _ _ h => h)) _ _ _ _ rfl (src_one _ _ _) (bool_one _) (by unfold maxLen; omega) (by omega) ?_; intro S2 w2 hown2 hgr hat; obtain ⟨A2, c2, rfl, hA2⟩ := own_slice hown2; have HGr := keepf hgr; have HO2 := keepf hown2; have HA2 := keepf hat; clear hgr hown2 hat hA2))
            go_roundw
            case rel => exact ⟨j + 1, by omega, by go_num, by rw [HN2.out, ← Nat.add_assoc]; exact HG2.out.add (M := [_]) (m := 1) HGr.out HO2.out HA2.out⟩
            case measure => simp [intOf]; omega
          · simp only [rowAt, cond_true] at HN2
            go_wp2_with fail
            refine (bit_any x (7 - j) _ (by omega) (by omega) (by omega)).mono ?_
            rintro e w' ⟨rfl, rfl⟩
            rw [show ((7 : Int) - (j : Int)).toNat = 7 - j from by omega]
            go_wp2_with (first
              | (at_builtin; refine wpList_append_src rfl (.tmp 19) (.tmp 28) 25 rfl 4 i0 (.bool false) 1 1 Try.underlying25 hi hz0 hz1 hz2 rfl (by decide) (.slice A6 (8 * k + j) c6) _ _ rfl (own_chg (S := NoS) HG2.out.o ((Chg.refl _ _).alloc _) (fun _ _ h => h)) _ _ _ _ rfl (src_one _ _ _) (bool_one _) (by unfold maxLen; omega) (by omega) ?_; intro S2 w2 hown2 hgr hat; obtain ⟨A2, c2, rfl, hA2⟩ := own_slice hown2; have HGr := keepf hgr; have HO2 := keepf hown2; have HA2 := keepf hat; clear hgr hown2 hat hA2))
            go_roundw
            case rel => exact ⟨j + 1, by omega, by go_num, by rw [HN2.out, ← Nat.add_assoc]; exact HG2.out.add (M := [_]) (m := 1) HGr.out HO2.out HA2.out⟩
            case measure => simp [intOf]; omega
        · obtain rfl : j = 8 := by omega
          go_wp2_with fail
          go_roundw
          case rel => exact ⟨k + 1, by omega, by go_num, HG2.out⟩
          case measure => simp [intOf]; omega
    · obtain rfl : k = bs.length := by omega
      go_wp2_with fail
      go_ret
      have hG := HG.out
      have hL := allBits_length high bs
      rw [List.take_of_length_le (by rw [hL]; exact Nat.le_refl _)] at hG
      exact ⟨A5, c5, by rw [hL]; rfl, by rw [hL]; exact hG⟩
end Go.Proofs.Ytmkgffmeookblaa
