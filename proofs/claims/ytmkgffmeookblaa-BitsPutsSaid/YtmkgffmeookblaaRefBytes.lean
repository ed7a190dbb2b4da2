/- The document's own answer: bits as bytes. -/
import Derived.Test.YtmkgffmeookblaaRef
namespace Go.Proofs.Ytmkgffmeookblaa
open Go.RowKit
set_option linter.unusedVariables false

/-- The bytes of the first k bits, N of them, as cells. -/
def fcells (high : Bool) (L : List Bool) (N k : Nat) : List Value := (List.range N).map fun i => .int .u8 (byteAt high (L.take k) i : Nat)

theorem fcells_zero (high : Bool) (L : List Bool) (N : Nat) : (madeCells #[Value.int .u8 0] N).toList = fcells high L N 0 := by
  rw [toList_madeCells_one, fcells]
  apply List.ext_getElem?
  intro i
  by_cases h : i < N
  · simp [h, byteAt_out high [] i (by simp)]
  · simp [h]

theorem fcells_all (high : Bool) (L : List Bool) : fcells high L (nby L.length) L.length = bcells high L := by
  rw [fcells, List.take_of_length_le (Nat.le_refl _), bcells, bytesOf, List.map_map]
  rfl

theorem fcells_get (high : Bool) (L : List Bool) (N k i : Nat) (h : i < N) : (fcells high L N k)[i]? = some (.int .u8 (byteAt high (L.take k) i : Nat)) := by
  simp [fcells, h]

theorem fcells_skip (high : Bool) (L : List Bool) (N k : Nat) (h : L[k]? = some false) : fcells high L N (k + 1) = fcells high L N k := by
  unfold fcells
  congr 1
  funext i
  rw [byteAt_other high L k i (.inr h)]

theorem fcells_set (high : Bool) (L : List Bool) (N k : Nat) (h : L[k]? = some true) (hN : k / 8 < N) :
    (fcells high L N k).set (k / 8) (.int .u8 (byteAt high (L.take k) (k / 8) + 2 ^ rowAt high (k % 8) : Nat)) = fcells high L N (k + 1) := by
  apply List.ext_getElem?
  intro i
  by_cases hi : i = k / 8
  · subst hi
    rw [fcells_get _ _ _ _ _ hN, byteAt_one high L k h]
    simp [fcells, hN]
  · rw [List.getElem?_set_ne (by omega)]
    by_cases h2 : i < N
    · rw [fcells_get _ _ _ _ _ h2, fcells_get _ _ _ _ _ h2, byteAt_other high L k i (.inl hi)]
    · simp [fcells, h2]

/-- The row of bytes that is made, behind k bits. -/
structure Fill (w wr : World) (high : Bool) (L : List Bool) (go : Nat) (k : Nat) : Prop where
  o : wr.ownsRow 0 5 1 (.slice (some ⟨go, 0, none⟩) (nby L.length) (nby L.length)) (nby L.length) (fcells high L (nby L.length) k)
  c : Chg NoS w wr
  g : w.heap.size ≤ go

theorem Fill.set {w wr : World} {high : Bool} {L : List Bool} {go k : Nat} (h : Fill w wr high L go k) (hk : L[k]? = some true) (q : Nat) (hq : q = k / 8) (u : Int) (hu : u = (byteAt high (L.take k) (k / 8) + 2 ^ rowAt high (k % 8) : Nat)) :
    Fill w (wr.setCell ⟨go, q, none⟩ (.int .u8 u)) high L go (k + 1) := by
  subst hq hu
  have hl := (List.getElem?_eq_some_iff.1 hk).1
  have h1 := (h.o.stored (k / 8) (.int .u8 (byteAt high (L.take k) (k / 8) + 2 ^ rowAt high (k % 8) : Nat))).1
  rw [fcells_set high L _ k hk (by unfold nby; omega)] at h1
  exact ⟨h1, h.c.setCell (p := ⟨go, k / 8, none⟩) (fun hh => by have := h.g; simp only at hh; exact absurd hh (by omega)) _, h.g⟩

set_option maxHeartbeats 2000000 in
set_option maxRecDepth 100000 in
theorem refbytes_any (high : Bool) (L : List Bool) (A : Option Addr) (c : Nat) (w : World) (hL : L.length ≤ 1000000) (hS : Src w 1 A L.length c (tcells L)) :
    Calls Try.prog 14 #[.slice A L.length c, .bool high] w (NewRow w 5 1 (nby L.length) (bcells high L)) := by
  have HS := keepf hS
  clear hS
  obtain ⟨i0, hi, hz0, hz1, hz2⟩ := info_parts info_u8
  go_enter Try.func14, Try.ntmps14
  go_wp2_with (first
    | (at_make; refine wpList_make_full _ rfl (.tmp 13) (.tmp 13) 35 rfl 0 5 i0 (.int .u8 0) 1 Try.underlying35 hi hz0 hz1 .i64 .i64 _ _ (nby L.length) rfl rfl (by unfold nby; omega) (by unfold nby; omega) (by rw [hz2]; unfold nby; omega) (by unfold maxLen nby; omega) (Nat.zero_le _) ?_; intro w2 hown2 hgr; have HO2 := keepf hown2; have HG2 := keepf hgr; clear hown2 hgr))
  have HF := keepf (show Fill w w2 high L w.heap.size 0 from ⟨by have := HO2.out; rw [Nat.mul_one] at this; rw [← fcells_zero]; exact this, (Chg.refl _ _).grown HG2.out (fun k e _ => by cases e), Nat.le_refl _⟩)
  generalize w.heap.size = go at *
  clear HO2 HG2
  go_loopw [6] (fun i wr => ∃ k : Nat, k ≤ L.length ∧ i = .int .i64 k ∧ Fill w wr high L go k) (fun i _ => L.length - (intOf i).toNat)
  case atStart => exact ⟨0, Nat.zero_le _, rfl, HF.out⟩
  case round =>
    obtain ⟨k, hk, rfl, hFk⟩ := hrel
    have HK := keepf hFk
    clear hFk HF
    by_cases hlt : k < L.length
    · obtain ⟨b, off, rfl, hcell⟩ := HS.out.plain (by rw [tcells_len]; omega)
      have hc := hcell k (.bool L[k]) (by simp [tcells, hlt])
      have hck := (HK.out.c.cell (p := ⟨b, off + k, none⟩) (by exact cell_lt hc) (fun h => h)).trans hc
      obtain ⟨bk, hbk⟩ : ∃ bk, L[k]? = some bk := ⟨_, List.getElem?_eq_getElem hlt⟩
      rw [show L[k] = bk from by have := List.getElem?_eq_some_iff.1 hbk; exact this.2] at hck
      have HB := keepf hbk
      clear hc hcell hbk
      have ca := HK.out.o.cellAt (k / 8) (by unfold nby; omega)
      rw [fcells_get _ _ _ _ _ (by unfold nby; omega)] at ca
      have fa := HK.out.o.frozenAt (k / 8)
      have hba := byteAt_lt high (L.take k) (k / 8)
      have hsum : bk = true → byteAt high (L.take k) (k / 8) + 2 ^ rowAt high (k % 8) < 256 := fun hb => by
        have := byteAt_one high L k (by rw [← hb]; exact HB.out)
        rw [← this]
        exact byteAt_lt _ _ _
      have HSU := keepf hsum
      have HX := keepf (show ∃ xb, xb = byteAt high (L.take k) (k / 8) from ⟨_, rfl⟩)
      obtain ⟨xb, hxb⟩ := HX.out
      rw [← hxb] at ca hba
      have HXB := keepf hxb
      clear hsum hxb HX
      have hnb : k / 8 < nby L.length := by unfold nby; omega
      generalize hN : nby L.length = N at *
      go_wp2_with fail
      go_loop [7, 8] (fun v i => ∃ j bv : Nat, j ≤ k % 8 ∧ i = .int .i64 j ∧ v = .int .u8 bv ∧ Hid (bv = 2 ^ j)) (fun _ i => 8 - (intOf i).toNat)
      case atStart => exact ⟨0, 1, Nat.zero_le _, rfl, rfl, rfl⟩
      case round =>
        obtain ⟨j, bv, hj, rfl, rfl, hbv⟩ := hrel
        have hbl : bv ≤ 128 := by
          rw [hbv.out]
          show 2 ^ j ≤ 2 ^ 7
          exact Nat.pow_le_pow_right (by decide) (by omega)
        by_cases hjr : j < k % 8
        · have hbl2 : bv ≤ 64 := by
            rw [hbv.out]
            show 2 ^ j ≤ 2 ^ 6
            exact Nat.pow_le_pow_right (by decide) (by omega)
          go_wp2_with fail
          go_round
          case rel => exact ⟨j + 1, bv * 2, by omega, by go_num, by go_num, by show bv * 2 = 2 ^ (j + 1); rw [hbv.out, Nat.pow_succ]⟩
          case measure => simp [intOf]; omega
        · obtain rfl : j = k % 8 := by omega
          cases high
          · have hbs : bk = true → xb + bv < 256 := fun hb => by
              have := HSU.out hb
              rw [HXB.out, hbv.out]
              exact this
            have HBS := keepf hbs
            clear hbs
            cases bk
            · go_wp2_with fail
              go_roundw
              case rel => exact ⟨k + 1, by omega, by go_num, ⟨by rw [fcells_skip _ _ _ _ HB.out]; exact HK.out.o, HK.out.c, HK.out.g⟩⟩
              case measure => simp [intOf]; omega
            · have hbs := HBS.out rfl
              go_wp2_with fail
              go_roundw
              case rel => exact ⟨k + 1, by omega, by go_num, HK.out.set HB.out _ rfl _ (by rw [HXB.out, hbv.out]; simp [rowAt])⟩
              case measure => simp [intOf]; omega
          · go_wp2_with fail
            go_loop [7, 9] (fun v i => ∃ j bv : Nat, j ≤ k % 8 ∧ i = .int .i64 j ∧ v = .int .u8 bv ∧ Hid (bv = 2 ^ (7 - j))) (fun _ i => 8 - (intOf i).toNat)
            case atStart => exact ⟨0, 128, Nat.zero_le _, rfl, rfl, rfl⟩
            case round =>
              obtain ⟨j, bv2, hj2, rfl, rfl, hbv2⟩ := hrel
              have hbl2 : bv2 ≤ 128 := by
                rw [hbv2.out]
                show 2 ^ (7 - j) ≤ 2 ^ 7
                exact Nat.pow_le_pow_right (by decide) (by omega)
              by_cases hjr2 : j < k % 8
              · go_wp2_with fail
                go_round
                case rel => exact ⟨j + 1, bv2 / 2, by omega, by go_num, by go_num, by
                  show bv2 / 2 = 2 ^ (7 - (j + 1))
                  rw [hbv2.out, show 7 - j = (7 - (j + 1)) + 1 from by omega, Nat.pow_succ, Nat.mul_div_cancel _ (by omega)]⟩
                case measure => simp [intOf]; omega
              · obtain rfl : j = k % 8 := by omega
                have hbs : bk = true → xb + bv2 < 256 := fun hb => by
                  have := HSU.out hb
                  rw [HXB.out, hbv2.out]
                  exact this
                have HBS := keepf hbs
                clear hbs
                cases bk
                · go_wp2_with fail
                  go_roundw
                  case rel => exact ⟨k + 1, by omega, by go_num, ⟨by rw [fcells_skip _ _ _ _ HB.out]; exact HK.out.o, HK.out.c, HK.out.g⟩⟩
                  case measure => simp [intOf]; omega
                · have hbs := HBS.out rfl
                  go_wp2_with fail
                  go_roundw
                  case rel => exact ⟨k + 1, by omega, by go_num, HK.out.set HB.out _ rfl _ (by rw [HXB.out, hbv2.out]; simp [rowAt])⟩
                  case measure => simp [intOf]; omega
    · obtain rfl : k = L.length := by omega
      go_wp2_with fail
      go_ret
      have h1 := HK.out.o
      rw [fcells_all] at h1
      exact ⟨_, _, rfl, h1, HK.out.c, fun i hi he => by
        have := HK.out.g
        simp only [Value.ownBlock, Option.some.injEq] at he
        omega⟩
end Go.Proofs.Ytmkgffmeookblaa
