/- What Get of a table tells. -/
import Derived.Test.YtbdnhhhagpgibaaNew
import Derived.Test.YtbdnhhhagpgibaaGet
import Derived.Test.YtbdnhhhagpgibaaBits2
import Derived.WalkMore
namespace Go.Proofs.Ytbdnhhhagpgibaa
open Go.RowKit
set_option linter.unusedVariables false
set_option linter.unusedSimpArgs false

theorem numAt_one (high : Bool) (bs : List Nat) (p : Nat) : numAt high bs p 1 = (bitAt high bs p).toNat := by
  cases high <;> cases h : bitAt _ bs p <;> simp_all [numAt, obf]

/-- The bits that are left behind the place a. -/
def leftBits (high : Bool) (bs : List Nat) (a : Nat) : List Bool := (allBits high bs).drop a
theorem leftBits_len (high : Bool) (bs : List Nat) (a : Nat) : (leftBits high bs a).length = 8 * bs.length - a := by simp [leftBits, allBits_length]
theorem leftBits_next (high : Bool) (bs : List Nat) (a n : Nat) (h : a + n < 8 * bs.length) : (leftBits high bs a).take (n + 1) = (leftBits high bs a).take n ++ [bitAt high bs (a + n)] := by
  have hl : n < (leftBits high bs a).length := by rw [leftBits_len]; omega
  rw [List.take_succ_eq_append_getElem hl]
  congr 2
  simp [leftBits, allBits]
theorem vl_next (high : Bool) (bs : List Nat) (a n : Nat) (h : a + n < 8 * bs.length) : vl ((leftBits high bs a).take (n + 1)) = 2 * vl ((leftBits high bs a).take n) + numAt high bs (a + n) 1 := by
  rw [leftBits_next _ _ _ _ h, vl_snoc, numAt_one]

theorem or_bit (c b : Nat) (hc : c < 65536) (hb : b < 2) : bits BinOp.or IntKind.u32 ((c : Int) * 2) (b : Int) = ((2 * c + b : Nat) : Int) := by
  have h1 := u32_or_nat (2 * c) b (by omega) (by omega)
  rw [show ((c : Int) * 2) = ((2 * c : Nat) : Int) from by omega, h1]
  congr 1
  have h := Nat.two_pow_add_eq_or_of_lt (i := 1) (b := b) (by omega) c
  simp only [Nat.pow_one] at h
  exact h.symm

/-- Behind Get of a table. -/
def TakeTo (w : World) (gr : Nat) (ls : List Int) (high : Bool) (bs : List Nat) (a : Nat) (S : Value) (e : Ending) (w' : World) : Prop :=
  ∃ (s n : Nat) (c : Int), e = .returned (.tuple #[.int .i64 s, .int .i64 c]) ∧ Out ls (leftBits high bs a) s n c ∧ Rd w' gr high bs (a + n) S ∧ Chg (fun i => i = gr) w w'

set_option maxHeartbeats 4000000 in
set_option maxRecDepth 100000 in
theorem tget_any (g gr a : Nat) (high : Bool) (bs : List Nat) (ls : List Int) (S : Value) (w : World) (hM : May ls) (hT : Tb w g ls) (hR : Rd w gr high bs a S) (hL : bs.length ≤ 100000) (hbs : ∀ b ∈ bs, b < 256) (ha : a ≤ 8 * bs.length) (hne : g ≠ gr) (hown : S.ownBlock ≠ some g) (hown2 : S.ownBlock ≠ some gr) :
    Calls Try.prog 55 #[.pointer (some ⟨g, 0, none⟩), .pointer (some ⟨gr, 0, none⟩)] w (TakeTo w gr ls high bs a S) := by
  obtain ⟨T, Sy, hB, hTi, hSy⟩ := hT
  have c0 : w.cell? ⟨g, 0, none⟩ = some (.bool true) := by rw [hB.cell, hTi.made]
  have HB := keepf hB
  have HT := keepf hTi
  have HSy := keepf hSy
  have HM := keepf hM
  have HR := keepf hR
  have HBS := keepf hbs
  have HNE := keepf hne
  clear hB hTi hSy hM hR hbs hne hown hown2
  have HG : Hid (g < w.heap.size) := HB.out.lt
  go_enter Try.func55, Try.ntmps55
  go_wp2
  go_step3
  go_wp2_with (go_at_call 63; refine (ready_any g _ c0).mono ?_; rintro e w' ⟨rfl, rfl⟩)
  clear c0
  go_step3
  go_wp2_with fail
  go_loopw [6, 19] (fun v i wr => ∃ n x : Nat, n ≤ deepL ls ∧ n ≤ 15 ∧ a + n ≤ 8 * bs.length ∧ x < 65536 ∧ i = .int .i64 n ∧ v = .int .u32 x ∧ Hid (x = vl ((leftBits high bs a).take n)) ∧ Hid (∀ m q, m < n → ¬ Hit ls (leftBits high bs a) m q) ∧ Rd wr gr high bs (a + n) S ∧ Chg (fun i => i = gr) w wr) (fun _ i _ => 16 - (intOf i).toNat)
  case atStart => exact ⟨0, 0, by omega, by omega, by omega, by omega, rfl, rfl, (by show 0 = _; simp [vl]), fun m q h => absurd h (by omega), HR.out, Chg.refl _ _⟩
  case round =>
    obtain ⟨n, x, hnd, hn15, han, hx, rfl, rfl, hX, hNo, hRd, hch⟩ := hrel
    have HRd := keepf hRd
    have HCh := keepf hch
    have HBk : Hid (Blk wr g 110 T) := HB.out.chg hch (fun e => HNE.out e)
    clear hRd hch
    obtain ⟨F, hF⟩ : ∃ F, F = fst (cnt ls) n := ⟨_, rfl⟩
    obtain ⟨AA, hAA⟩ : ∃ AA, AA = att (cnt ls) n := ⟨_, rfl⟩
    obtain ⟨MM, hMM⟩ : ∃ MM, MM = cnt ls n := ⟨_, rfl⟩
    obtain ⟨D, hD⟩ : ∃ D, D = deepL ls := ⟨_, rfl⟩
    have hfl := fst_le ls HM.out n (by omega)
    have hp15 : 2 ^ n ≤ 2 ^ 15 := Nat.pow_le_pow_right (by decide) (by omega)
    have hal := att_le ls (n + 1)
    rw [att, ← hAA, ← hMM] at hal
    rw [← hF, ← hMM] at hfl
    have hl320 := HM.out.2.1
    have hF2 : F ≤ 32768 := by omega
    have hM2 : MM ≤ 320 := by omega
    have r0 : wr.cell? ⟨g, 643 + n * 3, none⟩ = some (.int .u32 (F : Nat)) := by rw [HBk.out.cell, HT.out.r0 n (by omega), hF]
    have r1 : wr.cell? ⟨g, 643 + n * 3 + 1, none⟩ = some (.int .u32 (MM : Nat)) := by rw [HBk.out.cell, HT.out.r1 n (by omega), hMM]
    have r2 : wr.cell? ⟨g, 643 + n * 3 + 2, none⟩ = some (.int .i64 (AA : Nat)) := by rw [HBk.out.cell, HT.out.r2 n (by omega), hAA]
    have hi16 : (n : Int) < 16 := by omega
    have HF := keepf hF
    have HAA := keepf hAA
    have HMM := keepf hMM
    have HD := keepf hD
    have HHL := keepf hal
    have HP15 := keepf hp15
    have HFL := keepf hfl
    have HND := keepf hnd
    have HL320 := keepf hl320
    clear hF hAA hMM hD hal hp15 hfl hnd hl320
    go_upto_region 6 with fail
    first
      | (go_loud (go_region_held3 (fun w' => w'.cell? ⟨g, 643 + n * 3, none⟩ = some (.int .u32 (F : Nat)) ∧ w'.cell? ⟨g, 643 + n * 3 + 1, none⟩ = some (.int .u32 (MM : Nat)) ∧ w'.cell? ⟨g, 643 + n * 3 + 2, none⟩ = some (.int .i64 (AA : Nat)))
          (first | go_keep | exact ⟨by assumption, by assumption, by assumption⟩)
          (fail)))
      | fail "region"
    go_upto_region 7 with fail
    have hb := (HBk.out.alloc (.cells (rowCells F MM AA) 106)).drew
    have hb4 := (Blk.new wr 106 (rowCells F MM AA)).drew
    have hc := (HCh.out.alloc (.cells (rowCells F MM AA) 106)).drew
    have hrd : Rd (wr.alloc (.cells (rowCells F MM AA) 106)).drew gr high bs (a + n) S := ⟨(HRd.out.1.alloc _).drew, own_drew (own_chg (S := NoS) HRd.out.2 ((Chg.refl _ _).alloc _) (fun _ _ h => h))⟩
    change Code.wp _ _ _ _ (wr.alloc (.cells (rowCells F MM AA) 106)).drew
    generalize (wr.alloc (.cells (rowCells F MM AA) 106)).drew = w2 at *
    obtain ⟨g4, hg4⟩ : ∃ g4, g4 = wr.heap.size := ⟨_, rfl⟩
    rw [← hg4] at hb4 ⊢
    clear hg4 r0 r1 r2 HBk HRd HCh
    have d0 : w2.cell? ⟨g4, 0, none⟩ = some (.int .u32 (F : Nat)) := by rw [hb4.cell]; rfl
    have d1 : w2.cell? ⟨g4, 1, none⟩ = some (.int .u32 (MM : Nat)) := by rw [hb4.cell]; rfl
    have d2 : w2.cell? ⟨g4, 2, none⟩ = some (.int .i64 (AA : Nat)) := by rw [hb4.cell]; rfl
    have d3 : w2.cell? ⟨g, 2, none⟩ = some (.int .i64 (D : Nat)) := by rw [hb.cell, HT.out.deep, HD.out]
    have HBk := keepf hb
    have HRd := keepf hrd
    have HCh := keepf hc
    clear hb hb4 hc hrd
    obtain ⟨kk, hkk, hkk2, hkk3⟩ : ∃ kk : Nat, IntKind.u32.wrap ((x : Int) - F) = (kk : Int) ∧ (kk < MM → F ≤ x ∧ x = F + kk) ∧ (F ≤ x → x < F + MM → kk < MM) := by
      by_cases h : F ≤ x
      · exact ⟨x - F, by rw [IntKind.wrap_u32]; omega, fun _ => by omega, fun _ _ => by omega⟩
      · exact ⟨x + 4294967296 - F, by rw [IntKind.wrap_u32]; omega, fun _ => by omega, fun _ _ => by omega⟩
    have HK2 := keepf hkk2
    have HK3 := keepf hkk3
    clear hkk2 hkk3
    by_cases hit : kk < MM
    · obtain ⟨hFx, hxe⟩ := HK2.out hit
      have hn0 : n ≠ 0 := by
        rintro rfl
        have := HMM.out
        rw [cnt_zero] at this
        omega
      obtain ⟨s, hs, hrk⟩ := cnt_find ls n kk hn0 (by rw [← HMM.out]; exact hit)
      have hsl := (List.getElem?_eq_some_iff.1 hs).1
      have hrk2 : rank ls s = kk := by rw [rank, lenAt_some hs]; exact hrk
      have hsym := HSy.out s n (by have := HL320.out; omega) hn0 hs
      rw [hrk2, ← HAA.out] at hsym
      have hpl : AA + kk < 320 := by have := HHL.out; have := HL320.out; omega
      have d4 : w2.cell? ⟨g, 691 + (AA + kk), none⟩ = some (.int .i64 (s : Nat)) := by rw [HBk.out.cell, HT.out.sym _ hpl, hsym]
      have hw2 : IntKind.i64.wrap ((AA : Int) + kk) = (AA : Int) + kk := by rw [IntKind.wrap_i64]; omega
      have hw3 : IntKind.i64.wrap (kk : Int) = kk := by rw [IntKind.wrap_i64]; omega
      have hs320 : (AA : Int) + kk < 320 := by omega
      have hs0 : 0 ≤ (AA : Int) + kk := by omega
      have hs1 : ((AA : Int) + kk).toNat = AA + kk := by omega
      have HSS := keepf hs
      have HRK := keepf hrk2
      have HXE := keepf hxe
      clear hs hrk hrk2 hsym hsl hxe hFx
      go_upto_region 9 with fail
      go_quiet (fail)
      go_wp2_with fail
      go_ret2
      have hb : n ≤ (leftBits high bs a).length := by rw [leftBits_len]; omega
      exact ⟨s, n, 0, rfl, .ok n s ⟨hn0, hb, HSS.out, by rw [cd_eq hn0 HSS.out, HRK.out, ← HF.out, ← HXE.out]; exact hX.out⟩ hNo.out, ⟨HRd.out.1.drewN nq, own_drewN HRd.out.2 nq⟩, HCh.out.drewN nq⟩
    · have hno : ∀ m q, m < n + 1 → ¬ Hit ls (leftBits high bs a) m q := by
        intro m q hm hh
        by_cases e : m = n
        · subst e
          obtain ⟨h1, h2, h3, h4⟩ := hh
          have h5 := rank_lt h1 h3
          rw [cd_eq h1 h3, ← HF.out, ← hX.out] at h4
          rw [← HMM.out] at h5
          exact hit (HK3.out (by omega) (by omega))
        · exact hNo.out m q (by omega) hh
      have HNO := keepf hno
      have dk : decide ((kk : Int) < MM) = false := by simp; omega
      clear hno
      by_cases hnD : n = D
      · have hd : ((n : Int) == (D : Int)) = true := by simp; omega
        go_wp2_with fail
        go_ret2
        have hb : deepL ls ≤ (leftBits high bs a).length := by rw [leftBits_len, ← HD.out]; omega
        refine ⟨0, deepL ls, 13, rfl, .code hb (fun m q hh => ?_), ?_, HCh.out⟩
        · have h1 := deepL_of HM.out.2.2.1 hh.1 hh.2.2.1
          have h2 := HD.out
          exact HNO.out m q (by omega) hh
        · rw [← HD.out, ← hnD]; exact HRd.out
      · have hd : ((n : Int) == (D : Int)) = false := by simp; omega
        by_cases hend : a + n < 8 * bs.length
        · have hgo := keepf (get_ok gr (a + n) 1 high bs S w2 HRd.out (by omega) HBS.out (by omega) (by omega))
          have hbit : numAt high bs (a + n) 1 < 2 := by rw [numAt_one]; cases bitAt high bs (a + n) <;> simp
          have hvn := vl_next high bs a n hend
          obtain ⟨bt, hbt⟩ : ∃ bt, bt = numAt high bs (a + n) 1 := ⟨_, rfl⟩
          rw [← hbt] at hbit hvn
          have HVN := keepf hvn
          have HBT := keepf hbt
          have hvl := vl_lt ((leftBits high bs a).take (n + 1))
          have hvl2 : 2 ^ ((leftBits high bs a).take (n + 1)).length ≤ 2 ^ 16 := Nat.pow_le_pow_right (by decide) (by simp; omega)
          have hxv : 2 * x + bt < 65536 := by rw [hX.out, ← hvn]; omega
          have hor := or_bit x bt (by omega) hbit
          clear hvn hbt hvl hvl2
          go_wp2_with (go_at_call 31; refine hgo.out.mono ?_; rintro e w3 ⟨rfl, hr3, hc3⟩; rw [← HBT.out]; have HR3 := keepf hr3; have HC3 := keepf hc3; clear hr3 hc3)
          go_roundw
          case rel =>
            refine ⟨n + 1, 2 * x + bt, ?_, ?_, by omega, hxv, by go_num, rfl, (by show _ = _; rw [HVN.out, hX.out]), HNO.out, by rw [← Nat.add_assoc]; exact HR3.out, HCh.out.trans HC3.out (fun _ _ h => h)⟩
            · have := HND.out; have := HD.out; omega
            · have := HND.out; have := HD.out; have := deepL_le ls; omega
          case measure => simp [intOf]; omega
        · have hgc := keepf (get_cut gr (a + n) 1 high bs S w2 HRd.out (by omega) (by omega) (by omega) (by omega))
          go_wp2_with (go_at_call 31; refine hgc.out.mono ?_; rintro e w3 ⟨rfl, m3, rfl⟩)
          go_ret2
          have hb : (leftBits high bs a).length = n := by rw [leftBits_len]; omega
          have hlt : (leftBits high bs a).length < deepL ls := by rw [hb]; have := HND.out; have := HD.out; omega
          have ho := Out.cut (ls := ls) (B := leftBits high bs a) hlt (fun m q hh => HNO.out m q (by have := hh.2.1; omega) hh)
          rw [hb] at ho
          exact ⟨0, n, 10, rfl, ho, ⟨HRd.out.1.drewN m3, own_drewN HRd.out.2 m3⟩, HCh.out.drewN m3⟩
end Go.Proofs.Ytbdnhhhagpgibaa
