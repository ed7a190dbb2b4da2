/- 'HuffGets': for every input the statement's function returns true: the symbols of any bytes, one by one, by any lengths, are as the document says, or the error. Conditions: none. -/
import Derived.Test.YtkhhiaggmncehaaLensIn
import Derived.Test.YtkhhiaggmncehaaTakeR
import Derived.Test.YtkhhiaggmncehaaRefBits
import Derived.Test.YtkhhiaggmncehaaRows
import Derived.OpenShut
import Derived.ChangeOld
import Derived.Lib.SmallJoins
import Derived.BigQuiet
namespace Go.Proofs.Ytkhhiaggmncehaa.hgets
open Go.RowKit Go.ChangeShapes Go.WideShapes Go.ChangeAt
set_option linter.unusedVariables false

theorem own : ownKnob Try.prog.godebug = none := by kernel_rfl
theorem laidOut : laidOutB Try.prog = true := by kernel_rfl

def encB (b : Nat) : List Value := [.int .u8 (b : Nat)]
theorem byte_el {H : Type} {en : TypeId × Value → H} {w : World} {base n : Nat} {spare : Nat → Bool} {held : Bool} {cs : List Value} {y : DataW H × List MemPlace}
    (h : DataW.trod en Try.prog w base spare held n 5 cs = some y) : ∃ p : Nat, cs = encB p ∧ p < 256 := by
  obtain ⟨z, rfl, hz⟩ := el_int Try.underlying5 h
  have b0 := bounds_u8 hz
  exact ⟨z.toNat, by simp [encB]; omega, by omega⟩
theorem flat_bytes (bs : List Nat) : bs.flatMap encB = ucells bs := by
  induction bs with
  | nil => rfl
  | cons b bs ih => rw [List.flatMap_cons, ih]; rfl

theorem size_bool : (Try.prog.info? 4).map (·.size) = some 1 := by kernel_rfl
set_option maxRecDepth 100000 in
theorem slice_drop (A : Option Addr) (len cap m : Nat) (hm : m ≤ len) (w : World) : (Instr.sliceAt 38 (.slice A len cap) (some (.int .i64 (m : Nat))) none none).run Try.prog w = .ok (.slice (if cap = m then A else A.map (·.add (m * 1))) (len - m) (cap - m)) w := by
  have hz : (sizeOf 4).run Try.prog w = .ok 1 w := by
    cases hq : Try.prog.info? 4 with
    | none => have := size_bool; simp [hq] at this
    | some i =>
      have hs : i.size = 1 := by have := size_bool; simpa [hq] using this
      simp [sizeOf, typeInfo, hq, hs]
  rw [run_sliceAt_slice w _ _ _ _ _ Try.underlying38, run_slice_l w _ A len cap Try.underlying38 .i64 (m : Nat) (by omega) (by omega)]
  rw [show Try.prog.elem 38 = 4 from rfl, hz]
  simp [Result.andThen, sliced]

/-- The bits that are left, behind m more. -/
theorem src_drop {w : World} {A : Option Addr} {c m : Nat} {B : List Bool} (h : Src w 1 A B.length c (tcells B)) (hm : m ≤ B.length) (hc : B.length ≤ c) :
    Src w 1 (if c = m then A else A.map (·.add (m * 1))) (B.drop m).length (c - m) (tcells (B.drop m)) := by
  refine ⟨by simp [tcells], ?_, ?_⟩
  · intro hA
    by_cases e : c = m
    · simp; omega
    · rw [if_neg e] at hA
      have hA' : A = none := by simpa using hA
      have := h.2.1 hA'
      simp; omega
  · intro ad hA j u hu
    have hj : j < B.length - m := by
      have := (List.getElem?_eq_some_iff.1 hu).1
      simpa [tcells] using this
    rw [if_neg (by omega)] at hA
    cases hA0 : A with
    | none => rw [hA0] at hA; cases hA
    | some a0 =>
      rw [hA0] at hA
      simp only [Option.map_some, Option.some.injEq] at hA
      subst hA
      rw [Go.Deep.add_add, Nat.mul_one]
      refine h.2.2 a0 hA0 (m + j) u ?_
      simpa [tcells, List.getElem?_drop] using hu

theorem drop_left (high : Bool) (bs : List Nat) (a n : Nat) : (leftBits high bs a).drop n = leftBits high bs (a + n) := by simp [leftBits, List.drop_drop]

set_option maxHeartbeats 4000000 in
set_option maxRecDepth 100000 in
theorem walk (A : Option Addr) (len cap : Nat) (xs : List Int) (Ab : Option Addr) (nb capb : Nat) (bs : List Nat) (high : Bool) (w : World)
    (hl : xs.length = len) (hm : len ≤ maxLen) (hS : Src w 1 A len cap (xs.flatMap encI)) (hg : ∀ b ∈ xs, goodI b)
    (hlb : bs.length = nb) (hmb : nb ≤ maxLen) (hSb : Src w 1 Ab nb capb (bs.flatMap encB)) (hgb : ∀ p ∈ bs, p < 256) :
    Calls Try.prog 4 #[.slice A len cap, .slice Ab nb capb, .bool high] w fun e w' => e = .returned (.bool true) ∧ Below w.heap.size w w' := by
  unfold maxLen at hm hmb
  rw [flat_ints] at hS
  rw [flat_bytes] at hSb
  subst hl hlb
  have HS := keepf hS
  have HSb := keepf hSb
  have HB := keepf (show in64 xs from hg)
  have HGb := keepf hgb
  clear hS hg hSb hgb
  by_cases hle : xs.length ≤ 400
  · have d1 : decide ((400 : Int) < xs.length) = false := by simp; omega
    by_cases hleb : bs.length ≤ 60
    · have d2 : decide ((60 : Int) < bs.length) = false := by simp; omega
      by_cases hM : May xs
      · have HM := keepf hM
        have HN := keepf (new_ok xs A cap w HM.out HB.out HS.out)
        clear hM
        go_enter Try.func4, Try.ntmps4
        go_wp2_with (first
          | (go_at_call 13; refine HN.out.mono ?_; rintro e w2 ⟨g, rfl, ht2, hc2, hg2⟩; have HT2 := keepf ht2; have HC2 := keepf hc2; have HR := keepf (rcodes_ok xs A cap w2 HM.out HB.out (HS.out.below (w0 := w) hc2)); clear ht2 hc2 hg2)
          | (go_at_call 10; refine HR.out.mono ?_; rintro e w3 ⟨A3, c3, rfl, ho3, hc3, hf3⟩; have HO3 := keepf ho3; have HC3 := keepf (HC2.out.trans hc3 (fun _ _ h => h)); have HT3 := keepf (HT2.out.chg hc3 (fun h => h)); have HRd := keepf (read_any high bs Ab capb w3 (HSb.out.below (w0 := w) HC3.out) (by omega)); clear ho3 hc3 hf3)
          | (go_at_call 14; refine HRd.out.mono ?_; rintro e w4 ⟨gr, Sr, rfl, hr4, hc4, hgr4, hsr4⟩; have HR4 := keepf hr4; have HC4 := keepf (HC3.out.trans hc4 (fun _ _ h => h)); have HT4 := keepf (HT3.out.chg hc4 (fun h => h)); have HO4 := keepf (own_chg HO3.out hc4 (fun _ _ h => h)); have HGR := keepf (show g ≠ gr by have := HT3.out.lt; omega); have HGW := keepf (show w.heap.size ≤ gr by have := HC3.out.size; omega); have HOR := keepf (show (Value.slice A3 xs.length c3).ownBlock ≠ some gr from fun h => by have := own_lt HO3.out h; omega); have HSR := keepf (show Sr.ownBlock ≠ some g from hsr4 g HT3.out.lt); have HBt := keepf (refbits_any high bs Ab capb w4 (by omega) HGb.out (HSb.out.below (w0 := w) HC4.out)); clear hr4 hc4 hgr4 hsr4)
          | (go_at_call 15; refine HBt.out.mono ?_; rintro e w5 ⟨A5, c5, rfl, hg5⟩; have HG5 := keepf hg5; clear hg5))
        have hlb5 := allBits_length high bs
        have hSA : Src w5 1 A5 (allBits high bs).length c5 (tcells (allBits high bs)) := src_own HG5.out.o
        have hcap5 : (allBits high bs).length ≤ c5 := by
          rcases HG5.out.o.2 with ⟨h1, h2⟩ | ⟨g', cap', cur, h1, _, _, h2, _⟩
          · omega
          · simp only [Value.slice.injEq] at h1; omega
        have hnb5 : ∀ ad, A5 = some ad → ad.block ≠ gr := fun ad h1 h2 => HG5.out.n gr HR4.out.1.lt (by rw [h1]; simp [Value.ownBlock, h2])
        have HR5 := keepf (show Rd w5 gr high bs 0 Sr from ⟨HR4.out.1.chg HG5.out.c (fun h => h), own_chg HR4.out.2 HG5.out.c (fun _ _ h => h)⟩)
        have HT5 := keepf (HT4.out.chg HG5.out.c (fun h => h))
        have HO5 := keepf (own_chg HO4.out HG5.out.c (fun _ _ h => h))
        have HC5 := keepf (HC4.out.trans HG5.out.c (fun _ _ h => h))
        have HSA := keepf hSA
        have HNB := keepf hnb5
        clear hSA hnb5 HG5 HT4 HO4 HR4 HC4 HC3 HT3 HC2 HT2 HO3 HN HR HRd HBt
        rw [hlb5] at hcap5
        have HSA0 : Hid (Src w5 1 A5 (8 * bs.length) c5 (tcells (leftBits high bs 0))) := by
          have := HSA.out
          rw [hlb5] at this
          show Src w5 1 A5 (8 * bs.length) c5 (tcells ((allBits high bs).drop 0))
          rw [List.drop_zero]
          exact this
        clear HSA
        rw [hlb5]
        clear hlb5 d1 d2
        go_loopw [12, 13] (fun v i wr => ∃ n a c' : Nat, ∃ A' : Option Addr, n ≤ 500 ∧ a ≤ 8 * bs.length ∧ 8 * bs.length - a ≤ c' ∧ i = .int .i64 n ∧ v = .slice A' (8 * bs.length - a) c' ∧ Src wr 1 A' (8 * bs.length - a) c' (tcells (leftBits high bs a)) ∧ Hid (∀ ad, A' = some ad → ad.block ≠ gr) ∧ Rd wr gr high bs a Sr ∧ Chg (fun i => i = gr) w5 wr) (fun _ i _ => 500 - (intOf i).toNat)
        case atStart => exact ⟨0, 0, c5, A5, by omega, by omega, by omega, rfl, rfl, HSA0.out, HNB.out, HR5.out, Chg.refl _ _⟩
        case round =>
          obtain ⟨n, a, c', A', hn, ha, hcc, rfl, rfl, hSr, hNb, hRd, hch⟩ := hrel
          have HSr := keepf hSr
          have HRd := keepf hRd
          have HCh := keepf hch
          clear hSr hRd hch HSA0 HR5 HNB
          by_cases hlt : n < 500
          · have HT6 := keepf (HT5.out.chg HCh.out (fun e => HGR.out e))
            have HTG := keepf (tget_any g gr a high bs xs Sr _ HM.out HT6.out HRd.out (by omega) HGb.out ha HGR.out HSR.out (own_ne_blk HRd.out.2 HRd.out.1 (by decide)))
            have hCall : ∀ w7 : World, Chg (fun i => i = gr) wr w7 → Calls Try.prog 17 #[.slice A xs.length cap, .slice A3 xs.length c3, .slice A' (8 * bs.length - a) c'] w7 fun e w' => (∃ (s n : Nat) (k : Int), e = .returned (.tuple #[.int .i64 s, .int .i64 n, .int .i64 k]) ∧ Out xs (leftBits high bs a) s n k) ∧ w7 = w' := by
              intro w7 hc7
              have hc57 := HCh.out.trans hc7 (fun _ _ h => h)
              have h1 : Src w7 1 A xs.length cap (icells xs) := (HS.out.below (w0 := w) HC5.out).chg hc57 (fun ad hA h0 => by
                have hlt2 := cell_lt (HS.out.2.2 ad hA 0 _ (icells_get (List.getElem?_eq_getElem h0)))
                rw [add_block] at hlt2
                have := HGW.out
                omega) (fun h => by rw [icells_len] at h; exact h)
              have h2 : Src w7 1 A3 xs.length c3 (crow xs.length (cd xs)) := src_own (own_chg HO5.out hc57 (fun i hi e => HOR.out (by rw [hi, e])))
              have h3 : Src w7 1 A' (leftBits high bs a).length c' (tcells (leftBits high bs a)) := by
                rw [leftBits_len]
                exact HSr.out.chg hc7 (fun ad hA _ => hNb.out ad hA) (fun h => by rw [tcells_len, leftBits_len] at h; exact h)
              have h4 := take_any xs A A3 A' cap c3 c' (leftBits high bs a) w7 HM.out (by rw [leftBits_len]; omega) h1 h2 h3
              rw [leftBits_len] at h4
              exact h4
            have HCall := keepf hCall
            clear hCall
            go_upto_region 16 with (first
              | (go_at_call 16; refine HTG.out.mono ?_; rintro e w7 ⟨s, t, k, rfl, ho7, hr7, hc7⟩; have HO7 := keepf ho7; have HR7 := keepf hr7; have HC7 := keepf hc7; clear ho7 hr7 hc7)
              | (go_at_call 17; refine (HCall.out _ HC7.out).mono ?_; rintro e w8 ⟨⟨s2, t2, k2, rfl, ho8⟩, rfl⟩; obtain ⟨rfl, rfl, rfl⟩ := HO7.out.one ho8; clear ho8))
            have htl := HO7.out.le
            rw [leftBits_len] at htl
            have hbk : k = 0 ∨ k = 10 ∨ k = 13 := by cases HO7.out <;> simp
            have hsl := keepf (fun W => slice_drop A' (8 * bs.length - a) c' t htl W)
            have hsl2 := fun W => hsl.out W
            obtain ⟨A9, hA9⟩ : ∃ A9, A9 = (if c' = t then A' else A'.map (·.add (t * 1))) := ⟨_, rfl⟩
            rw [← hA9] at hsl2
            have HA9 := keepf hA9
            have h0 := HR7.out.1.cell 0
            have h2 := HR7.out.1.cell 2
            have h3 := HR7.out.1.cell 3
            obtain ⟨As, cs, hSr2, _⟩ := own_slice HR7.out.2
            rw [hSr2] at h3
            simp at h0 h2 h3
            have HLf := keepf (left_any gr (a + t) bs.length cs As w7 (by omega) (by omega) h0 h2 h3)
            have hlen9 : ((8 : Int) * bs.length - (a + t : Nat)) = ((8 * bs.length - a - t : Nat) : Int) := by omega
            rw [hlen9] at HLf
            clear hlen9 h0 h2 h3 hA9 hsl
            obtain ⟨rest, hrest⟩ : ∃ rest, rest = 8 * bs.length - a - t := ⟨_, rfl⟩
            rw [← hrest] at HLf hsl2
            have HRest := keepf hrest
            clear hrest
            have ht0 : (t : Int) ≤ (8 * bs.length - a : Nat) := by omega
            have hall : Chg NoS w w7 := HC5.out.trans (HCh.out.trans HC7.out (fun _ _ h => h)) (fun i hi e => by have := HGW.out; omega)
            have HALL := keepf hall
            clear hall
            rcases hbk with rfl | rfl | rfl
            · go_wp2_with (first
                | (go_at_call 18; refine HLf.out.mono ?_; rintro e w9 ⟨rfl, m9, rfl⟩))
              go_roundw
              case rel =>
                have h1 : Src w7 1 A' (leftBits high bs a).length c' (tcells (leftBits high bs a)) := by
                  rw [leftBits_len]
                  exact HSr.out.chg HC7.out (fun ad hA _ => hNb.out ad hA) (fun h => by rw [tcells_len, leftBits_len] at h; exact h)
                have h2 := src_drop h1 (by rw [leftBits_len]; exact htl) (by rw [leftBits_len]; exact hcc)
                rw [← HA9.out, drop_left, leftBits_len] at h2
                refine ⟨n + 1, a + t, c' - t, A9, by omega, by omega, by omega, by go_num, by rw [show 8 * bs.length - (a + t) = rest from by have := HRest.out; omega], h2.below (w0 := w) ((Chg.refl NoS w7).drewN m9), ?_, ⟨HR7.out.1.drewN m9, own_drewN HR7.out.2 m9⟩, (HCh.out.trans HC7.out (fun _ _ h => h)).drewN m9⟩
                intro ad hA
                have hA9 := HA9.out
                rw [hA] at hA9
                by_cases e : c' = t
                · rw [if_pos e] at hA9; exact hNb.out ad hA9.symm
                · rw [if_neg e] at hA9
                  cases hA' : A' with
                  | none => rw [hA'] at hA9; cases hA9
                  | some a0 =>
                    rw [hA'] at hA9
                    simp only [Option.map_some, Option.some.injEq] at hA9
                    subst hA9
                    rw [add_block]
                    exact hNb.out a0 hA'
              case measure => simp [intOf]; omega
            · go_wp2_with (first
                | (go_at_call 18; refine HLf.out.mono ?_; rintro e w9 ⟨rfl, m9, rfl⟩)
                | (go_at_call 8; refine (works_any4 _).mono ?_; rintro e wz ⟨rfl, hcz⟩; have HCz := keepf hcz; clear hcz))
              go_ret
              exact ⟨rfl, ((HALL.out.drewN m9).trans HCz.out (fun _ _ h => h)).no_below⟩
            · go_wp2_with (first
                | (go_at_call 18; refine HLf.out.mono ?_; rintro e w9 ⟨rfl, m9, rfl⟩)
                | (go_at_call 8; refine (works_any4 _).mono ?_; rintro e wz ⟨rfl, hcz⟩; have HCz := keepf hcz; clear hcz))
              go_ret
              exact ⟨rfl, ((HALL.out.drewN m9).trans HCz.out (fun _ _ h => h)).no_below⟩
          · obtain rfl : n = 500 := by omega
            have hall : Chg NoS w wr := HC5.out.trans HCh.out (fun i hi e => by have := HGW.out; omega)
            have HALL := keepf hall
            clear hall
            go_wp2_with (go_at_call 8; refine (works_any4 _).mono ?_; rintro e wz ⟨rfl, hcz⟩; have HCz := keepf hcz; clear hcz)
            go_ret
            exact ⟨rfl, (HALL.out.trans HCz.out (fun _ _ h => h)).no_below⟩
      · have HN := keepf (new_no xs A cap w hM (by omega) HB.out HS.out)
        have HM := keepf hM
        clear hM
        go_enter Try.func4, Try.ntmps4
        go_wp2_with (first
          | (go_at_call 13; refine HN.out.mono ?_; rintro e w2 ⟨rfl, hc2⟩; have HC2 := keepf hc2; have HR := keepf (rcodes_no xs A cap w2 HM.out (by omega) HB.out (HS.out.below (w0 := w) hc2)); clear hc2)
          | (go_at_call 10; refine HR.out.mono ?_; rintro e w3 ⟨rfl, rfl⟩)
          | (go_at_call 8; refine (works_any4 _).mono ?_; rintro e wz ⟨rfl, hcz⟩; have HCz := keepf hcz; clear hcz))
        go_ret
        exact ⟨rfl, (HC2.out.trans HCz.out (fun _ _ h => h)).no_below⟩
    · have d2 : decide ((60 : Int) < bs.length) = true := by simp; omega
      go_enter Try.func4, Try.ntmps4
      go_wp2_with (go_at_call 8; refine (works_any4 _).mono ?_; rintro e wz ⟨rfl, hcz⟩; have HCz := keepf hcz; clear hcz)
      go_ret
      exact ⟨rfl, HCz.out.no_below⟩
  · have d1 : decide ((400 : Int) < xs.length) = true := by simp; omega
    go_enter Try.func4, Try.ntmps4
    go_wp2_with (go_at_call 8; refine (works_any4 _).mono ?_; rintro e wz ⟨rfl, hcz⟩; have HCz := keepf hcz; clear hcz)
    go_ret
    exact ⟨rfl, HCz.out.no_below⟩


set_option maxRecDepth 100000 in
theorem lifted (os : Os) (started : os.Started) (H : Type) (enc : TypeId × Value → H) :
    ReturnsInHanded {} Try.checked os 4 .any (Rows.huffGetsSpec.pre6 enc Try.prog Try.f4 Rows.huffGetsRow.domain false) (Rows.huffGetsSpec.post enc Try.prog Try.f4 false true false false) := by
  refine returnsInHanded_of_change (C := Try.checked) own started (by kernel_rfl) Try.func4
    (ChangeSpec.witness6 (enc := enc) (C := Try.checked) false ⟨#[], #[.slice none 0 0, .slice none 0 0, .bool false], []⟩ 8 (by kernel_rfl) (by kernel_rfl) (by kernel_rfl) (by kernel_rfl)) ?_
  intro W base args ds gs before hval0 hW hcnd _
  have hval : ∀ (j : Nat) t v, Try.f4.params[j]? = some t → args[j]? = some v → Value.okWide Try.prog W .any base t v := hval0
  have hW' := hW
  obtain ⟨p, q, hA0, hV, rfl, hfz, hnd⟩ := hW
  have hA : DataW.TrodAll enc Try.prog W 0 (fun _ => true) true Try.f4.params.toList args.toList ds p := hA0
  rw [Try.params4] at hA hval
  obtain ⟨v0, vs0, d0, ds0, p0, q0, hargs, rfl, rfl, h0, r0⟩ := trodAll_cons hA
  obtain ⟨v1, vs1, d1, ds1, p1, q1, rfl, rfl, rfl, h1, r1⟩ := trodAll_cons r0
  obtain ⟨v2, vs2, d2, ds2, p2, q2, rfl, rfl, rfl, h2, r2⟩ := trodAll_cons r1
  obtain ⟨rfl, rfl, rfl⟩ := trodAll_nil r2
  obtain rfl : args = #[v0, v1, v2] := by cases args; simp_all
  obtain ⟨rfl, rfl⟩ := trodVars_none hV
  obtain ⟨a0, len0, cap0, rfl⟩ := okWide_slice Try.underlying22 (hval 0 22 v0 rfl rfl)
  have k0 := h0
  have lt0 : ∀ x ∈ p0, x.block < W.heap.size := by obtain ⟨m, hm⟩ := k0; exact DataW.trod_lt m _ _ _ hm
  obtain ⟨hm0, xs0, hl0, hS0, hg0⟩ : len0 ≤ maxLen ∧ ∃ xs : List Int, xs.length = len0 ∧ Src W 1 a0 len0 cap0 (xs.flatMap encI) ∧ ∀ b ∈ xs, goodI b := by
    obtain ⟨fuel, hf⟩ := h0
    exact open_rows encI goodI 1 Try.underlying22 (by kernel_rfl) (fun _ => rfl) (fun n cs y h _ => int_el h) (by simpa [Value.cells] using hf)
  obtain ⟨a1, len1, cap1, rfl⟩ := okWide_slice Try.underlying32 (hval 1 32 v1 rfl rfl)
  have k1 := h1
  have lt1 : ∀ x ∈ p1, x.block < W.heap.size := by obtain ⟨m, hm⟩ := k1; exact DataW.trod_lt m _ _ _ hm
  obtain ⟨hm1, xs1, hl1, hS1, hg1⟩ : len1 ≤ maxLen ∧ ∃ xs : List Nat, xs.length = len1 ∧ Src W 1 a1 len1 cap1 (xs.flatMap encB) ∧ ∀ b ∈ xs, (fun p : Nat => p < 256) b := by
    obtain ⟨fuel, hf⟩ := h1
    exact open_rows encB (fun p : Nat => p < 256) 1 Try.underlying32 (by kernel_rfl) (fun _ => rfl) (fun n cs y h _ => byte_el h) (by simpa [Value.cells] using hf)
  obtain ⟨a2, rfl, rfl, rfl⟩ := open_bool Try.underlying4 (hval 2 4 v2 rfl rfl) h2
  clear hA0 hval0
  refine (walk a0 len0 cap0 xs0 a1 len1 cap1 xs1 a2 W hl0 hm0 hS0 hg0 hl1 hm1 hS1 hg1).mono fun e W' ⟨he, bel⟩ => ?_
  subst he
  exact ⟨_, rfl, _, _, _, [], _, [], hW', trodAll_mk1 (shut_bool Try.underlying4 _), (trodAll_cons_mk (Below.trod laidOut (by kernel_rfl) (of_decide_eq_true (by kernel_rfl)) k0 bel lt0) (trodAll_cons_mk (Below.trod laidOut (by kernel_rfl) (of_decide_eq_true (by kernel_rfl)) k1 bel lt1) (trodAll_cons_mk (shut_bool Try.underlying4 _) trodAll_mk0))), rfl, bel.frame _, fun h => by cases h⟩

theorem over : Rows.huffGetsRow.holds Try.pinned (OpenSpec.ofChange Rows.huffGetsSpec) :=
  OpenClaim.holds_of_wide 4 Try.f4 rfl rfl rfl rfl rfl rfl rfl ⟨rfl, rfl, rfl, rfl, rfl⟩ rfl rfl rfl rfl rfl (by kernel_rfl) Try.func4 (by kernel_rfl)
    (of_decide_eq_true (by kernel_rfl)) (by unfold Func.isWrapper; first | (rw [if_pos (by decide +kernel)]; kernel_rfl) | (rw [if_neg (by decide +kernel)]; exact ⟨rfl, rfl⟩))
    (fun os started H enc _ => lifted os started H enc)

theorem proved : Rows.HuffGetsSaid := over
#print axioms proved
end Go.Proofs.Ytkhhiaggmncehaa.hgets
