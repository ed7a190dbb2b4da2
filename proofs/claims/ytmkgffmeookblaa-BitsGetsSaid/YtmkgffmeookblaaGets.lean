/- 'BitsGets': for every input the statement's function returns true: whatever widths are asked for, a reader of any bytes tells, step by step, the numbers that the document says, or the error. Conditions: none. -/
import Derived.Test.YtmkgffmeookblaaCut
import Derived.Test.YtmkgffmeookblaaRows
import Derived.ChangeOld
import Derived.Deep.Cut
import Derived.Deep.CutRange
namespace Go.Proofs.Ytmkgffmeookblaa.gets
open Go.RowKit Go.ChangeShapes Go.WideShapes Go.ChangeAt
set_option linter.unusedVariables false

theorem own : ownKnob Try.prog.godebug = none := by kernel_rfl
theorem laidOut : laidOutB Try.prog = true := by kernel_rfl

def encB (b : Nat) : List Value := [.int .u8 (b : Nat)]
theorem byte_el {H : Type} {en : TypeId × Value → H} {w : World} {base n : Nat} {spare : Nat → Bool} {held : Bool} {cs : List Value} {y : DataW H × List MemPlace}
    (h : DataW.trod en Try.prog w base spare held n 5 cs = some y) : ∃ p : Nat, cs = encB p ∧ p < 256 := by
  obtain ⟨z, rfl, hz⟩ := el_int Try.underlying5 h
  have b0 := bounds_u8 hz
  exact ⟨z.toNat, by simp [encB]; omega, by omega⟩
theorem encB_cells (bs : List Nat) : bs.flatMap encB = ucells bs := by
  induction bs with
  | nil => rfl
  | cons b bs ih => rw [List.flatMap_cons, ih]; rfl

/-- The reader stands at the place a; the row of truths is its bytes' bits. -/
structure St (w wr : World) (high : Bool) (bs : List Nat) (gr : Nat) (Sr Sl : Value) (a : Nat) : Prop where
  r : Rd wr gr high bs a Sr
  i : wr.ownsRow 0 4 1 Sl (8 * bs.length) (tcells (allBits high bs))
  c : Chg NoS w wr
  g : w.heap.size ≤ gr
  d : Sl.ownBlock ≠ some gr

theorem St.moved {w wr w' : World} {high : Bool} {bs : List Nat} {gr a a2 : Nat} {Sr Sl : Value} (h : St w wr high bs gr Sr Sl a) (hR : Rd w' gr high bs a2 Sr) (hc : Chg (fun i => i = gr) wr w') : St w w' high bs gr Sr Sl a2 :=
  ⟨hR, own_chg h.i hc (fun i hi he => h.d (by rw [hi, he])), h.c.trans hc (fun i hi he => by have := h.g; omega), h.g, h.d⟩
theorem St.drewN {w wr : World} {high : Bool} {bs : List Nat} {gr a : Nat} {Sr Sl : Value} (h : St w wr high bs gr Sr Sl a) (n : Nat) : St w (wr.drewN n) high bs gr Sr Sl a :=
  ⟨⟨h.r.1.drewN n, own_drewN h.r.2 n⟩, own_drewN h.i n, h.c.drewN n, h.g, h.d⟩

set_option maxHeartbeats 2000000 in
set_option maxRecDepth 100000 in
theorem walk (high : Bool) (Ab : Option Addr) (nb capb : Nat) (bs : List Nat) (A : Option Addr) (len cap : Nat) (xs : List (Nat × Int)) (w : World)
    (hlb : bs.length = nb) (hmb : nb ≤ maxLen) (hSb : Src w 1 Ab nb capb (bs.flatMap encB)) (hgb : ∀ p ∈ bs, p < 256)
    (hl : xs.length = len) (hm : len ≤ maxLen) (hS : Src w 2 A len cap (xs.flatMap encP)) (hg : ∀ p ∈ xs, goodP p) :
    Calls Try.prog 4 #[.bool high, .slice Ab nb capb, .slice A len cap] w fun e w' => e = .returned (.bool true) ∧ Below w.heap.size w w' := by
  subst hlb
  unfold maxLen at hm hmb
  rw [encB_cells] at hSb
  have HS := keepf hS
  have HL := keepf hl
  have HG := keepf hg
  have HSb := keepf hSb
  have HGb := keepf hgb
  clear hS hl hg hSb hgb
  by_cases h200 : 200 < bs.length
  · have d1 : decide ((200 : Int) < (bs.length : Int)) = true := by simp; omega
    go_enter Try.func4, Try.ntmps4
    go_wp2_with fail
    refine (works_any _).mono ?_
    rintro e w1 ⟨rfl, hc1⟩
    have HC := keepf hc1
    clear hc1
    go_wp2
    go_ret
    exact ⟨rfl, HC.out.no_below⟩
  · have d1 : decide ((200 : Int) < (bs.length : Int)) = false := by simp; omega
    go_enter Try.func4, Try.ntmps4
    go_wp2_with fail
    refine (works_any _).mono ?_
    rintro e w1 ⟨rfl, hc1⟩
    have HC1 := keepf hc1
    clear hc1
    go_wp2_with fail
    refine (read_any high bs Ab capb _ (HSb.out.below (w0 := w) HC1.out) (by omega)).mono ?_
    rintro e w2 ⟨gr, Sr, rfl, hR2, hc2, hgr, hSr⟩
    have HC2 := keepf (HC1.out.trans hc2 (fun _ _ h => h))
    have HR2 := keepf hR2
    have HGr := keepf (Nat.le_trans HC1.out.size hgr)
    clear hR2 hc2 hgr hSr
    go_wp2_with fail
    refine (refbits_any high bs Ab capb _ (by omega) HGb.out (HSb.out.below (w0 := w) HC2.out)).mono ?_
    rintro e w3 ⟨A8, c8, rfl, hG3⟩
    have hSt : St w w3 high bs gr Sr (.slice A8 (8 * bs.length) c8) 0 := by
      have ho := hG3.o
      rw [allBits_length] at ho
      have hn := hG3.n
      rw [allBits_length] at hn
      exact ⟨⟨HR2.out.1.chg hG3.c (fun h => h), own_chg HR2.out.2 hG3.c (fun _ _ h => h)⟩, ho, HC2.out.trans hG3.c (fun _ _ h => h), HGr.out, fun h => hn gr HR2.out.1.lt h⟩
    rw [allBits_length]
    have HT := keepf hSt
    clear hG3 hSt HR2 HC2 HC1 HGr
    go_wp2_with fail
    go_loopw [9, 10] (fun v i wr => ∃ k a : Nat, k ≤ len ∧ k ≤ 60 ∧ i = .int .i64 k ∧ v = .int .i64 a ∧ a ≤ 8 * bs.length ∧ St w wr high bs gr Sr (.slice A8 (8 * bs.length) c8) a) (fun _ i _ => len - (intOf i).toNat)
    case atStart => exact ⟨0, 0, Nat.zero_le _, Nat.zero_le _, rfl, rfl, Nat.zero_le _, HT.out⟩
    case round =>
      obtain ⟨k, a, hk, hk6, rfl, rfl, ha, hSt⟩ := hrel
      have HT2 := keepf hSt
      clear hSt HT
      by_cases hlt : k < len ∧ k < 60
      · obtain ⟨hlt1, hlt2⟩ := hlt
        obtain ⟨b, off, rfl, hcell⟩ := HS.out.plain (by rw [flat_len _ 2 (by intro p; rfl), HL.out]; omega)
        have hlb : k < xs.length := by have := HL.out; omega
        obtain ⟨p, hp⟩ : ∃ p, xs[k]? = some p := ⟨_, List.getElem?_eq_getElem hlb⟩
        have hgp := HG.out p (List.mem_of_getElem? hp)
        obtain ⟨x, z⟩ := p
        have e0 := hcell (k * 2 + 0) (.int .u32 x) (by rw [flat_get encP 2 (fun _ => rfl) xs k 0 _ hp (by omega)]; rfl)
        have e1 := hcell (k * 2 + 1) (.int .i64 z) (by rw [flat_get encP 2 (fun _ => rfl) xs k 1 _ hp (by omega)]; rfl)
        have c0 := (HT2.out.c.cell (p := ⟨b, off + (k * 2 + 0), none⟩) (by exact cell_lt e0) (fun h => h)).trans e0
        have c1 := (HT2.out.c.cell (p := ⟨b, off + (k * 2 + 1), none⟩) (by exact cell_lt e1) (fun h => h)).trans e1
        rw [Nat.add_zero] at c0
        rw [← Nat.add_assoc] at c1
        obtain ⟨hx, hz1, hz2⟩ := hgp
        simp only at hx hz1 hz2
        clear hcell e0 e1 hp hlb
        go_upto_region 10 with fail
        go_cut [53] from 28 to 121 (fun v wx => v = .bool (decide (z < 0 ∧ x % 2 = 0)) ∧ wr = wx)
        case first =>
          by_cases hf1 : z < 0
          · have d1 : decide (z < 0) = true := by simpa using hf1
            by_cases hf2 : x % 2 = 0
            · have d2 : ((x : Int) % 2 == 0) = true := by simp; omega
              have d3 : decide (z < 0 ∧ x % 2 = 0) = true := by simp [hf1, hf2]
              have D3 := keepf d3
              clear d3 hf2
              go_wp2
              go_meet
              exact ⟨by rw [D3.out], rfl⟩
            · have d2 : ((x : Int) % 2 == 0) = false := by simp; omega
              have d3 : decide (z < 0 ∧ x % 2 = 0) = false := by simp [hf2]
              have D3 := keepf d3
              clear d3 hf2
              go_wp2
              go_meet
              exact ⟨by rw [D3.out], rfl⟩
          · have d1 : decide (z < 0) = false := by simpa using hf1
            have d3 : decide (z < 0 ∧ x % 2 = 0) = false := by simp [hf1]
            have D3 := keepf d3
            clear d3
            go_wp2
            go_meet
            exact ⟨by rw [D3.out], rfl⟩
        case rest =>
          obtain ⟨rfl, rfl⟩ := hcut
          generalize hfill : decide (z < 0 ∧ x % 2 = 0) = fill
          clear hfill c0 c1
          go_upto_if 53 with fail
          go_cut [9] from 28 to 121 (fun v wx => ∃ a2 : Nat, v = .int .i64 a2 ∧ a2 ≤ 8 * bs.length ∧ St w wx high bs gr Sr (.slice A8 (8 * bs.length) c8) a2)
          case first =>
            cases fill
            · by_cases harg : z < 0 ∨ 32 < z
              · go_wp2_with fail
                refine (get_arg gr z _ (by have := HT2.out.r.1.cell 0; simpa using this) hz1 hz2 harg).mono ?_
                rintro e w5 ⟨rfl, m, rfl⟩
                have HT5 := keepf (HT2.out.drewN m)
                rcases harg with h1 | h1
                · have d1 : decide (z < 0) = true := by simpa using h1
                  go_wp2_with fail
                  go_meet
                  exact ⟨a, rfl, ha, HT5.out⟩
                · have d1 : decide (z < 0) = false := by simp; omega
                  have d2 : decide (32 < z) = true := by simpa using h1
                  go_wp2_with fail
                  go_meet
                  exact ⟨a, rfl, ha, HT5.out⟩
              · obtain ⟨n, rfl⟩ := Int.eq_ofNat_of_zero_le (by omega : 0 ≤ z)
                have hn32 : n ≤ 32 := by omega
                have d1 : decide ((n : Int) < 0) = false := by simp
                have d2 : decide ((32 : Int) < (n : Int)) = false := by simp; omega
                by_cases hcut2 : 8 * bs.length - a < n
                · go_wp2_with fail
                  refine (get_cut gr a n high bs Sr _ HT2.out.r (by omega) ha hn32 hcut2).mono ?_
                  rintro e w5 ⟨rfl, m, rfl⟩
                  have HT5 := keepf (HT2.out.drewN m)
                  go_wp2_with fail
                  go_meet
                  exact ⟨a, rfl, ha, HT5.out⟩
                · go_wp2_with fail
                  refine (get_ok gr a n high bs Sr _ HT2.out.r (by omega) HGb.out hn32 (by omega)).mono ?_
                  rintro e w5 ⟨rfl, hR5, hc5⟩
                  have HT5 := keepf (HT2.out.moved hR5 hc5)
                  clear hR5 hc5
                  obtain ⟨As, cs, hsl, hSs⟩ := cut_own HT5.out.i a n (by omega) (by omega)
                  have hML : (((allBits high bs).drop a).take n).length = n := by rw [List.length_take, List.length_drop, allBits_length]; omega
                  have hof := refof_any high (((allBits high bs).drop a).take n) As cs w5 (by omega) (by rw [hML]; exact hSs)
                  rw [hML, ofPart_all high bs a n (by omega)] at hof
                  have HOf := keepf hof
                  clear hof hSs hML
                  generalize numAt high bs a n = y at *
                  go_wp2_with fail
                  refine HOf.out.mono ?_
                  rintro e w6 ⟨rfl, rfl⟩
                  go_wp2_with fail
                  go_meet
                  exact ⟨a + n, by simp, by omega, HT5.out⟩
            · go_wp2_with fail
              refine (ralign_any gr a high bs Sr _ HT2.out.r (by omega)).mono ?_
              rintro e w5 ⟨rfl, hR5, hc5⟩
              have HT5 := keepf (HT2.out.moved hR5 hc5)
              clear hR5 hc5
              go_wp2_with fail
              go_meet
              exact ⟨a + (8 - a % 8) % 8, by congr 1; omega, by omega, HT5.out⟩
          case rest =>
            obtain ⟨a2, rfl, ha2, hT6⟩ := hcut
            have h0 := hT6.r.1.cell 0
            have h2 := hT6.r.1.cell 2
            have h3 := hT6.r.1.cell 3
            obtain ⟨Ar, capr, rfl, _⟩ := own_slice hT6.r.2
            simp at h0 h2 h3
            have HT6 := keepf hT6
            clear hT6
            have hlf := left_any gr a2 bs.length capr Ar wc (by omega) ha2 h0 h2 h3
            have d1 : ((a2 : Int) == a2) = true := by simp
            go_wp2_with fail
            refine (at_any gr a2 _ h0 h2).mono ?_
            rintro e w7 ⟨rfl, rfl⟩
            go_wp2_with fail
            refine hlf.mono ?_
            rintro e w8 ⟨rfl, m, rfl⟩
            have HT8 := keepf (HT6.out.drewN m)
            go_wp2_with fail
            go_roundw
            case rel => exact ⟨k + 1, a2, by omega, by omega, by go_num, rfl, ha2, HT8.out⟩
            case measure => simp [intOf]; omega
      · have hcase : k = len ∨ (k < len ∧ k = 60) := by omega
        have HC := keepf HT2.out.c
        clear HS HL HG HT2
        rcases hcase with rfl | ⟨hk1, rfl⟩
        all_goals
          go_wp2_with fail
          go_ret
          exact ⟨rfl, HC.out.no_below⟩

set_option maxRecDepth 100000 in
theorem lifted (os : Os) (started : os.Started) (H : Type) (enc : TypeId × Value → H) :
    ReturnsInHanded {} Try.checked os 4 .any (Rows.bitsGetsSpec.pre6 enc Try.prog Try.f4 Rows.bitsGetsRow.domain false) (Rows.bitsGetsSpec.post enc Try.prog Try.f4 false true false false) := by
  refine returnsInHanded_of_change (C := Try.checked) own started (by kernel_rfl) Try.func4
    (ChangeSpec.witness6 (enc := enc) (C := Try.checked) false ⟨#[], #[.bool false, .slice none 0 0, .slice none 0 0], []⟩ 8 (by kernel_rfl) (by kernel_rfl) (by kernel_rfl) (by kernel_rfl)) ?_
  intro W base args ds gs before hval0 hW hcnd _
  have hval : ∀ (j : Nat) t v, Try.f4.params[j]? = some t → args[j]? = some v → Value.okWide Try.prog W .any base t v := hval0
  have hW' := hW
  obtain ⟨p, q, hA0, hV, rfl, hfz, hnd⟩ := hW
  have hA : DataW.TrodAll enc Try.prog W 0 (fun _ => true) true Try.f4.params.toList args.toList ds p := hA0
  rw [Try.params4] at hA hval
  obtain ⟨v0, vs0, d0, ds0, p0, q0, hargs, rfl, rfl, h0, r0⟩ := trodAll_cons hA
  obtain ⟨v1, vs1, d1, ds1, p1, q1, rfl, rfl, rfl, h1, r1⟩ := trodAll_cons r0
  obtain ⟨v2, vs2, d2, ds2, p2, q2, rfl, rfl, rfl, h2, r2⟩ := trodAll_cons r1
  obtain ⟨rfl, rfl, rfl⟩ := trodAll_nil r2
  obtain rfl : args = #[v0, v1, v2] := by cases args; simp_all
  obtain ⟨rfl, rfl⟩ := trodVars_none hV
  obtain ⟨a0, rfl, rfl, rfl⟩ := open_bool Try.underlying4 (hval 0 4 v0 rfl rfl) h0
  obtain ⟨a1, len1, cap1, rfl⟩ := okWide_slice Try.underlying35 (hval 1 35 v1 rfl rfl)
  have k1 := h1
  have lt1 : ∀ x ∈ p1, x.block < W.heap.size := by obtain ⟨m, hm⟩ := k1; exact DataW.trod_lt m _ _ _ hm
  obtain ⟨hm1, xs1, hl1, hS1, hg1⟩ : len1 ≤ maxLen ∧ ∃ xs : List Nat, xs.length = len1 ∧ Src W 1 a1 len1 cap1 (xs.flatMap encB) ∧ ∀ b ∈ xs, (fun p : Nat => p < 256) b := by
    obtain ⟨fuel, hf⟩ := h1
    exact open_rows encB (fun p : Nat => p < 256) 1 Try.underlying35 (by kernel_rfl) (fun _ => rfl) (fun n cs y h _ => byte_el h) (by simpa [Value.cells] using hf)
  obtain ⟨a2, len2, cap2, rfl⟩ := okWide_slice Try.underlying22 (hval 2 22 v2 rfl rfl)
  have k2 := h2
  have lt2 : ∀ x ∈ p2, x.block < W.heap.size := by obtain ⟨m, hm⟩ := k2; exact DataW.trod_lt m _ _ _ hm
  obtain ⟨hm2, xs2, hl2, hS2, hg2⟩ : len2 ≤ maxLen ∧ ∃ xs : List (Nat × Int), xs.length = len2 ∧ Src W 2 a2 len2 cap2 (xs.flatMap encP) ∧ ∀ b ∈ xs, goodP b := by
    obtain ⟨fuel, hf⟩ := h2
    exact open_rows encP goodP 2 Try.underlying22 (by kernel_rfl) (fun _ => rfl) (fun n cs y h _ => part_el h) (by simpa [Value.cells] using hf)
  clear hA0 hval0
  refine (walk a0 a1 len1 cap1 xs1 a2 len2 cap2 xs2 W hl1 hm1 hS1 hg1 hl2 hm2 hS2 hg2).mono fun e W' ⟨he, bel⟩ => ?_
  subst he
  exact ⟨_, rfl, _, _, _, [], _, [], hW', trodAll_mk1 (shut_bool Try.underlying4 _), (trodAll_cons_mk (shut_bool Try.underlying4 _) (trodAll_cons_mk (Below.trod laidOut (by kernel_rfl) (of_decide_eq_true (by kernel_rfl)) k1 bel lt1) (trodAll_cons_mk (Below.trod laidOut (by kernel_rfl) (of_decide_eq_true (by kernel_rfl)) k2 bel lt2) trodAll_mk0))), rfl, bel.frame _, fun h => by cases h⟩

theorem over : Rows.bitsGetsRow.holds Try.pinned (OpenSpec.ofChange Rows.bitsGetsSpec) :=
  OpenClaim.holds_of_wide 4 Try.f4 rfl rfl rfl rfl rfl rfl rfl ⟨rfl, rfl, rfl, rfl, rfl⟩ rfl rfl rfl rfl rfl (by kernel_rfl) Try.func4 (by kernel_rfl)
    (of_decide_eq_true (by kernel_rfl)) (by unfold Func.isWrapper; first | (rw [if_pos (by decide +kernel)]; kernel_rfl) | (rw [if_neg (by decide +kernel)]; exact ⟨rfl, rfl⟩))
    (fun os started H enc _ => lifted os started H enc)

theorem proved : Rows.BitsGetsSaid := over
#print axioms proved
end Go.Proofs.Ytmkgffmeookblaa.gets
