/- 'DeflateBlocks': for every input the statement's function returns true: bytes that are packed in parts, each of its kind, are these bytes; or the error. Conditions: none. -/
import Derived.Test.YtlijfdflghepcaaGreatM19
import Derived.Test.YtlijfdflghepcaaGreatM25
import Derived.Test.YtlijfdflghepcaaGreatM26
import Derived.Test.YtlijfdflghepcaaGreatRows
import Derived.OpenShut
import Derived.ChangeOld
import Derived.Lib.SmallJoins
import Derived.BigQuiet
namespace Go.Proofs.YtlijfdflghepcaaGreat.dblocks
open Go.RowKit Go.ChangeShapes Go.WideShapes Go.ChangeAt
set_option linter.unusedVariables false

theorem own : ownKnob Tryz.prog.godebug = none := by kernel_rfl
theorem laidOut : laidOutB Tryz.prog = true := by kernel_rfl

theorem kinds_step {ks : List Int} {k : Nat} {z : Int} (h : ks[k]? = some z) : kindsB (ks.take (k + 1)) = (kindsB (ks.take k) && (decide (0 ≤ z) && decide (z ≤ 2))) := by
  unfold kindsB
  rw [List.take_add_one, h, List.any_append, Bool.not_or]
  congr 1
  simp only [Option.toList_some, List.any_cons, List.any_nil, Bool.or_false]
  by_cases h1 : 0 ≤ z
  · by_cases h2 : z ≤ 2
    · simp [h1, h2]
    · simp [h1, h2]; try omega
  · simp [h1]; try omega

set_option maxHeartbeats 2000000 in
set_option maxRecDepth 100000 in
theorem walk (A : Option Addr) (len cap : Nat) (bs : List Nat) (A1 : Option Addr) (len1 cap1 : Nat) (cs : List Int) (A2 : Option Addr) (len2 cap2 : Nat) (ks : List Int) (w : World)
    (hl : bs.length = len) (hm : len ≤ maxLen) (hS : Src w 1 A len cap (bs.flatMap encU)) (hg : ∀ b ∈ bs, b < 256) (hc : len ≤ cap)
    (hl1 : cs.length = len1) (hm1 : len1 ≤ maxLen) (hS1 : Src w 1 A1 len1 cap1 (cs.flatMap encI)) (hg1 : ∀ b ∈ cs, goodI b) (hc1 : len1 ≤ cap1)
    (hl2 : ks.length = len2) (hm2 : len2 ≤ maxLen) (hS2 : Src w 1 A2 len2 cap2 (ks.flatMap encI)) (hg2 : ∀ b ∈ ks, goodI b) (hc2 : len2 ≤ cap2) :
    Calls Tryz.prog 5 #[.slice A len cap, .slice A1 len1 cap1, .slice A2 len2 cap2] w fun e w' => e = .returned (.bool true) ∧ Below w.heap.size w w' := by
  unfold maxLen at hm hm1 hm2
  rw [flat_bytesU] at hS
  rw [flat_ints] at hS1 hS2
  subst hl hl1 hl2
  have HIN := keepf (show in64 ks from fun z hz => hg2 z hz)
  have HG := keepf hg
  obtain ⟨n, hn⟩ : ∃ n, n = bs.length := ⟨_, rfl⟩
  obtain ⟨m, hmm⟩ : ∃ m, m = cs.length := ⟨_, rfl⟩
  obtain ⟨p, hp⟩ : ∃ p, p = ks.length := ⟨_, rfl⟩
  have HN := keepf hn
  have HM := keepf hmm
  have HP := keepf hp
  have HS := keepf hS
  have HS1 := keepf hS1
  have HS2 := keepf hS2
  rw [← hn] at hm hc HS ⊢
  rw [← hmm] at hm1 hc1 HS1 ⊢
  rw [← hp] at hm2 hc2 HS2 ⊢
  clear hS hS1 hS2 hg hg1 hg2 hn hmm hp
  by_cases hle : n ≤ 1500 ∧ m ≤ 40 ∧ p ≤ 41
  · obtain ⟨le0, le1, le2⟩ := hle
    have d1 : decide ((1500 : Int) < n) = false := by simp; omega
    have d2 : decide ((40 : Int) < m) = false := by simp; omega
    have d3 : decide ((41 : Int) < p) = false := by simp; omega
    obtain ⟨F0, hF0⟩ : ∃ F0, F0 = ((p : Int) == (m : Int) + 1) := ⟨_, rfl⟩
    have HF0 := keepf hF0
    go_enter Tryz.func5, Tryz.ntmps5
    go_upto_region 5 with fail
    rw [← hF0]
    clear hF0 d1 d2 d3
    go_loop [7, 8] (fun vf vk => ∃ k : Nat, k ≤ p ∧ vf = .bool (F0 && kindsB (ks.take k)) ∧ vk = .int .i64 k) (fun _ vk => p - (intOf vk).toNat)
    case atStart => exact ⟨0, Nat.zero_le _, by cases F0 <;> rfl, rfl⟩
    case round =>
      obtain ⟨k, hk, rfl, rfl⟩ := hrel
      obtain ⟨bb, hbb⟩ : ∃ bb, bb = (F0 && kindsB (ks.take k)) := ⟨_, rfl⟩
      rw [← hbb]
      have HBB := keepf hbb
      clear hbb
      by_cases hlt : k < p
      · obtain ⟨b, off, rfl, hcell⟩ := HS2.out.plain (by rw [icells_len]; have := HP.out; omega)
        obtain ⟨z, hz⟩ : ∃ z, ks[k]? = some z := ⟨_, List.getElem?_eq_getElem (by have := HP.out; omega)⟩
        have c0 := hcell k _ (icells_get hz)
        have HREL : Hid ((F0 && kindsB (ks.take (k + 1))) = (bb && (decide (0 ≤ z) && decide (z ≤ 2)))) := by show _ = _; rw [kinds_step hz, HBB.out, Bool.and_assoc]
        clear hcell hz
        rcases bb with _ | _
        · go_wp2_with fail
          go_round
          case rel => exact ⟨k + 1, by omega, by rw [HREL.out]; rfl, by go_num⟩
          case measure => simp [intOf]; omega
        · by_cases h1 : 0 ≤ z
          · have e1 : decide (0 ≤ z) = true := by simpa using h1
            by_cases h2 : z ≤ 2
            · have e2 : decide (z ≤ 2) = true := by simpa using h2
              go_wp2_with fail
              go_round
              case rel => exact ⟨k + 1, by omega, by rw [HREL.out, decide_eq_true h1, decide_eq_true h2]; rfl, by go_num⟩
              case measure => simp [intOf]; omega
            · have e2 : decide (z ≤ 2) = false := by simp; omega
              go_wp2_with fail
              go_round
              case rel => exact ⟨k + 1, by omega, by rw [HREL.out, decide_eq_true h1, decide_eq_false h2]; rfl, by go_num⟩
              case measure => simp [intOf]; omega
          · have e1 : decide (0 ≤ z) = false := by simp; omega
            go_wp2_with fail
            go_round
            case rel => exact ⟨k + 1, by omega, by rw [HREL.out, decide_eq_false h1]; rfl, by go_num⟩
            case measure => simp [intOf]; omega
      · obtain rfl : p = k := by omega
        have hFa : bb = (F0 && kindsB ks) := by rw [HBB.out, List.take_of_length_le (by have := HP.out; omega)]
        have HFA := keepf hFa
        clear hFa
        go_wp2_with fail
        go_loop [7, 9, 10] (fun vf va vk => ∃ (j : Nat) (a : Int) (b2 : Bool), j ≤ m ∧ vf = .bool b2 ∧ va = .int .i64 a ∧ vk = .int .i64 j ∧ Hid ((bb && cutsB n 0 cs) = (b2 && cutsB n a (cs.drop j)))) (fun _ _ vk => m - (intOf vk).toNat)
        case atStart => exact ⟨0, 0, bb, Nat.zero_le _, rfl, rfl, rfl, rfl⟩
        case round =>
          obtain ⟨j, a, b2, hj, rfl, rfl, rfl, HB⟩ := hrel
          by_cases hlt2 : j < m
          · obtain ⟨b, off, rfl, hcell⟩ := HS1.out.plain (by rw [icells_len]; have := HM.out; omega)
            obtain ⟨z, hz⟩ : ∃ z, cs[j]? = some z := ⟨_, List.getElem?_eq_getElem (by have := HM.out; omega)⟩
            have c0 := hcell j _ (icells_get hz)
            have HB2 : Hid ((bb && cutsB n 0 cs) = (b2 && ((decide (a ≤ z) && decide (z ≤ (n : Int))) && cutsB n z (cs.drop (j + 1))))) := by show _ = _; rw [HB.out, cutsB_get hz]
            clear hcell hz
            rcases b2 with _ | _
            · go_wp2_with fail
              go_round
              case rel => exact ⟨j + 1, z, false, by omega, rfl, rfl, by go_num, by show _ = _; rw [HB2.out]; rfl⟩
              case measure => simp [intOf]; omega
            · by_cases h1 : a ≤ z
              · have e1 : decide (a ≤ z) = true := by simpa using h1
                by_cases h2 : z ≤ (n : Int)
                · have e2 : decide (z ≤ (n : Int)) = true := by simpa using h2
                  go_wp2_with fail
                  go_round
                  case rel => exact ⟨j + 1, z, true, by omega, rfl, rfl, by go_num, by show _ = _; rw [HB2.out, decide_eq_true h1, decide_eq_true h2]; rfl⟩
                  case measure => simp [intOf]; omega
                · have e2 : decide (z ≤ (n : Int)) = false := by simp; omega
                  go_wp2_with fail
                  go_round
                  case rel => exact ⟨j + 1, z, false, by omega, rfl, rfl, by go_num, by show _ = _; rw [HB2.out, decide_eq_true h1, decide_eq_false h2]; rfl⟩
                  case measure => simp [intOf]; omega
              · have e1 : decide (a ≤ z) = false := by simp; omega
                go_wp2_with fail
                go_round
                case rel => exact ⟨j + 1, z, false, by omega, rfl, rfl, by go_num, by show _ = _; rw [HB2.out, decide_eq_false h1]; rfl⟩
                case measure => simp [intOf]; omega
          · obtain rfl : m = j := by omega
            have hfin : b2 = ((F0 && kindsB ks) && cutsB n 0 cs) := by
              have h := HB.out
              rw [List.drop_of_length_le (by have := HM.out; omega), HFA.out] at h
              rw [h]
              simp [cutsB]
            have hmay : b2 = true ↔ BlocksMay bs.length cs ks := by
              rw [hfin, HF0.out]
              unfold BlocksMay
              rw [← HN.out, ← HM.out, ← HP.out]
              simp only [Bool.and_eq_true, beq_iff_eq]
              constructor
              · rintro ⟨⟨h1, h2⟩, h3⟩; exact ⟨h3, by omega, h2⟩
              · rintro ⟨h3, h1, h2⟩; exact ⟨⟨by omega, h2⟩, h3⟩
            have HMAY := keepf hmay
            clear hfin hmay
            rcases b2 with _ | _
            · have HNO := keepf (blocks_no bs cs ks A cap A1 cap1 A2 cap2 w (by have := HN.out; omega) (by rw [← HM.out]; exact HS1.out) (by rw [← HP.out]; exact HS2.out) (by have := HM.out; omega) (by have := HP.out; omega) HIN.out (fun h => Bool.noConfusion (HMAY.out.2 h)))
              rw [← HN.out, ← HM.out, ← HP.out] at HNO
              go_wp2_with (first
                | (go_at_call 15; refine HNO.out.mono ?_; rintro e w2 ⟨rfl, rfl⟩)
                | (go_at_call 8; refine (works_any7 _).mono ?_; rintro e wz ⟨rfl, hcz⟩; have HCz := keepf hcz; clear hcz))
              go_ret
              exact ⟨rfl, HCz.out.no_below⟩
            · have HOK := keepf (blocks_ok bs cs ks A cap A1 cap1 A2 cap2 w (by have := HN.out; omega) (by rw [← HN.out]; exact hc) HG.out (by rw [← HN.out]; exact HS.out) (by rw [← HM.out]; exact HS1.out) (by rw [← HP.out]; exact HS2.out) (by have := HM.out; omega) (by have := HP.out; omega) HIN.out (HMAY.out.1 rfl))
              rw [← HN.out, ← HM.out, ← HP.out] at HOK
              go_upto_region 15 with (go_at_call 15; refine HOK.out.mono ?_; rintro e w2 ⟨L, hL, A5, c5, rfl, ho5, hc5⟩; have HL := keepf hL; have HO5 := keepf ho5; have HC5 := keepf hc5; clear hL ho5 hc5)
              have hpl := packedB_len HL.out
              have hps : (L.length + 7) / 8 = (bytesOf false L).length := packed_size L
              have HR := keepf (rinflate_ok (bytesOf false L) bs A5 c5 n L.length w2 (src_own HO5.out) byte_lt (by have := HN.out; omega) (by omega) (packedB_runs HL.out HG.out (by have := HN.out; omega)))
              obtain ⟨q, hq⟩ : ∃ q, q = (bytesOf false L).length := ⟨_, rfl⟩
              rw [← hq] at HR HO5 hps ⊢
              have HPS := keepf hps
              clear hq hpl hps
              go_upto_region 18 with (go_at_call 11; refine HR.out.mono ?_; rintro e w3 ⟨A6, c6, rfl, ho6, hc6, _⟩; have HO6 := keepf ho6; have HC6 := keepf (HC5.out.trans hc6 (fun _ _ e => e)); clear ho6 hc6)
              rw [← HN.out] at HO6 ⊢
              rw [show ((L.length : Int) + 7) / 8 = (q : Int) from by have := HPS.out; omega]
              have hcv1 := conv_src (src_own HO6.out)
              have hcv2 := conv_src (Src.below (w0 := w) HS.out HC6.out)
              unfold Cs at hcv1 hcv2
              obtain ⟨s, hs⟩ : ∃ s, s = bstr bs := ⟨_, rfl⟩
              rw [← hs] at hcv1 hcv2
              clear hs
              go_wp2_with (go_at_call 8; refine (works_any7 _).mono ?_; rintro e wz ⟨rfl, hcz⟩; have HCz := keepf hcz; clear hcz)
              go_ret
              exact ⟨rfl, (HC6.out.trans HCz.out (fun _ _ e => e)).no_below⟩
  · have hx : (1500 < n) ∨ (n ≤ 1500 ∧ 40 < m) ∨ (n ≤ 1500 ∧ m ≤ 40 ∧ 41 < p) := by omega
    clear hle
    rcases hx with h | ⟨h0, h⟩ | ⟨h0, h1, h⟩
    · have d1 : decide ((1500 : Int) < n) = true := by simp; omega
      go_enter Tryz.func5, Tryz.ntmps5
      go_wp2_with (go_at_call 8; refine (works_any7 _).mono ?_; rintro e wz ⟨rfl, hcz⟩; have HCz := keepf hcz; clear hcz)
      go_ret
      exact ⟨rfl, HCz.out.no_below⟩
    · have d1 : decide ((1500 : Int) < n) = false := by simp; omega
      have d2 : decide ((40 : Int) < m) = true := by simp; omega
      go_enter Tryz.func5, Tryz.ntmps5
      go_wp2_with (go_at_call 8; refine (works_any7 _).mono ?_; rintro e wz ⟨rfl, hcz⟩; have HCz := keepf hcz; clear hcz)
      go_ret
      exact ⟨rfl, HCz.out.no_below⟩
    · have d1 : decide ((1500 : Int) < n) = false := by simp; omega
      have d2 : decide ((40 : Int) < m) = false := by simp; omega
      have d3 : decide ((41 : Int) < p) = true := by simp; omega
      go_enter Tryz.func5, Tryz.ntmps5
      go_wp2_with (go_at_call 8; refine (works_any7 _).mono ?_; rintro e wz ⟨rfl, hcz⟩; have HCz := keepf hcz; clear hcz)
      go_ret
      exact ⟨rfl, HCz.out.no_below⟩

set_option maxRecDepth 100000 in
theorem lifted (os : Os) (started : os.Started) (H : Type) (enc : TypeId × Value → H) :
    ReturnsInHanded {} Tryz.checked os 5 .any (Rows.deflateBlocksSpec.pre6 enc Tryz.prog Tryz.f5 Rows.deflateBlocksRow.domain false) (Rows.deflateBlocksSpec.post enc Tryz.prog Tryz.f5 false true false false) := by
  refine returnsInHanded_of_change (C := Tryz.checked) own started (by kernel_rfl) Tryz.func5
    (ChangeSpec.witness6 (enc := enc) (C := Tryz.checked) false ⟨#[], #[.slice none 0 0, .slice none 0 0, .slice none 0 0], []⟩ 8 (by kernel_rfl) (by kernel_rfl) (by kernel_rfl) (by kernel_rfl)) ?_
  intro W base args ds gs before hval0 hW hcnd _
  have hval : ∀ (j : Nat) t v, Tryz.f5.params[j]? = some t → args[j]? = some v → Value.okWide Tryz.prog W .any base t v := hval0
  have hW' := hW
  obtain ⟨p, q, hA0, hV, rfl, hfz, hnd⟩ := hW
  have hA : DataW.TrodAll enc Tryz.prog W 0 (fun _ => true) true Tryz.f5.params.toList args.toList ds p := hA0
  rw [Tryz.params5] at hA hval
  obtain ⟨v0, vs0, d0, ds0, p0, q0, hargs, rfl, rfl, h0, r0⟩ := trodAll_cons hA
  obtain ⟨v1, vs1, d1, ds1, p1, q1, rfl, rfl, rfl, h1, r1⟩ := trodAll_cons r0
  obtain ⟨v2, vs2, d2, ds2, p2, q2, rfl, rfl, rfl, h2, r2⟩ := trodAll_cons r1
  obtain ⟨rfl, rfl, rfl⟩ := trodAll_nil r2
  obtain rfl : args = #[v0, v1, v2] := by cases args; simp_all
  obtain ⟨rfl, rfl⟩ := trodVars_none hV
  obtain ⟨a0, len0, cap0, rfl⟩ := okWide_slice Tryz.underlying22 (hval 0 22 v0 rfl rfl)
  have k0 := h0
  have lt0 : ∀ x ∈ p0, x.block < W.heap.size := by obtain ⟨m, hm⟩ := k0; exact DataW.trod_lt m _ _ _ hm
  obtain ⟨hm0, xs0, hl0, hS0, hg0⟩ : len0 ≤ maxLen ∧ ∃ xs : List Nat, xs.length = len0 ∧ Src W 1 a0 len0 cap0 (xs.flatMap encU) ∧ ∀ b ∈ xs, (fun p : Nat => p < 256) b := by
    obtain ⟨fuel, hf⟩ := h0
    exact open_rows encU (fun p : Nat => p < 256) 1 Tryz.underlying22 (by kernel_rfl) (fun _ => rfl) (fun n cs y h _ => byte_elU h) (by simpa [Value.cells] using hf)
  have hc0 : len0 ≤ cap0 := by
    obtain ⟨fuel, hf⟩ := h0
    exact open_cap Tryz.underlying22 (by simpa [Value.cells] using hf)
  obtain ⟨a1, len1, cap1, rfl⟩ := okWide_slice Tryz.underlying34 (hval 1 34 v1 rfl rfl)
  have k1 := h1
  have lt1 : ∀ x ∈ p1, x.block < W.heap.size := by obtain ⟨m, hm⟩ := k1; exact DataW.trod_lt m _ _ _ hm
  obtain ⟨hm1, xs1, hl1, hS1, hg1⟩ : len1 ≤ maxLen ∧ ∃ xs : List Int, xs.length = len1 ∧ Src W 1 a1 len1 cap1 (xs.flatMap encI) ∧ ∀ b ∈ xs, goodI b := by
    obtain ⟨fuel, hf⟩ := h1
    exact open_rows encI goodI 1 Tryz.underlying34 (by kernel_rfl) (fun _ => rfl) (fun n cs y h _ => int_el h) (by simpa [Value.cells] using hf)
  have hc1 : len1 ≤ cap1 := by
    obtain ⟨fuel, hf⟩ := h1
    exact open_cap Tryz.underlying34 (by simpa [Value.cells] using hf)
  obtain ⟨a2, len2, cap2, rfl⟩ := okWide_slice Tryz.underlying34 (hval 2 34 v2 rfl rfl)
  have k2 := h2
  have lt2 : ∀ x ∈ p2, x.block < W.heap.size := by obtain ⟨m, hm⟩ := k2; exact DataW.trod_lt m _ _ _ hm
  obtain ⟨hm2, xs2, hl2, hS2, hg2⟩ : len2 ≤ maxLen ∧ ∃ xs : List Int, xs.length = len2 ∧ Src W 1 a2 len2 cap2 (xs.flatMap encI) ∧ ∀ b ∈ xs, goodI b := by
    obtain ⟨fuel, hf⟩ := h2
    exact open_rows encI goodI 1 Tryz.underlying34 (by kernel_rfl) (fun _ => rfl) (fun n cs y h _ => int_el h) (by simpa [Value.cells] using hf)
  have hc2 : len2 ≤ cap2 := by
    obtain ⟨fuel, hf⟩ := h2
    exact open_cap Tryz.underlying34 (by simpa [Value.cells] using hf)
  clear hA0 hval0
  refine (walk a0 len0 cap0 xs0 a1 len1 cap1 xs1 a2 len2 cap2 xs2 W hl0 hm0 hS0 hg0 hc0 hl1 hm1 hS1 hg1 hc1 hl2 hm2 hS2 hg2 hc2).mono fun e W' ⟨he, bel⟩ => ?_
  subst he
  exact ⟨_, rfl, _, _, _, [], _, [], hW', trodAll_mk1 (shut_bool Tryz.underlying4 _), (trodAll_cons_mk (Below.trod laidOut (by kernel_rfl) (of_decide_eq_true (by kernel_rfl)) k0 bel lt0) (trodAll_cons_mk (Below.trod laidOut (by kernel_rfl) (of_decide_eq_true (by kernel_rfl)) k1 bel lt1) (trodAll_cons_mk (Below.trod laidOut (by kernel_rfl) (of_decide_eq_true (by kernel_rfl)) k2 bel lt2) trodAll_mk0))), rfl, bel.frame _, fun h => by cases h⟩

theorem over : Rows.deflateBlocksRow.holds Tryz.pinned (OpenSpec.ofChange Rows.deflateBlocksSpec) :=
  OpenClaim.holds_of_wide 5 Tryz.f5 rfl rfl rfl rfl rfl rfl rfl ⟨rfl, rfl, rfl, rfl, rfl⟩ rfl rfl rfl rfl rfl (by kernel_rfl) Tryz.func5 (by kernel_rfl)
    (of_decide_eq_true (by kernel_rfl)) (by unfold Func.isWrapper; first | (rw [if_pos (by decide +kernel)]; kernel_rfl) | (rw [if_neg (by decide +kernel)]; exact ⟨rfl, rfl⟩))
    (fun os started H enc _ => lifted os started H enc)

theorem proved : Rows.DeflateBlocksSaid := over
#print axioms proved
end Go.Proofs.YtlijfdflghepcaaGreat.dblocks
