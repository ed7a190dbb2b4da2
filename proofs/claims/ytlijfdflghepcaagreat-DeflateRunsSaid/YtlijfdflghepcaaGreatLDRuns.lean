/- 'DeflateRuns': for every input the statement's function returns true: the symbols of any lengths tell just these lengths; of others there are none. Conditions: none. -/
import Derived.Test.YtlijfdflghepcaaGreatM13
import Derived.Test.YtlijfdflghepcaaGreatM17
import Derived.Test.YtlijfdflghepcaaGreatM19
import Derived.Test.YtlijfdflghepcaaGreatRows
import Derived.OpenShut
import Derived.ChangeOld
import Derived.Lib.SmallJoins
import Derived.BigQuiet
namespace Go.Proofs.YtlijfdflghepcaaGreat.druns
open Go.RowKit Go.ChangeShapes Go.WideShapes Go.ChangeAt
set_option linter.unusedVariables false

theorem own : ownKnob Tryz.prog.godebug = none := by kernel_rfl
theorem laidOut : laidOutB Tryz.prog = true := by kernel_rfl
theorem info_rrun : (Tryz.prog.info? 47).map (fun i => (i.zero, i.size, i.bytes)) = some (some (.agg #[.int .i64 0, .int .i64 0]), 2, 16) := by kernel_rfl

/-- May the first k lengths be told? -/
def fr (xs : List Int) (k : Nat) : Bool := decide (xs.length ≤ 316 ∧ ∀ z ∈ xs.take k, 0 ≤ z ∧ z ≤ 15)
theorem fr_0 (xs : List Int) : fr xs 0 = decide ((xs.length : Int) ≤ 316) := by
  unfold fr
  apply decide_eq_decide.2
  simp
  omega
theorem fr_step {xs : List Int} {k : Nat} {z : Int} (h : xs[k]? = some z) : fr xs (k + 1) = (fr xs k && decide (0 ≤ z ∧ z ≤ 15)) := by
  unfold fr
  rw [List.take_add_one, h, ← Bool.decide_and]
  apply decide_eq_decide.2
  simp only [List.mem_append, Option.toList_some, List.mem_singleton]
  constructor
  · rintro ⟨h1, h2⟩
    exact ⟨⟨h1, fun y hy => h2 y (.inl hy)⟩, h2 z (.inr rfl)⟩
  · rintro ⟨⟨h1, h2⟩, h3⟩
    exact ⟨h1, fun y hy => by rcases hy with hy | rfl; exact h2 y hy; exact h3⟩
theorem fr_all (xs : List Int) : fr xs xs.length = true ↔ RunsMay xs := by
  unfold fr RunsMay
  rw [List.take_length, decide_eq_true_eq]

set_option maxHeartbeats 1000000 in
set_option maxRecDepth 100000 in
theorem walk (A : Option Addr) (len cap : Nat) (xs : List Int) (w : World) (hl : xs.length = len) (hm : len ≤ maxLen) (hS : Src w 1 A len cap (xs.flatMap encI)) (hg : ∀ b ∈ xs, goodI b) (hc : len ≤ cap) :
    Calls Tryz.prog 7 #[.slice A len cap] w fun e w' => e = .returned (.bool true) ∧ Below w.heap.size w w' := by
  unfold maxLen at hm
  rw [flat_ints] at hS
  subst hl
  have HIN := keepf (show in64 xs from fun z hz => hg z hz)
  have HS := keepf hS
  clear hS hg
  obtain ⟨n, hn⟩ : ∃ n, n = xs.length := ⟨_, rfl⟩
  have HN := keepf hn
  rw [← hn] at hc hm HS ⊢
  have HF0 := keepf (fr_0 xs)
  rw [← hn] at HF0
  clear hn
  by_cases hle : n ≤ 400
  · have d1 : decide ((400 : Int) < n) = false := by simp; omega
    go_enter Tryz.func7, Tryz.ntmps7
    go_upto_region 5 with fail
    rw [← HF0.out]
    go_loop [3, 4] (fun vf vk => ∃ k : Nat, k ≤ n ∧ vf = .bool (fr xs k) ∧ vk = .int .i64 k) (fun _ vk => n - (intOf vk).toNat)
    case atStart => exact ⟨0, Nat.zero_le _, rfl, rfl⟩
    case round =>
      obtain ⟨k, hk, rfl, rfl⟩ := hrel
      obtain ⟨bb, hbb⟩ : ∃ bb, bb = fr xs k := ⟨_, rfl⟩
      rw [← hbb]
      have HBB := keepf hbb
      clear hbb
      by_cases hlt : k < n
      · obtain ⟨b, off, rfl, hcell⟩ := HS.out.plain (by rw [icells_len]; have := HN.out; omega)
        obtain ⟨z, hz⟩ : ∃ z, xs[k]? = some z := ⟨_, List.getElem?_eq_getElem (by have := HN.out; omega)⟩
        have c0 := hcell k _ (icells_get hz)
        have HREL : Hid (fr xs (k + 1) = (bb && decide (0 ≤ z ∧ z ≤ 15))) := by show _ = _; rw [fr_step hz, HBB.out]
        clear hcell hz
        rcases bb with _ | _
        · go_wp2_with fail
          go_round
          case rel => exact ⟨k + 1, by omega, by rw [HREL.out]; rfl, by go_num⟩
          case measure => simp [intOf]; omega
        · by_cases hp : 0 ≤ z
          · have e2 : decide (0 ≤ z) = true := by simpa using hp
            by_cases hq : z ≤ 15
            · have e3 : decide (z ≤ 15) = true := by simpa using hq
              go_wp2_with fail
              go_round
              case rel => exact ⟨k + 1, by omega, by rw [HREL.out, decide_eq_true ⟨hp, hq⟩]; rfl, by go_num⟩
              case measure => simp [intOf]; omega
            · have e3 : decide (z ≤ 15) = false := by simp; omega
              go_wp2_with fail
              go_round
              case rel => exact ⟨k + 1, by omega, by rw [HREL.out, decide_eq_false (fun h => by omega)]; rfl, by go_num⟩
              case measure => simp [intOf]; omega
          · have e2 : decide (0 ≤ z) = false := by simp; omega
            go_wp2_with fail
            go_round
            case rel => exact ⟨k + 1, by omega, by rw [HREL.out, decide_eq_false (fun h => by omega)]; rfl, by go_num⟩
            case measure => simp [intOf]; omega
      · obtain rfl : n = k := by omega
        have HMAY : Hid (bb = true ↔ RunsMay xs) := by show _ ↔ _; rw [HBB.out, HN.out]; exact fr_all xs
        rcases bb with _ | _
        · have HNO := keepf (runs_no xs HIN.out A cap w (by rw [← HN.out]; exact HS.out) (by rw [← HN.out]; omega) (fun h => Bool.noConfusion (HMAY.out.2 h)))
          rw [← HN.out] at HNO
          go_wp2_with ((go_at_call 22; refine HNO.out.mono ?_; rintro e w2 ⟨rfl, rfl⟩))
          go_loop [6, 7] (fun vo vk => vo = .slice none 0 0 ∧ vk = .int .i64 0) (fun _ vk => 0)
          case atStart => exact ⟨rfl, rfl⟩
          case round =>
            obtain ⟨rfl, rfl⟩ := hrel
            go_wp2_with ((go_at_call 8; refine (works_any7 _).mono ?_; rintro e wz ⟨rfl, hcz⟩; have HCz := keepf hcz; clear hcz))
            go_ret
            exact ⟨rfl, HCz.out.no_below⟩
        · have hmay := HMAY.out.1 rfl
          have HRS := keepf (runs_ok xs A cap w (by rw [← HN.out]; exact HS.out) (by rw [← HN.out]; omega) hmay)
          rw [← HN.out] at HRS
          have hok := runsR_ok _ xs (Nat.le_refl _) hmay.2 []
          rw [List.nil_append] at hok
          have hRn : (runsR xs).length ≤ 316 := by
            have h := adds_len (runsR xs) []
            rw [hok.1] at h
            have := hmay.1
            simp only [List.length_nil, Nat.zero_add] at h
            omega
          obtain ⟨R, hR⟩ : ∃ R, R = runsR xs := ⟨_, rfl⟩
          rw [← hR] at HRS hok hRn
          have HOK := keepf hok
          obtain ⟨m, hm2⟩ : ∃ m, m = R.length := ⟨_, rfl⟩
          have HM := keepf hm2
          rw [← hm2] at hRn
          clear hmay hok hR hm2
          obtain ⟨i0, hi, hz0, hz1, hz2⟩ := info_parts info_rrun
          go_wp2_with ((go_at_call 22; refine HRS.out.mono ?_; rintro e w1 ⟨A1, c1, rfl, hO1, hC1, hN1⟩; have HO1 := keepf hO1; have HC1 := keepf hC1; have HN1 := keepf hN1; rw [← HM.out] at HO1 ⊢; clear hO1 hC1 hN1))
          go_loopw [6, 7] (fun vo vk wr => ∃ k : Nat, ∃ A2 : Option Addr, ∃ c2 : Nat, k ≤ m ∧ vk = .int .i64 k ∧ vo = .slice A2 k c2 ∧ Hid (wr.ownsRow 0 47 2 (.slice A2 k c2) k (xcells (R.take k))) ∧ Hid (Chg NoS w1 wr) ∧ Hid (∀ a, A2 = some a → w1.heap.size ≤ a.block)) (fun _ vk _ => m - (intOf vk).toNat)
          case atStart => exact ⟨0, none, 0, Nat.zero_le _, rfl, rfl, own_nil _ _ _ _, Chg.refl _ _, fun a h => by cases h⟩
          case round =>
            obtain ⟨k, A2, c2, hk, rfl, rfl, HO, HCH, HF⟩ := hrel
            by_cases hlt2 : k < m
            · obtain ⟨r, hr⟩ : ∃ r, R[k]? = some r := ⟨_, List.getElem?_eq_getElem (by have := HM.out; omega)⟩
              obtain ⟨b, off, rfl, hcell⟩ := ((src_own HO1.out).below (w0 := w1) HCH.out).plain (by rw [xcells_len, ← HM.out]; omega)
              have lw : b < w1.heap.size := by
                obtain ⟨b2, off2, e, hcell2⟩ := (src_own HO1.out).plain (by rw [xcells_len, ← HM.out]; omega)
                injection e with e
                injection e with e
                subst e
                exact cell_lt (hcell2 _ _ (xcells_0 hr))
              have c0 := hcell _ _ (xcells_0 hr)
              have c1' := hcell _ _ (xcells_1 hr)
              rw [← Nat.add_assoc] at c1'
              have lb : b < wr.heap.size := cell_lt c0
              have HTK := keepf (show R.take (k + 1) = R.take k ++ [r] by rw [List.take_add_one, hr]; rfl)
              obtain ⟨s, v⟩ := r
              simp only at c0 c1'
              have ab : (Value.slice A2 k c2).ownBlock ≠ some b := by
                rcases A2 with _ | a2
                · simp [Value.ownBlock]
                · have h3 := HF.out a2 rfl
                  simp [Value.ownBlock]
                  omega
              clear hcell hr
              go_upto_region 13 with fail
              first
                | (go_loud (go_region_held3 (fun w' => w'.cell? ⟨b, off + k * 2, none⟩ = some (.int .i64 (s : Nat)) ∧ w'.cell? ⟨b, off + k * 2 + 1, none⟩ = some (.int .i64 (v : Nat)))
                    (first
                      | (go_keep; done)
                      | (go_split_ands
                         refine ⟨?_, ?_⟩
                         · (rw [hgrow.cell_far _ (by simp; omega) (Ne.symm ab)]; assumption)
                         · (rw [hgrow.cell_far _ (by simp; omega) (Ne.symm ab)]; assumption)))
                    ((refine step_append_lies _ (by rfl) _ _ _ (by rfl) 0 47 i0 _ 2 16 Tryz.underlying44 hi hz0 hz1 hz2 rfl (by omega) (.slice A2 k c2) k (xcells (R.take k)) (by rfl) ((own_chg (S := NoS) HO.out ((Chg.refl _ _).alloc _) (fun _ _ h => h)).drew)
                          ⟨wr.heap.size, 0, none⟩ 1 1 (encX (s, v)) (by rfl) (by rfl) (World.news_of_block (cs := #[.int .i64 (s : Nat), .int .i64 (v : Nat)]) (t := 47) (fr := (0, 0)) (heap_alloc_new wr _)) (encX_one _)
                          (by omega) (by unfold maxLen; omega) (by omega) (Nat.zero_le _) (wr.heap.size + 1) (by simp) ?_; intro gg cg w5 hown5 hgrow hat hlt5))))
                | fail "region"
              have HO5 := keepf hown5
              have HG5 := keepf hgrow
              have HA5 := keepf hat
              clear hown5 hgrow hat hlt5
              go_wp2_with fail
              go_roundw
              case rel =>
                have HG6 := HG5.out
                refine ⟨k + 1, some ⟨gg, 0, none⟩, cg, by omega, by go_num, rfl, ?_, ?_, ?_⟩
                · show w5.ownsRow _ _ _ _ _ _
                  rw [HTK.out, xcells_app, show xcells [(s, v)] = encX (s, v) from by simp [xcells]]
                  exact HO5.out
                · exact grow_chg HCH.out HF.out (((Chg.refl NoS wr).alloc _).drew) HG5.out
                · rintro a h
                  injection h with h
                  subst h
                  have hs := HCH.out.size
                  show w1.heap.size ≤ gg
                  rcases HA5.out with h3 | h3
                  · rcases A2 with _ | a2
                    · simp [Value.ownBlock] at h3
                    · have h4 := HF.out a2 rfl
                      simp [Value.ownBlock] at h3
                      omega
                  · omega
              case measure => simp [intOf]; omega
            · obtain rfl : m = k := by omega
              have h := src_own HO.out
              rw [List.take_of_length_le (by have := HM.out; omega)] at h
              have HRL := keepf (rlen_ok R A2 c2 wr (by rw [← HM.out]; exact h) HOK.out.2 (by rw [HOK.out.1, ← HN.out]; omega))
              rw [HOK.out.1, ← HN.out, ← HM.out] at HRL
              clear h
              have dn : ((n : Int) != n) = false := by simp
              go_wp2_with ((go_at_call 23; refine HRL.out.mono ?_; rintro e w3 ⟨A3, c3, rfl, hO3, hC3⟩; have HO3 := keepf hO3; have HC3 := keepf ((HC1.out.trans HCH.out (fun _ _ h => h)).trans hC3 (fun _ _ h => h)); clear hO3 hC3))
              have HS3 := keepf (HS.out.below (w0 := w) HC3.out)
              go_loopw [10] (fun v wr => ∃ k : Nat, k ≤ n ∧ v = .int .i64 k ∧ Hid (Chg NoS w3 wr)) (fun v _ => n - (intOf v).toNat)
              case atStart => exact ⟨0, Nat.zero_le _, rfl, Chg.refl _ _⟩
              case round =>
                obtain ⟨j, hj, rfl, HJ⟩ := hrel
                by_cases hlt3 : j < n
                · obtain ⟨z, hz⟩ : ∃ z, xs[j]? = some z := ⟨_, List.getElem?_eq_getElem (by have := HN.out; omega)⟩
                  obtain ⟨b, off, rfl, hcell⟩ := (HS3.out.below (w0 := w3) HJ.out).plain (by rw [icells_len]; have := HN.out; omega)
                  obtain ⟨b2, off2, rfl, hcell2⟩ := ((src_own HO3.out).below (w0 := w3) HJ.out).plain (by rw [icells_len]; have := HN.out; omega)
                  have c0 := hcell j _ (icells_get hz)
                  have c2' := hcell2 j _ (icells_get hz)
                  have q1 : (z != z) = false := by simp
                  clear hcell hcell2 hz
                  go_upto_region 22 with fail
                  go_quiet (fail)
                  try go_wp2_with fail
                  go_roundw
                  case rel => exact ⟨j + 1, by omega, by go_num, HJ.out.drewN nq⟩
                  case measure => simp [intOf]; omega
                · go_wp2_with ((go_at_call 8; refine (works_any7 _).mono ?_; rintro e wz ⟨rfl, hcz⟩; have HCz := keepf hcz; clear hcz))
                  go_ret
                  exact ⟨rfl, ((HC3.out.trans HJ.out (fun _ _ h => h)).trans HCz.out (fun _ _ h => h)).no_below⟩
  · have d1 : decide ((400 : Int) < n) = true := by simp; omega
    go_enter Tryz.func7, Tryz.ntmps7
    go_wp2_with ((go_at_call 8; refine (works_any7 _).mono ?_; rintro e wz ⟨rfl, hcz⟩; have HCz := keepf hcz; clear hcz))
    go_ret
    exact ⟨rfl, HCz.out.no_below⟩

set_option maxRecDepth 100000 in
theorem lifted (os : Os) (started : os.Started) (H : Type) (enc : TypeId × Value → H) :
    ReturnsInHanded {} Tryz.checked os 7 .any (Rows.deflateRunsSpec.pre6 enc Tryz.prog Tryz.f7 Rows.deflateRunsRow.domain false) (Rows.deflateRunsSpec.post enc Tryz.prog Tryz.f7 false true false false) := by
  refine returnsInHanded_of_change (C := Tryz.checked) own started (by kernel_rfl) Tryz.func7
    (ChangeSpec.witness6 (enc := enc) (C := Tryz.checked) false ⟨#[], #[.slice none 0 0], []⟩ 8 (by kernel_rfl) (by kernel_rfl) (by kernel_rfl) (by kernel_rfl)) ?_
  intro W base args ds gs before hval0 hW hcnd _
  have hval : ∀ (j : Nat) t v, Tryz.f7.params[j]? = some t → args[j]? = some v → Value.okWide Tryz.prog W .any base t v := hval0
  have hW' := hW
  obtain ⟨p, q, hA0, hV, rfl, hfz, hnd⟩ := hW
  have hA : DataW.TrodAll enc Tryz.prog W 0 (fun _ => true) true Tryz.f7.params.toList args.toList ds p := hA0
  rw [Tryz.params7] at hA hval
  obtain ⟨v0, vs0, d0, ds0, p0, q0, hargs, rfl, rfl, h0, r0⟩ := trodAll_cons hA
  obtain ⟨rfl, rfl, rfl⟩ := trodAll_nil r0
  obtain rfl : args = #[v0] := by cases args; simp_all
  obtain ⟨rfl, rfl⟩ := trodVars_none hV
  obtain ⟨a0, len0, cap0, rfl⟩ := okWide_slice Tryz.underlying34 (hval 0 34 v0 rfl rfl)
  have k0 := h0
  have lt0 : ∀ x ∈ p0, x.block < W.heap.size := by obtain ⟨m, hm⟩ := k0; exact DataW.trod_lt m _ _ _ hm
  obtain ⟨hm0, xs0, hl0, hS0, hg0⟩ : len0 ≤ maxLen ∧ ∃ xs : List Int, xs.length = len0 ∧ Src W 1 a0 len0 cap0 (xs.flatMap encI) ∧ ∀ b ∈ xs, goodI b := by
    obtain ⟨fuel, hf⟩ := h0
    exact open_rows encI goodI 1 Tryz.underlying34 (by kernel_rfl) (fun _ => rfl) (fun n cs y h _ => int_el h) (by simpa [Value.cells] using hf)
  have hc0 : len0 ≤ cap0 := by
    obtain ⟨fuel, hf⟩ := h0
    exact open_cap Tryz.underlying34 (by simpa [Value.cells] using hf)
  clear hA0 hval0
  refine (walk a0 len0 cap0 xs0 W hl0 hm0 hS0 hg0 hc0).mono fun e W' ⟨he, bel⟩ => ?_
  subst he
  exact ⟨_, rfl, _, _, _, [], _, [], hW', trodAll_mk1 (shut_bool Tryz.underlying4 _), (trodAll_cons_mk (Below.trod laidOut (by kernel_rfl) (of_decide_eq_true (by kernel_rfl)) k0 bel lt0) trodAll_mk0), rfl, bel.frame _, fun h => by cases h⟩

theorem over : Rows.deflateRunsRow.holds Tryz.pinned (OpenSpec.ofChange Rows.deflateRunsSpec) :=
  OpenClaim.holds_of_wide 7 Tryz.f7 rfl rfl rfl rfl rfl rfl rfl ⟨rfl, rfl, rfl, rfl, rfl⟩ rfl rfl rfl rfl rfl (by kernel_rfl) Tryz.func7 (by kernel_rfl)
    (of_decide_eq_true (by kernel_rfl)) (by unfold Func.isWrapper; first | (rw [if_pos (by decide +kernel)]; kernel_rfl) | (rw [if_neg (by decide +kernel)]; exact ⟨rfl, rfl⟩))
    (fun os started H enc _ => lifted os started H enc)

theorem proved : Rows.DeflateRunsSaid := over
#print axioms proved
end Go.Proofs.YtlijfdflghepcaaGreat.druns
