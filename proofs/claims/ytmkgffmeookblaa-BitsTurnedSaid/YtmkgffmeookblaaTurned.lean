/- 'BitsTurned': for every input the statement's function returns true: single bits written from one end are, byte by byte turned round, those written from the other end. Conditions: none. -/
import Derived.Test.YtmkgffmeookblaaWorks
import Derived.Test.YtmkgffmeookblaaOpen
import Derived.Test.YtmkgffmeookblaaRows
import Derived.OpenShut
import Derived.ChangeOld
namespace Go.Proofs.Ytmkgffmeookblaa.turned
open Go.RowKit Go.ChangeShapes Go.WideShapes Go.ChangeAt
set_option linter.unusedVariables false

theorem own : ownKnob Try.prog.godebug = none := by kernel_rfl
theorem laidOut : laidOutB Try.prog = true := by kernel_rfl

/-- Two writers apart, both behind the world w, one from each end, with the same bits. -/
structure Two (w wr : World) (L M : List Bool) (S1 S2 : Value) : Prop where
  a : Wr wr w.heap.size true L S1
  b : Wr wr (w.heap.size + 1) false M S2
  c : Chg NoS w wr
  ha : ∀ i, WS w.heap.size S1 i → w.heap.size ≤ i
  hb : ∀ i, WS (w.heap.size + 1) S2 i → w.heap.size ≤ i
  d : ∀ i, WS w.heap.size S1 i → ¬ WS (w.heap.size + 1) S2 i

theorem Two.put1 {w wr w' : World} {L L' M : List Bool} {S1 S2 : Value} {e : Ending} (h : Two w wr L M S1 S2) (hp : PutTo wr w.heap.size true L' S1 e w') :
    e = .returned (.int .i64 0) ∧ ∃ S1', Two w w' L' M S1' S2 := by
  obtain ⟨he, S', hW, hc, hf⟩ := hp.got
  refine ⟨he, S', hW, h.b.chg hc (fun i hi hn => h.d i hn hi), h.c.trans hc (fun i hi hn => by have := h.ha i hn; omega), fun i hi => ?_, h.hb, fun i hi hn => ?_⟩
  · rcases hf i hi with h1 | h1
    · exact h.ha i h1
    · have := h.c.size; omega
  · rcases hf i hi with h1 | h1
    · exact h.d i h1 hn
    · have := h.b.lt i hn; omega

theorem Two.put2 {w wr w' : World} {L M M' : List Bool} {S1 S2 : Value} {e : Ending} (h : Two w wr L M S1 S2) (hp : PutTo wr (w.heap.size + 1) false M' S2 e w') :
    e = .returned (.int .i64 0) ∧ ∃ S2', Two w w' L M' S1 S2' := by
  obtain ⟨he, S', hW, hc, hf⟩ := hp.got
  refine ⟨he, S', h.a.chg hc (fun i hi hn => h.d i hi hn), hW, h.c.trans hc (fun i hi hn => by have := h.hb i hn; omega), h.ha, fun i hi => ?_, fun i hi hn => ?_⟩
  · rcases hf i hi with h1 | h1
    · exact h.hb i h1
    · have := h.c.size; omega
  · rcases hf i hn with h1 | h1
    · exact h.d i hi h1
    · have := h.a.lt i hi; omega

theorem one_bit (high b : Bool) (x : Nat) (hx : x = if b then 1 else 0) : numBits high x 1 = [b] := by
  subst hx
  cases high <;> cases b <;> decide

/-- A byte from one end is the byte from the other end turned round. -/
theorem turned_bit (L : List Bool) (i j : Nat) (hj : j < 8) : (byteAt true L i).testBit j = (byteAt false L i).testBit (7 - j) := by
  rw [byteAt, byteAt, obf_bit, obf_bit]
  simp [rowAt, hj, show 7 - j < 8 from by omega]

set_option maxHeartbeats 2000000 in
set_option maxRecDepth 100000 in
theorem walk (A : Option Addr) (len cap : Nat) (bs : List Bool) (w : World) (hl : bs.length = len) (hm : len ≤ maxLen) (hS : Src w 1 A len cap (bs.flatMap fun b => [.bool b])) :
    Calls Try.prog 6 #[.slice A len cap] w fun e w' => e = .returned (.bool true) ∧ Below w.heap.size w w' := by
  unfold maxLen at hm
  have HS := keepf hS
  have HL := keepf hl
  clear hS hl
  have HT := keepf (show Two w ((w.alloc (.cells #[.bool true, .bool true, .int .i64 0, .slice none 0 0] 51)).alloc (.cells #[.bool true, .bool false, .int .i64 0, .slice none 0 0] 51)) [] [] (.slice none 0 0) (.slice none 0 0) from by
    have hB := wr_new false (w.alloc (.cells #[.bool true, .bool true, .int .i64 0, .slice none 0 0] 51))
    simp only [World.size_alloc] at hB
    refine ⟨(wr_new true w).chg (T := NoS) ((Chg.refl _ _).alloc _) (fun _ _ h => h), hB, ((Chg.refl _ _).alloc _).alloc _, ?_, ?_, ?_⟩
    · rintro i (h | h)
      · omega
      · simp [Value.ownBlock] at h
    · rintro i (h | h)
      · omega
      · simp [Value.ownBlock] at h
    · rintro i (h | h) (h' | h')
      · omega
      all_goals simp [Value.ownBlock] at h h')
  go_enter Try.func6, Try.ntmps6
  go_wp2_with fail
  refine (new_any true _).mono ?_
  rintro e w' ⟨rfl, rfl⟩
  go_wp2_with fail
  refine (new_any false _).mono ?_
  rintro e w' ⟨rfl, rfl⟩
  go_wp2_with fail
  go_loopw [5] (fun i wr => ∃ (k : Nat) (S1 S2 : Value), k ≤ len ∧ k ≤ 300 ∧ i = .int .i64 k ∧ Two w wr (bs.take k) (bs.take k) S1 S2) (fun i _ => len - (intOf i).toNat)
  case atStart => exact ⟨0, _, _, Nat.zero_le _, Nat.zero_le _, rfl, HT.out⟩
  case round =>
    obtain ⟨k, S1, S2, hk, hk3, rfl, hT⟩ := hrel
    have HT2 := keepf hT
    clear hT HT
    by_cases hlt : k < len ∧ k < 300
    · obtain ⟨hlt1, hlt2⟩ := hlt
      have hin := HS.out.plain (by rw [flat_len _ 1 (by intro p; rfl), HL.out]; omega)
      obtain ⟨b, off, rfl, hcell⟩ := hin
      have hlb : k < bs.length := by have := HL.out; omega
      have hc := hcell k (.bool bs[k]) (by have := flat_get (fun b : Bool => [Value.bool b]) 1 (fun _ => rfl) bs k 0 bs[k] (by simp [hlb]) (by omega); simpa using this)
      have hck := (HT2.out.c.cell (p := ⟨b, off + k, none⟩) (by exact cell_lt hc) (fun h => h)).trans hc
      have htake : bs.take (k + 1) = bs.take k ++ [bs[k]] := by simp
      obtain ⟨bk, hbk⟩ : ∃ bk, bk = bs[k] := ⟨_, rfl⟩
      rw [← hbk] at hck htake
      have HTK := keepf htake
      clear hcell hc htake hbk hlb
      cases bk
      · go_wp2_with fail
        refine (put_ok w.heap.size true (bs.take k) S1 0 1 _ HT2.out.a (by simp; omega) (by omega) (by omega)).mono ?_
        intro e w3 hp
        obtain ⟨rfl, S1', hT3⟩ := HT2.out.put1 hp
        have HT3 := keepf hT3
        clear hp hT3
        go_wp2_with fail
        refine (put_ok (w.heap.size + 1) false (bs.take k) S2 0 1 _ HT3.out.b (by simp; omega) (by omega) (by omega)).mono ?_
        intro e w4 hp
        obtain ⟨rfl, S2', hT4⟩ := HT3.out.put2 hp
        have HT4 := keepf hT4
        clear hp hT4
        go_wp2
        go_roundw
        case rel => exact ⟨k + 1, S1', S2', by omega, by omega, by go_num, by rw [HTK.out]; exact HT4.out⟩
        case measure => simp [intOf]; omega
      · go_wp2_with fail
        refine (put_ok w.heap.size true (bs.take k) S1 1 1 _ HT2.out.a (by simp; omega) (by omega) (by omega)).mono ?_
        intro e w3 hp
        obtain ⟨rfl, S1', hT3⟩ := HT2.out.put1 hp
        have HT3 := keepf hT3
        clear hp hT3
        go_wp2_with fail
        refine (put_ok (w.heap.size + 1) false (bs.take k) S2 1 1 _ HT3.out.b (by simp; omega) (by omega) (by omega)).mono ?_
        intro e w4 hp
        obtain ⟨rfl, S2', hT4⟩ := HT3.out.put2 hp
        have HT4 := keepf hT4
        clear hp hT4
        go_wp2
        go_roundw
        case rel => exact ⟨k + 1, S1', S2', by omega, by omega, by go_num, by rw [HTK.out]; exact HT4.out⟩
        case measure => simp [intOf]; omega
    · have hLk : (bs.take k).length ≤ 300 := by simp; omega
      generalize hL : bs.take k = L at *
      have hcase : k = len ∨ (k < len ∧ k = 300) := by omega
      clear HS HL hL
      rcases hcase with rfl | ⟨hk1, rfl⟩
      all_goals
        go_wp2_with fail
        refine (bytes_any w.heap.size true L S1 _ HT2.out.a (by omega)).mono ?_
        rintro e w3 ⟨A1, cap1, rfl, hown1, hc1, hf1⟩
        have HB := keepf (HT2.out.b.chg hc1 (fun _ _ h => h))
        have HC := keepf (HT2.out.c.trans hc1 (fun _ _ h => h))
        have HO1 := keepf hown1
        clear hown1 hc1 hf1
        go_wp2_with fail
        refine (bytes_any (w.heap.size + 1) false L S2 _ HB.out (by omega)).mono ?_
        rintro e w4 ⟨A2, cap2, rfl, hown2, hc2, hf2⟩
        have HC2 := keepf (HC.out.trans hc2 (fun _ _ h => h))
        have HO3 := keepf (own_chg HO1.out hc2 (fun _ _ h => h))
        have HO2 := keepf hown2
        clear hown2 hc2 hf2 HT2 HB HC HO1
        have hm8 : nby L.length ≤ 38 := by unfold nby; omega
        generalize hmm : nby L.length = m at *
        go_wp2_with fail
        go_loopw [9] (fun i wr => ∃ q nq : Nat, q ≤ m ∧ i = .int .i64 q ∧ w4.drewN nq = wr) (fun i _ => m - (intOf i).toNat)
        case atStart => exact ⟨0, 0, Nat.zero_le _, rfl, rfl⟩
        case round =>
          obtain ⟨q, nq, hq, rfl, rfl⟩ := hrel
          by_cases hqm : q < m
          · obtain ⟨ga, ca, hA1, _, _⟩ := own_form HO3.out (by omega)
            obtain ⟨gb, cb, hA2, _, _⟩ := own_form HO2.out (by omega)
            simp only [Value.slice.injEq, true_and] at hA1 hA2
            obtain ⟨rfl, rfl⟩ := hA1
            obtain ⟨rfl, rfl⟩ := hA2
            have c1 := HO3.out.cellAt q (by omega)
            have c2 := HO2.out.cellAt q (by omega)
            have hg1 : (bcells true L)[q]? = some (.int .u8 (byteAt true L q : Nat)) := by
              have := bytesOf_get true L q (by omega)
              simp [bcells, this]
            have hg2 : (bcells false L)[q]? = some (.int .u8 (byteAt false L q : Nat)) := by
              have := bytesOf_get false L q (by omega)
              simp [bcells, this]
            rw [hg1] at c1
            rw [hg2] at c2
            have l1 := byteAt_lt true L q
            have l2 := byteAt_lt false L q
            have HTB := keepf (turned_bit L q)
            clear hg1 hg2
            generalize byteAt true L q = x1 at *
            generalize byteAt false L q = x2 at *
            go_wp2_with fail
            go_loopw [10] (fun i wr => ∃ j nq : Nat, j ≤ 8 ∧ i = .int .i64 j ∧ w4.drewN nq = wr) (fun i _ => 8 - (intOf i).toNat)
            case atStart => exact ⟨0, _, Nat.zero_le _, rfl, rfl⟩
            case round =>
              obtain ⟨j, nq2, hj, rfl, rfl⟩ := hrel
              by_cases hj8 : j < 8
              · have hsub : IntKind.i64.wrap (7 - (j : Int)) = 7 - (j : Int) := by rw [IntKind.wrap_i64]; omega
                have hsub0 : (0 : Int) ≤ 7 - (j : Int) := by omega
                have hbb : (x1.testBit j == x2.testBit (7 - j)) = true := by rw [HTB.out j hj8]; simp
                go_upto_region 19 with fail
                go_quiet ((go_at_call 22; exact quiet_left_add (bit_any _ _ _ (by omega) (by omega) (by omega))))
                go_wp2
                go_roundw
                case rel => exact ⟨j + 1, _, by omega, by go_num, rfl⟩
                case measure => simp [intOf]; omega
              · go_wp2_with fail
                go_roundw
                case rel => exact ⟨q + 1, nq2, by omega, by go_num, rfl⟩
                case measure => simp [intOf]; omega
          · obtain rfl : q = m := by omega
            go_wp2_with fail
            refine (works_any _).mono ?_
            rintro e w6 ⟨rfl, hc6⟩
            have HC6 := keepf ((HC2.out.drewN nq).trans hc6 (fun _ _ h => h))
            clear hc6
            go_wp2
            go_ret
            exact ⟨rfl, HC6.out.no_below⟩

set_option maxRecDepth 100000 in
theorem lifted (os : Os) (started : os.Started) (H : Type) (enc : TypeId × Value → H) :
    ReturnsInHanded {} Try.checked os 6 .any (Rows.bitsTurnedSpec.pre6 enc Try.prog Try.f6 Rows.bitsTurnedRow.domain false) (Rows.bitsTurnedSpec.post enc Try.prog Try.f6 false true false false) := by
  refine returnsInHanded_of_change (C := Try.checked) own started (by kernel_rfl) Try.func6
    (ChangeSpec.witness6 (enc := enc) (C := Try.checked) false ⟨#[], #[.slice none 0 0], []⟩ 8 (by kernel_rfl) (by kernel_rfl) (by kernel_rfl) (by kernel_rfl)) ?_
  intro W base args ds gs before hval0 hW hcnd _
  have hval : ∀ (j : Nat) t v, Try.f6.params[j]? = some t → args[j]? = some v → Value.okWide Try.prog W .any base t v := hval0
  have hW' := hW
  obtain ⟨p, q, hA0, hV, rfl, hfz, hnd⟩ := hW
  have hA : DataW.TrodAll enc Try.prog W 0 (fun _ => true) true Try.f6.params.toList args.toList ds p := hA0
  rw [Try.params6] at hA hval
  obtain ⟨v0, vs0, d0, ds0, p0, q0, hargs, rfl, rfl, h0, r0⟩ := trodAll_cons hA
  obtain ⟨rfl, rfl, rfl⟩ := trodAll_nil r0
  obtain rfl : args = #[v0] := by cases args; simp_all
  obtain ⟨rfl, rfl⟩ := trodVars_none hV
  obtain ⟨a0, len0, cap0, rfl⟩ := okWide_slice Try.underlying25 (hval 0 25 v0 rfl rfl)
  have k0 := h0
  have lt0 : ∀ x ∈ p0, x.block < W.heap.size := by obtain ⟨m, hm⟩ := k0; exact DataW.trod_lt m _ _ _ hm
  obtain ⟨hm0, bs, hl0, hS0, _⟩ : len0 ≤ maxLen ∧ ∃ bs : List Bool, bs.length = len0 ∧ Src W 1 a0 len0 cap0 (bs.flatMap fun b => [.bool b]) ∧ ∀ b ∈ bs, True := by
    obtain ⟨fuel, hf⟩ := h0
    exact open_rows (fun b : Bool => [Value.bool b]) (fun _ => True) 1 Try.underlying25 (by kernel_rfl) (fun _ => rfl) (fun n cs y h _ => by
      obtain ⟨b, rfl, _⟩ := DataW.trod_bool Try.underlying4 h
      exact ⟨b, rfl, trivial⟩) (by simpa [Value.cells] using hf)
  clear hA0 hval0
  refine (walk a0 len0 cap0 bs W hl0 hm0 hS0).mono fun e W' ⟨he, bel⟩ => ?_
  subst he
  exact ⟨_, rfl, _, _, _, [], _, [], hW', trodAll_mk1 (shut_bool Try.underlying4 _), (trodAll_cons_mk (Below.trod laidOut (by kernel_rfl) (of_decide_eq_true (by kernel_rfl)) k0 bel lt0) trodAll_mk0), rfl, bel.frame _, fun h => by cases h⟩

theorem over : Rows.bitsTurnedRow.holds Try.pinned (OpenSpec.ofChange Rows.bitsTurnedSpec) :=
  OpenClaim.holds_of_wide 6 Try.f6 rfl rfl rfl rfl rfl rfl rfl ⟨rfl, rfl, rfl, rfl, rfl⟩ rfl rfl rfl rfl rfl (by kernel_rfl) Try.func6 (by kernel_rfl)
    (of_decide_eq_true (by kernel_rfl)) (by unfold Func.isWrapper; first | (rw [if_pos (by decide +kernel)]; kernel_rfl) | (rw [if_neg (by decide +kernel)]; exact ⟨rfl, rfl⟩))
    (fun os started H enc _ => lifted os started H enc)

theorem proved : Rows.BitsTurnedSaid := over
#print axioms proved
end Go.Proofs.Ytmkgffmeookblaa.turned
