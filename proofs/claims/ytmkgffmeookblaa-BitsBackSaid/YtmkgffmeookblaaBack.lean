/- 'BitsBack': for every input the statement's function returns true: what is put is got, in the same widths, and the rest of the last byte is 0. Conditions: none. -/
import Derived.Test.YtmkgffmeookblaaParts
import Derived.Test.YtmkgffmeookblaaRows
import Derived.OpenShut
import Derived.ChangeOld
namespace Go.Proofs.Ytmkgffmeookblaa.back
open Go.RowKit Go.ChangeShapes Go.WideShapes Go.ChangeAt
set_option linter.unusedVariables false

theorem own : ownKnob Try.prog.godebug = none := by kernel_rfl
theorem laidOut : laidOutB Try.prog = true := by kernel_rfl

/-- A part that may be put. -/
def okP (p : Nat × Int) : Prop := 0 ≤ p.2 ∧ p.2 ≤ 32 ∧ p.1 < 2 ^ p.2.toNat
def bitsP (high : Bool) (ps : List (Nat × Int)) : List Bool := ps.flatMap fun p => numBits high p.1 p.2.toNat

theorem bitsP_le (high : Bool) : ∀ ps : List (Nat × Int), (∀ p ∈ ps, okP p) → (bitsP high ps).length ≤ 32 * ps.length
  | [], _ => by simp [bitsP]
  | p :: ps, h => by
    have h1 := bitsP_le high ps (fun q hq => h q (List.mem_cons_of_mem _ hq))
    have h2 := h p (List.mem_cons_self ..)
    have h3 := h2.2.1
    have h4 := h2.1
    simp only [bitsP, List.flatMap_cons, List.length_append, numBits_length, List.length_cons] at h1 ⊢
    omega

/-- Behind k parts: those that were put are in the writer, and in a row of their own. -/
structure St (w wr : World) (high : Bool) (ins : List (Nat × Int)) (S Sin : Value) (k : Nat) : Prop where
  a : Wr wr w.heap.size high (bitsP high ins) S
  i : wr.ownsRow 0 29 2 Sin ins.length (ins.flatMap encP)
  c : Chg NoS w wr
  ha : ∀ i, WS w.heap.size S i → w.heap.size ≤ i
  hi : ∀ i, Sin.ownBlock = some i → w.heap.size ≤ i
  d : ∀ i, WS w.heap.size S i → Sin.ownBlock ≠ some i
  ok : ∀ p ∈ ins, okP p
  le : ins.length ≤ k

theorem St.drew {w wr : World} {high : Bool} {ins : List (Nat × Int)} {S Sin : Value} {k : Nat} (h : St w wr high ins S Sin k) : St w wr.drew high ins S Sin k :=
  ⟨h.a, h.i, h.c.drew, h.ha, h.hi, h.d, h.ok, h.le⟩

theorem St.put {w wr w' : World} {high : Bool} {ins : List (Nat × Int)} {S Sin : Value} {k : Nat} {e : Ending} {L' : List Bool} (h : St w wr high ins S Sin k) (hp : PutTo wr w.heap.size high L' S e w') :
    e = .returned (.int .i64 0) ∧ ∃ S', Wr w' w.heap.size high L' S' ∧ w'.ownsRow 0 29 2 Sin ins.length (ins.flatMap encP) ∧ Chg NoS w w' ∧ (∀ i, WS w.heap.size S' i → w.heap.size ≤ i) ∧ (∀ i, WS w.heap.size S' i → Sin.ownBlock ≠ some i) := by
  obtain ⟨he, S', hW, hc, hf⟩ := hp.got
  refine ⟨he, S', hW, own_chg h.i hc (fun i hi hn => h.d i hn hi), h.c.trans hc (fun i hi hn => by have := h.ha i hn; omega), fun i hi => ?_, fun i hi hn => ?_⟩
  · rcases hf i hi with h1 | h1
    · exact h.ha i h1
    · have := h.c.size; omega
  · rcases hf i hi with h1 | h1
    · exact h.d i h1 hn
    · have := own_lt h.i hn; omega

theorem bitsP_snoc (high : Bool) (ins : List (Nat × Int)) (p : Nat × Int) : bitsP high (ins ++ [p]) = bitsP high ins ++ numBits high p.1 p.2.toNat := by
  simp [bitsP]

theorem St.add {w w3 w2 : World} {high : Bool} {ins : List (Nat × Int)} {S' Sin S2 : Value} {k x n : Nat} {o : Obj} (hW : Wr w3 w.heap.size high (bitsP high ins ++ numBits high x n) S') (hi3 : w3.ownsRow 0 29 2 Sin ins.length (ins.flatMap encP))
    (hc : Chg NoS w w3) (ha : ∀ i, WS w.heap.size S' i → w.heap.size ≤ i) (hd : ∀ i, WS w.heap.size S' i → Sin.ownBlock ≠ some i) (hi : ∀ i, Sin.ownBlock = some i → w.heap.size ≤ i)
    (hok : ∀ p ∈ ins, okP p) (hle : ins.length ≤ k) (hn : n ≤ 32) (hx : x < 2 ^ n)
    (hg : (w3.alloc o).grownBy w2 Sin.ownBlock) (hO : w2.ownsRow 0 29 2 S2 (ins.length + 1) (ins.flatMap encP ++ encP (x, (n : Int)))) (hat : S2.ownBlock = Sin.ownBlock ∨ S2.ownBlock = some (w3.alloc o).heap.size) :
    St w w2 high (ins ++ [(x, (n : Int))]) S' S2 (k + 1) := by
  have hc2 : Chg (fun i => Sin.ownBlock = some i) w3 w2 := ((Chg.refl _ w3).alloc o).grown hg (fun i e _ => e)
  have hcw := hc.trans hc2 (fun i h1 h2 => by have := hi i h2; omega)
  refine ⟨?_, ?_, hcw, ha, fun i h => ?_, fun i h h' => ?_, fun p hp => ?_, by simp; omega⟩
  · rw [bitsP_snoc]
    exact hW.chg hc2 (fun i h => hd i h)
  · simpa using hO
  · rcases hat with e | e
    · exact hi i (e ▸ h)
    · rw [e] at h
      injection h with h
      have := hc.size
      simp at h
      omega
  · rcases hat with e | e
    · exact hd i h (e ▸ h')
    · rw [e] at h'
      injection h' with h'
      have := hW.lt i h
      simp at h'
      omega
  · rcases List.mem_append.1 hp with hp | hp
    · exact hok p hp
    · simp at hp
      subst hp
      exact ⟨by simp, by simp; omega, by simpa using hx⟩

theorem bytesOf_lt (high : Bool) (L : List Bool) : ∀ b ∈ bytesOf high L, b < 256 := by
  intro b hb
  obtain ⟨i, _, rfl⟩ := List.mem_map.1 hb
  exact byteAt_lt high L i

theorem bitsP_split (high : Bool) (ins : List (Nat × Int)) (q : Nat) (p : Nat × Int) (h : ins[q]? = some p) :
    bitsP high ins = bitsP high (ins.take q) ++ (numBits high p.1 p.2.toNat ++ bitsP high (ins.drop (q + 1))) := by
  obtain ⟨hq, rfl⟩ := List.getElem?_eq_some_iff.1 h
  have e : ins = ins.take q ++ (ins[q] :: ins.drop (q + 1)) := by simp
  have h1 : bitsP high ins = bitsP high (ins.take q ++ (ins[q] :: ins.drop (q + 1))) := by rw [← e]
  rw [h1]
  simp only [bitsP, List.flatMap_append, List.flatMap_cons]

theorem bitsP_take (high : Bool) (ins : List (Nat × Int)) (q : Nat) (p : Nat × Int) (h : ins[q]? = some p) :
    (bitsP high (ins.take (q + 1))).length = (bitsP high (ins.take q)).length + p.2.toNat := by
  obtain ⟨hq, rfl⟩ := List.getElem?_eq_some_iff.1 h
  rw [List.take_succ_eq_append_getElem hq, bitsP_snoc, List.length_append, numBits_length]

/-- In the second loop: the reader stands behind the parts that were got. -/
structure Rs (w wr : World) (high : Bool) (ins : List (Nat × Int)) (Sin : Value) (gr : Nat) (Sr : Value) (q : Nat) : Prop where
  r : Rd wr gr high (bytesOf high (bitsP high ins)) (bitsP high (ins.take q)).length Sr
  i : wr.ownsRow 0 29 2 Sin ins.length (ins.flatMap encP)
  c : Chg NoS w wr
  g : w.heap.size ≤ gr
  d : Sin.ownBlock ≠ some gr

theorem Rs.got {w wr w' : World} {high : Bool} {ins : List (Nat × Int)} {Sin Sr : Value} {gr q n : Nat} {p : Nat × Int} {e : Ending} (h : Rs w wr high ins Sin gr Sr q) (hp : ins[q]? = some p) (hok : okP p) (hn : p.2.toNat = n)
    (hG : GetTo wr gr high (bytesOf high (bitsP high ins)) (bitsP high (ins.take q)).length n Sr e w') :
    e = .returned (.tuple #[.int .u32 (p.1 : Nat), .int .i64 0]) ∧ Rs w w' high ins Sin gr Sr (q + 1) := by
  obtain ⟨rfl, hR, hc⟩ := hG
  have hx := numAt_put high (bitsP high (ins.take q)) (bitsP high (ins.drop (q + 1))) p.1 p.2.toNat hok.2.2
  rw [← bitsP_split high ins q p hp, hn] at hx
  refine ⟨by rw [hx], ?_, own_chg h.i hc (fun i hi he => h.d (by rw [hi, he])), h.c.trans hc (fun i hi he => by have := h.g; omega), h.g, h.d⟩
  rw [bitsP_take high ins q p hp, hn]
  exact hR

set_option maxHeartbeats 2000000 in
set_option maxRecDepth 100000 in
theorem walk (high : Bool) (A : Option Addr) (len cap : Nat) (xs : List (Nat × Int)) (w : World) (hl : xs.length = len) (hm : len ≤ maxLen) (hS : Src w 2 A len cap (xs.flatMap encP)) (hg : ∀ p ∈ xs, goodP p) :
    Calls Try.prog 5 #[.bool high, .slice A len cap] w fun e w' => e = .returned (.bool true) ∧ Below w.heap.size w w' := by
  unfold maxLen at hm
  have HS := keepf hS
  have HL := keepf hl
  have HG := keepf hg
  clear hS hl hg
  have hA := keepf (wr_new high w)
  have hc0 := keepf (show Chg NoS w (w.alloc (.cells #[.bool true, .bool high, .int .i64 0, .slice none 0 0] 51)) from (Chg.refl _ _).alloc _)
  go_enter Try.func5, Try.ntmps5
  go_wp2_with fail
  refine (new_any high _).mono ?_
  rintro e w' ⟨rfl, rfl⟩
  go_wp2_with fail
  go_loopw [6, 7] (fun v i wr => ∃ (k : Nat) (ins : List (Nat × Int)) (S : Value), k ≤ len ∧ k ≤ 60 ∧ i = .int .i64 k ∧ St w wr high ins S v k) (fun _ i _ => len - (intOf i).toNat)
  case atStart =>
    refine ⟨0, [], .slice none 0 0, Nat.zero_le _, Nat.zero_le _, rfl, hA.out, own_nil _ _ _ _, hc0.out, ?_, fun i h => ?_, fun i _ h => ?_, fun p h => (by cases h), Nat.le_refl _⟩
    · rintro i (h | h)
      · omega
      · simp [Value.ownBlock] at h
    · simp [Value.ownBlock] at h
    · simp [Value.ownBlock] at h
  case round =>
    obtain ⟨k, ins, S, hk, hk6, rfl, hSt⟩ := hrel
    obtain ⟨A6, cap6, rfl, _⟩ := own_slice hSt.i
    have HT := keepf hSt
    clear hSt hA hc0
    by_cases hlt : k < len ∧ k < 60
    · obtain ⟨hlt1, hlt2⟩ := hlt
      obtain ⟨b, off, rfl, hcell⟩ := HS.out.plain (by rw [flat_len _ 2 (by intro p; rfl), HL.out]; omega)
      have hlb : k < xs.length := by have := HL.out; omega
      obtain ⟨p, hp⟩ : ∃ p, xs[k]? = some p := ⟨_, List.getElem?_eq_getElem hlb⟩
      have hgp := HG.out p (List.mem_of_getElem? hp)
      obtain ⟨x, z⟩ := p
      have e0 := hcell (k * 2 + 0) (.int .u32 x) (by rw [flat_get encP 2 (fun _ => rfl) xs k 0 _ hp (by omega)]; rfl)
      have e1 := hcell (k * 2 + 1) (.int .i64 z) (by rw [flat_get encP 2 (fun _ => rfl) xs k 1 _ hp (by omega)]; rfl)
      have c0 := (HT.out.c.cell (p := ⟨b, off + (k * 2 + 0), none⟩) (by exact cell_lt e0) (fun h => h)).trans e0
      have c1 := (HT.out.c.cell (p := ⟨b, off + (k * 2 + 1), none⟩) (by exact cell_lt e1) (fun h => h)).trans e1
      rw [Nat.add_zero] at c0
      rw [← Nat.add_assoc] at c1
      obtain ⟨hx, hz1, hz2⟩ := hgp
      simp only at hx hz1 hz2
      have E0 := keepf e0
      have E1 := keepf e1
      have HP := keepf hp
      clear hcell e0 e1 hp hlb
      go_upto_region 6 with fail
      refine wp_region_still_tail 11 (by kernel_rfl) (by kernel_rfl) ?_
      simp only [List.take_succ_cons, List.take_zero, List.drop_succ_cons, List.drop_zero]
      change wpStill _ _ wr.drew _ _ _
      repeat still_step
      refine wpStill_nil ?_
      change wpList _ _ _ _ _ wr.drew
      have HTd := keepf HT.out.drew
      by_cases hok : okP (x, z)
      · obtain ⟨hok0, hok1, hok2⟩ := hok
        simp only at hok0 hok1 hok2
        obtain ⟨n, rfl⟩ := Int.eq_ofNat_of_zero_le hok0
        rw [Int.toNat_natCast] at hok2
        have HK := keepf hok2
        clear hok2 hok0
        go_wp2_with fail
        refine (put_ok w.heap.size high (bitsP high ins) S x n _ HTd.out.a (by have := bitsP_le high ins HT.out.ok; have := HT.out.le; omega) (by omega) HK.out).mono ?_
        intro e w3 hp
        obtain ⟨rfl, S', hW3, hi3, hc3, ha3, hd3⟩ := HTd.out.put hp
        have d0 := (hc3.cell (p := ⟨b, off + (k * 2 + 0), none⟩) (by exact cell_lt E0.out) (fun h => h)).trans E0.out
        have d1 := (hc3.cell (p := ⟨b, off + (k * 2 + 1), none⟩) (by exact cell_lt E1.out) (fun h => h)).trans E1.out
        rw [Nat.add_zero] at d0
        rw [← Nat.add_assoc] at d1
        obtain ⟨i0, hi, hz0, hzz1, hzz2⟩ := info_parts info_part
        have HW3 := keepf hW3
        have HI3 := keepf hi3
        have HC3 := keepf hc3
        have HA3 := keepf ha3
        have HD3 := keepf hd3
        clear hp hW3 hi3 hc3 ha3 hd3 c0 c1
        go_wp2_with (first
          | (at_builtin; refine wpList_append_src rfl (.tmp 40) (.tmp 45) 22 rfl 29 i0 (.agg #[.int .u32 0, .int .i64 0]) 2 16 Try.underlying22 hi hz0 hzz1 hzz2 rfl (by decide) (.slice A6 ins.length cap6) _ _ rfl (own_chg (S := NoS) HI3.out ((Chg.refl _ _).alloc _) (fun _ _ h => h)) _ _ _ (encP (x, (n : Int))) rfl (src_two _ _ _ _) (two_one _ _) (by unfold maxLen; have := HT.out.le; omega) (by have := HT.out.le; omega) ?_; intro S2 w2 hown2 hgr hat; obtain ⟨A2, c2, rfl, hA2⟩ := own_slice hown2; have HG2 := keepf hgr; have HO2 := keepf hown2; have HA2 := keepf hat; clear hgr hown2 hat hA2))
        go_roundw
        case rel => exact ⟨k + 1, ins ++ [(x, (n : Int))], S', by omega, by omega, by go_num, St.add HW3.out HI3.out HC3.out HA3.out HD3.out HT.out.hi HT.out.ok HT.out.le (by omega) HK.out HG2.out HO2.out HA2.out⟩
        case measure => simp [intOf]; omega
      · go_wp2_with fail
        refine (put_bad w.heap.size x z _ (by have := HTd.out.a.1.cell 0; simpa using this) hx hz1 hz2 hok).mono ?_
        rintro e w3 ⟨rfl, rfl⟩
        go_wp2_with fail
        go_roundw
        case rel => exact ⟨k + 1, ins, S, by omega, by omega, by go_num, ⟨HTd.out.a, HTd.out.i, HTd.out.c, HTd.out.ha, HTd.out.hi, HTd.out.d, HTd.out.ok, by have := HTd.out.le; omega⟩⟩
        case measure => simp [intOf]; omega
    · have hcase : k = len ∨ (k < len ∧ k = 60) := by omega
      have hin : ins.length ≤ 60 := by have := HT.out.le; omega
      clear HS HL HG
      rcases hcase with rfl | ⟨hk1, rfl⟩
      all_goals
        go_wp2_with fail
        refine (bytes_any w.heap.size high (bitsP high ins) S _ HT.out.a (by have := bitsP_le high ins HT.out.ok; omega)).mono ?_
        rintro e w3 ⟨A3, cap3, rfl, hown3, hc3, hf3⟩
        rw [ucells_bytes] at hown3
        have hi3 := own_chg HT.out.i hc3 (fun _ _ h => h)
        have hcw3 := HT.out.c.trans hc3 (fun _ _ h => h)
        have hok := HT.out.ok
        have hL1 := bitsP_le high ins hok
        have hlb := bytesOf_length high (bitsP high ins)
        have hn8 : nby (bitsP high ins).length ≤ 300 := by unfold nby; omega
        have hrd := read_any high (bytesOf high (bitsP high ins)) A3 cap3 w3 (src_own (by rw [hlb]; exact hown3)) (by omega)
        rw [hlb] at hrd
        have HI3 := keepf hi3
        have HC3 := keepf hcw3
        have HOK := keepf hok
        clear hi3 hcw3 hok hown3 hc3 hf3 HT
        go_wp2_with fail
        refine hrd.mono ?_
        rintro e w4 ⟨gr, Sr, rfl, hR, hc4, hgr, hSr⟩
        have hRs : Rs w w4 high ins (.slice A6 ins.length cap6) gr Sr 0 := ⟨by simpa [bitsP] using hR, own_chg HI3.out hc4 (fun _ _ h => h), HC3.out.trans hc4 (fun _ _ h => h), Nat.le_trans HC3.out.size hgr, fun he => by have := own_lt HI3.out he; omega⟩
        have HRs := keepf hRs
        have HLB := keepf hlb
        clear hrd hR hc4 hgr hSr hRs HI3 HC3 hlb
        go_wp2_with fail
        go_loopw [9] (fun i wr => ∃ q : Nat, q ≤ ins.length ∧ i = .int .i64 q ∧ Rs w wr high ins (.slice A6 ins.length cap6) gr Sr q) (fun i _ => ins.length - (intOf i).toNat)
        case atStart => exact ⟨0, Nat.zero_le _, rfl, HRs.out⟩
        case round =>
          obtain ⟨q, hq, rfl, hRq⟩ := hrel
          have HQ := keepf hRq
          clear hRq HRs
          by_cases hlt : q < ins.length
          · obtain ⟨p, hp⟩ : ∃ p, ins[q]? = some p := ⟨_, List.getElem?_eq_getElem hlt⟩
            have hokp := HOK.out p (List.mem_of_getElem? hp)
            obtain ⟨gi, capi, hA6, _, _⟩ := own_form HQ.out.i (by omega)
            simp only [Value.slice.injEq, true_and] at hA6
            obtain ⟨rfl, rfl⟩ := hA6
            have c1 := HQ.out.i.cellAt (q * 2 + 1) (by omega)
            rw [flat_get encP 2 (fun _ => rfl) ins q 1 _ hp (by omega)] at c1
            obtain ⟨x, z⟩ := p
            have hb1 := bitsP_split high ins q _ hp
            have hb2 := congrArg List.length hb1
            simp only [List.length_append, numBits_length] at hb2
            obtain ⟨n, rfl⟩ := Int.eq_ofNat_of_zero_le hokp.1
            simp only [Int.toNat_natCast] at hb2
            have hn32 : n ≤ 32 := by have := hokp.2.1; simp only at this; omega
            simp [encP] at c1
            have HP := keepf hp
            have HKP := keepf hokp
            have hroom : (bitsP high (ins.take q)).length + n ≤ 8 * (bytesOf high (bitsP high ins)).length := by rw [HLB.out]; unfold nby; omega
            have hsm : (bytesOf high (bitsP high ins)).length ≤ 268435456 := by rw [HLB.out]; omega
            clear hp hokp hb1 hb2
            go_wp2_with fail
            refine (get_ok gr _ n high _ Sr _ HQ.out.r hsm (bytesOf_lt _ _) hn32 hroom).mono ?_
            intro e w5 hG
            obtain ⟨rfl, hR5⟩ := HQ.out.got HP.out HKP.out (by simp) hG
            have c0 := hR5.i.cellAt (q * 2 + 0) (by omega)
            rw [flat_get encP 2 (fun _ => rfl) ins q 0 _ HP.out (by omega)] at c0
            simp [encP] at c0
            have HR5 := keepf hR5
            clear hR5 hG c1
            go_wp2_with fail
            go_roundw
            case rel => exact ⟨q + 1, by omega, by go_num, HR5.out⟩
            case measure => simp [intOf]; omega
          · obtain rfl : q = ins.length := by omega
            have hR := HQ.out.r
            rw [List.take_of_length_le (Nat.le_refl _)] at hR
            obtain ⟨Ar, capr, rfl, _⟩ := own_slice hR.2
            have h0 := hR.1.cell 0
            have h2 := hR.1.cell 2
            have h3 := hR.1.cell 3
            simp at h0 h2 h3
            have hnb : (bytesOf high (bitsP high ins)).length = nby (bitsP high ins).length := HLB.out
            have hge : (bitsP high ins).length ≤ 8 * nby (bitsP high ins).length := by unfold nby; omega
            have hlt8 : 8 * nby (bitsP high ins).length < (bitsP high ins).length + 8 := by unfold nby; omega
            have hsm : (bytesOf high (bitsP high ins)).length ≤ 268435456 := by omega
            obtain ⟨m, hm8⟩ : ∃ m, m = 8 * nby (bitsP high ins).length - (bitsP high ins).length := ⟨_, rfl⟩
            have hlf := left_any gr (bitsP high ins).length (bytesOf high (bitsP high ins)).length capr Ar wr (by omega) (by omega) h0 h2 h3
            rw [show (8 * ((bytesOf high (bitsP high ins)).length : Int) - (bitsP high ins).length) = (m : Int) from by omega] at hlf
            have hm2 : m < 8 := by omega
            have hroom : (bitsP high ins).length + m ≤ 8 * (bytesOf high (bitsP high ins)).length := by omega
            have HR := keepf hR
            have HC := keepf HQ.out.c
            have HGr := keepf HQ.out.g
            clear hR hnb hge hlt8 hm8 hlt hL1 hn8 HQ h0 h2 h3
            go_wp2_with fail
            refine hlf.mono ?_
            rintro e w5 ⟨rfl, nd, rfl⟩
            clear hlf
            go_wp2_with fail
            rw [show ((m : Int) % 8) = (m : Int) from by omega]
            refine (get_ok gr _ m high _ _ _ ⟨HR.out.1.drewN nd, own_drewN HR.out.2 nd⟩ hsm (bytesOf_lt _ _) (by omega) hroom).mono ?_
            rintro e w6 ⟨rfl, hR6, hc6⟩
            rw [numAt_end]
            have HC6 := keepf ((HC.out.drewN nd).trans hc6 (fun i hi he => by have := HGr.out; omega))
            clear hR6 hc6
            go_wp2_with fail
            refine (works_any _).mono ?_
            rintro e w7 ⟨rfl, hc7⟩
            have HC7 := keepf (HC6.out.trans hc7 (fun _ _ h => h))
            clear hc7
            go_wp2
            go_ret
            exact ⟨rfl, HC7.out.no_below⟩

set_option maxRecDepth 100000 in
theorem lifted (os : Os) (started : os.Started) (H : Type) (enc : TypeId × Value → H) :
    ReturnsInHanded {} Try.checked os 5 .any (Rows.bitsBackSpec.pre6 enc Try.prog Try.f5 Rows.bitsBackRow.domain false) (Rows.bitsBackSpec.post enc Try.prog Try.f5 false true false false) := by
  refine returnsInHanded_of_change (C := Try.checked) own started (by kernel_rfl) Try.func5
    (ChangeSpec.witness6 (enc := enc) (C := Try.checked) false ⟨#[], #[.bool false, .slice none 0 0], []⟩ 8 (by kernel_rfl) (by kernel_rfl) (by kernel_rfl) (by kernel_rfl)) ?_
  intro W base args ds gs before hval0 hW hcnd _
  have hval : ∀ (j : Nat) t v, Try.f5.params[j]? = some t → args[j]? = some v → Value.okWide Try.prog W .any base t v := hval0
  have hW' := hW
  obtain ⟨p, q, hA0, hV, rfl, hfz, hnd⟩ := hW
  have hA : DataW.TrodAll enc Try.prog W 0 (fun _ => true) true Try.f5.params.toList args.toList ds p := hA0
  rw [Try.params5] at hA hval
  obtain ⟨v0, vs0, d0, ds0, p0, q0, hargs, rfl, rfl, h0, r0⟩ := trodAll_cons hA
  obtain ⟨v1, vs1, d1, ds1, p1, q1, rfl, rfl, rfl, h1, r1⟩ := trodAll_cons r0
  obtain ⟨rfl, rfl, rfl⟩ := trodAll_nil r1
  obtain rfl : args = #[v0, v1] := by cases args; simp_all
  obtain ⟨rfl, rfl⟩ := trodVars_none hV
  obtain ⟨a0, rfl, rfl, rfl⟩ := open_bool Try.underlying4 (hval 0 4 v0 rfl rfl) h0
  obtain ⟨a1, len1, cap1, rfl⟩ := okWide_slice Try.underlying22 (hval 1 22 v1 rfl rfl)
  have k1 := h1
  have lt1 : ∀ x ∈ p1, x.block < W.heap.size := by obtain ⟨m, hm⟩ := k1; exact DataW.trod_lt m _ _ _ hm
  obtain ⟨hm1, xs1, hl1, hS1, hg1⟩ : len1 ≤ maxLen ∧ ∃ xs : List (Nat × Int), xs.length = len1 ∧ Src W 2 a1 len1 cap1 (xs.flatMap encP) ∧ ∀ b ∈ xs, goodP b := by
    obtain ⟨fuel, hf⟩ := h1
    exact open_rows encP goodP 2 Try.underlying22 (by kernel_rfl) (fun _ => rfl) (fun n cs y h _ => part_el h) (by simpa [Value.cells] using hf)
  clear hA0 hval0
  refine (walk a0 a1 len1 cap1 xs1 W hl1 hm1 hS1 hg1).mono fun e W' ⟨he, bel⟩ => ?_
  subst he
  exact ⟨_, rfl, _, _, _, [], _, [], hW', trodAll_mk1 (shut_bool Try.underlying4 _), (trodAll_cons_mk (shut_bool Try.underlying4 _) (trodAll_cons_mk (Below.trod laidOut (by kernel_rfl) (of_decide_eq_true (by kernel_rfl)) k1 bel lt1) trodAll_mk0)), rfl, bel.frame _, fun h => by cases h⟩

theorem over : Rows.bitsBackRow.holds Try.pinned (OpenSpec.ofChange Rows.bitsBackSpec) :=
  OpenClaim.holds_of_wide 5 Try.f5 rfl rfl rfl rfl rfl rfl rfl ⟨rfl, rfl, rfl, rfl, rfl⟩ rfl rfl rfl rfl rfl (by kernel_rfl) Try.func5 (by kernel_rfl)
    (of_decide_eq_true (by kernel_rfl)) (by unfold Func.isWrapper; first | (rw [if_pos (by decide +kernel)]; kernel_rfl) | (rw [if_neg (by decide +kernel)]; exact ⟨rfl, rfl⟩))
    (fun os started H enc _ => lifted os started H enc)

theorem proved : Rows.BitsBackSaid := over
#print axioms proved
end Go.Proofs.Ytmkgffmeookblaa.back
