/- 'HuffBack': for every input the statement's function returns true: what is put is got, symbol by symbol, by any lengths. Conditions: none. -/
import Derived.Test.YtkhhiaggmncehaaLensIn
import Derived.Test.YtkhhiaggmncehaaBackM
import Derived.Test.YtkhhiaggmncehaaRef
import Derived.Test.YtkhhiaggmncehaaRows
import Derived.OpenShut
import Derived.ChangeOld
import Derived.Lib.SmallJoins
import Derived.BigQuiet
namespace Go.Proofs.Ytkhhiaggmncehaa.hback
open Go.RowKit Go.ChangeShapes Go.WideShapes Go.ChangeAt
set_option linter.unusedVariables false

theorem own : ownKnob Try.prog.godebug = none := by kernel_rfl
theorem laidOut : laidOutB Try.prog = true := by kernel_rfl

def ncells (l : List Nat) : List Value := l.map fun s : Nat => Value.int .i64 (s : Int)
theorem ncells_get {l : List Nat} {k s : Nat} (h : l[k]? = some s) : (ncells l)[k]? = some (.int .i64 (s : Nat)) := by simp [ncells, h]
theorem int_one (s : Int) : ∀ u ∈ [Value.int .i64 s], u.oneCell' = true := by
  intro u hu
  simp at hu
  subst hu
  rfl

/-- The blocks that the call has made lie apart. -/
structure Apt (w : World) (g gw : Nat) (S V : Value) : Prop where
  tab : w.heap.size ≤ g
  wb : ∀ i, WS gw S i → w.heap.size ≤ i ∧ i ≠ g
  row : ∀ i, V.ownBlock = some i → w.heap.size ≤ i ∧ i ≠ g ∧ ¬ WS gw S i

/-- Behind the k-th symbol. -/
structure St (w wr : World) (g gw : Nat) (high : Bool) (ls : List Int) (ins : List Nat) (S V : Value) : Prop where
  t : Tb wr g ls
  tw : Wr wr gw high (symBits ls ins) S
  o : wr.ownsRow 0 3 1 V ins.length (ncells ins)
  c : Chg NoS w wr
  a : Apt w g gw S V
  h : ∀ s ∈ ins, s < ls.length ∧ lenAt ls s ≠ 0

theorem sym_len (ls : List Int) (hk : okL ls) (ins : List Nat) : (symBits ls ins).length ≤ 15 * ins.length := by
  induction ins with
  | nil => simp [symBits]
  | cons s r ih =>
    have h1 := lenAt_le hk s
    have h2 : (symBits ls (s :: r)).length = lenAt ls s + (symBits ls r).length := by simp [symBits, codeBits_len]
    rw [h2, List.length_cons]
    omega

theorem St.put {w wr w4 : World} {g gw : Nat} {high : Bool} {ls : List Int} {ins : List Nat} {S V S' : Value} {s : Nat} (h : St w wr g gw high ls ins S V)
    (hw : Wr w4 gw high (symBits ls ins ++ codeBits ls s) S') (hc : Chg (WS gw S) wr w4) (hf : ∀ i, WS gw S' i → WS gw S i ∨ wr.heap.size ≤ i) :
    Tb w4 g ls ∧ w4.ownsRow 0 3 1 V ins.length (ncells ins) ∧ Chg NoS w w4 ∧ Apt w g gw S' V := by
  refine ⟨h.t.chg hc (fun e => (h.a.wb g e).2 rfl), own_chg h.o hc (fun i hi e => (h.a.row i hi).2.2 e), h.c.trans hc (fun i hi e => by have := (h.a.wb i e).1; omega), h.a.tab, fun i hi => ?_, fun i hi => ?_⟩
  · rcases hf i hi with h1 | h1
    · exact h.a.wb i h1
    · have h2 := h.c.size
      have h3 := h.t.lt
      exact ⟨by omega, by omega⟩
  · have h1 := h.a.row i hi
    refine ⟨h1.1, h1.2.1, fun e => ?_⟩
    rcases hf i e with h2 | h2
    · exact h1.2.2 h2
    · have := own_lt h.o hi; omega

theorem St.app {w wr w4 w5 : World} {g gw : Nat} {high : Bool} {ls : List Int} {ins : List Nat} {V S' V2 : Value} {s : Nat} {ob : Obj}
    (ht : Tb w4 g ls) (hw : Wr w4 gw high (symBits ls ins ++ codeBits ls s) S') (ho : w4.ownsRow 0 3 1 V ins.length (ncells ins)) (hc : Chg NoS w w4) (ha : Apt w g gw S' V) (hh : ∀ s ∈ ins, s < ls.length ∧ lenAt ls s ≠ 0) (hs : s < ls.length ∧ lenAt ls s ≠ 0)
    (hg : (w4.alloc ob).grownBy w5 V.ownBlock) (ho2 : w5.ownsRow 0 3 1 V2 (ins.length + 1) (ncells ins ++ [.int .i64 (s : Nat)])) (hat : V2.ownBlock = V.ownBlock ∨ V2.ownBlock = some (w4.alloc ob).heap.size) :
    St w w5 g gw high ls (ins ++ [s]) S' V2 := by
  have hc5 : Chg (fun i => V.ownBlock = some i) w4 w5 := ((Chg.refl _ w4).alloc ob).grown hg (fun k e _ => e)
  have hz : (w4.alloc ob).heap.size = w4.heap.size + 1 := alloc_size _ _
  refine ⟨ht.chg hc5 (fun e => (ha.row g e).2.1 rfl), ?_, ?_, hc.trans hc5 (fun i hi e => by have := (ha.row i e).1; omega), ⟨ha.tab, ha.wb, fun i hi => ?_⟩, fun q hq => ?_⟩
  · rw [symBits_snoc]
    exact hw.chg hc5 (fun i hi e => (ha.row i e).2.2 hi)
  · rw [show ncells (ins ++ [s]) = ncells ins ++ [.int .i64 (s : Nat)] from by simp [ncells], List.length_append, List.length_singleton]
    exact ho2
  · rcases hat with e | e
    · rw [e] at hi; exact ha.row i hi
    · rw [e] at hi
      have hi2 : i = w4.heap.size + 1 := by simp at hi; omega
      have h2 := hc.size
      have h3 := ht.lt
      exact ⟨by omega, by omega, fun e2 => by have := hw.lt i e2; omega⟩
  · rcases List.mem_append.1 hq with h1 | h1
    · exact hh q h1
    · simp at h1; subst h1; exact hs

set_option maxHeartbeats 4000000 in
set_option maxRecDepth 100000 in
theorem walk (A : Option Addr) (len cap : Nat) (xs : List Int) (A2 : Option Addr) (n2 cap2 : Nat) (ys : List Int) (high : Bool) (w : World)
    (hl : xs.length = len) (hm : len ≤ maxLen) (hS : Src w 1 A len cap (xs.flatMap encI)) (hg : ∀ b ∈ xs, goodI b)
    (hl2 : ys.length = n2) (hm2 : n2 ≤ maxLen) (hS2 : Src w 1 A2 n2 cap2 (ys.flatMap encI)) (hg2 : ∀ b ∈ ys, goodI b) :
    Calls Try.prog 5 #[.slice A len cap, .slice A2 n2 cap2, .bool high] w fun e w' => e = .returned (.bool true) ∧ Below w.heap.size w w' := by
  unfold maxLen at hm hm2
  rw [flat_ints] at hS hS2
  subst hl hl2
  have HS := keepf hS
  have HS2 := keepf hS2
  have HB := keepf (show in64 xs from hg)
  have HB2 := keepf (show in64 ys from hg2)
  clear hS hg hS2 hg2
  by_cases hle : xs.length ≤ 400
  · have d1 : decide ((400 : Int) < xs.length) = false := by simp; omega
    by_cases hM : May xs
    · have HM := keepf hM
      have HN := keepf (new_ok xs A cap w HM.out HB.out HS.out)
      clear hM
      obtain ⟨i0, hi, hz0, hz1, hz2⟩ := info_parts info_int
      go_enter Try.func5, Try.ntmps5
      go_wp2_with (first
        | (go_at_call 13; refine HN.out.mono ?_; rintro e w2 ⟨g, rfl, ht2, hc2, hg2⟩; have HT2 := keepf ht2; have HC2 := keepf hc2; have HG2 := keepf hg2; clear ht2 hc2 hg2)
        | (go_at_call 20; refine (new_any high w2).mono ?_; rintro e w3 ⟨rfl, hw3⟩; have HW3 := keepf hw3; clear hw3))
      have hst : St w w3 g w2.heap.size high xs [] (.slice none 0 0) (.slice none 0 0) := by
        have hw3 := HW3.out
        have hc3 : Chg NoS w2 w3 := by rw [← hw3]; exact (Chg.refl _ _).alloc _
        refine ⟨HT2.out.chg hc3 (fun h => h), by rw [← hw3]; exact wr_new high w2, own_nil _ _ _ _, HC2.out.trans hc3 (fun _ _ h => h), ⟨HG2.out, fun i hi => ?_, fun i hi => by simp [Value.ownBlock] at hi⟩, fun s hs => by cases hs⟩
        have h1 := HC2.out.size
        have h2 := HT2.out.lt
        rcases hi with rfl | hi
        · exact ⟨h1, by omega⟩
        · simp [Value.ownBlock] at hi
      have HST := keepf hst
      generalize w2.heap.size = gw at *
      clear hst HW3 HT2 HC2 HG2 HN d1
      go_loopw [10, 11] (fun v i wr => ∃ k : Nat, ∃ ins : List Nat, ∃ S : Value, k ≤ ys.length ∧ k ≤ 60 ∧ ins.length ≤ k ∧ i = .int .i64 k ∧ St w wr g gw high xs ins S v) (fun _ i _ => ys.length - (intOf i).toNat)
      case atStart => exact ⟨0, [], _, Nat.zero_le _, Nat.zero_le _, Nat.le_refl _, rfl, HST.out⟩
      case round =>
        obtain ⟨k, ins, S, hk, hk60, hik, rfl, hSt⟩ := hrel
        obtain ⟨A5, c5, rfl, _⟩ := own_slice hSt.o
        have HSt := keepf hSt
        clear hSt HST
        go_upto_region 9 with fail
        go_cut [50] from 43 to 50 (fun v wx => v = .bool (decide (k < ys.length ∧ k < 60)) ∧ wr = wx)
        case first =>
          by_cases h1 : k < ys.length
          · have e1 : (k : Int) < ys.length := by omega
            by_cases h2 : k < 60
            · have e2 : (k : Int) < 60 := by omega
              have d3 := keepf (decide_eq_true (show k < ys.length ∧ k < 60 from ⟨h1, h2⟩))
              go_wp2
              go_meet
              exact ⟨by rw [d3.out], rfl⟩
            · have e2 : decide ((k : Int) < 60) = false := by simp; omega
              have d3 := keepf (decide_eq_false (show ¬ (k < ys.length ∧ k < 60) from fun h => h2 h.2))
              go_wp2
              go_meet
              exact ⟨by rw [d3.out], rfl⟩
          · have e1 : decide ((k : Int) < ys.length) = false := by simp; omega
            have d3 := keepf (decide_eq_false (show ¬ (k < ys.length ∧ k < 60) from fun h => h1 h.1))
            go_wp2
            go_meet
            exact ⟨by rw [d3.out], rfl⟩
        case rest =>
          obtain ⟨rfl, rfl⟩ := hcut
          by_cases hlt : k < ys.length ∧ k < 60
          · rw [decide_eq_true hlt]
            obtain ⟨hlt1, hlt2⟩ := hlt
            obtain ⟨b, off, rfl, hcell⟩ := HS2.out.plain (by rw [icells_len]; omega)
            obtain ⟨z, hz⟩ : ∃ z, ys[k]? = some z := ⟨_, List.getElem?_eq_getElem hlt1⟩
            have hc := (HSt.out.c.cell (p := ⟨b, off + k, none⟩) (by exact cell_lt (hcell k _ (icells_get hz))) (fun h => h)).trans (hcell k _ (icells_get hz))
            have hzb := HB2.out z (List.mem_of_getElem? hz)
            clear hcell hz
            have e1 : (k : Int) < ys.length := by omega
            have e2 : (k : Int) < 60 := by omega
            by_cases hh : Has xs z
            · obtain ⟨h1, h2, h3⟩ := hh
              obtain ⟨s, rfl⟩ := Int.eq_ofNat_of_zero_le h1
              simp only [Int.toNat_natCast] at h3
              have hsl : s < xs.length := by omega
              have hlen := sym_len xs HM.out.2.2.1 ins
              have HP := keepf (tput_ok g gw s high (symBits xs ins) S xs wr HM.out HSt.out.t HSt.out.tw (by omega) hsl h3 (fun e => (HSt.out.a.wb g e).2 rfl))
              have hls := some_lenAt HM.out.2.2.1 hsl
              obtain ⟨b1, off1, hA, hcell1⟩ := HS.out.plain (by rw [icells_len]; omega)
              have HCE : Hid (∀ W : World, Chg NoS w W → W.cell? ⟨b1, off1 + s, none⟩ = some (.int .i64 (lenAt xs s : Nat))) := fun W hcW => (hcW.cell (p := ⟨b1, off1 + s, none⟩) (by exact cell_lt (hcell1 s _ (icells_get hls))) (fun h => h)).trans (hcell1 s _ (icells_get hls))
              subst hA
              have f1 : decide ((s : Int) < 0) = false := by simp
              have f2 : decide ((xs.length : Int) ≤ s) = false := by simp; omega
              have f2' : decide (xs.length ≤ s) = false := by simp; omega
              have f3 : ((lenAt xs s : Int) == 0) = false := by simp; exact h3
              have f4 : (s : Int) < xs.length := by omega
              clear hcell1 hls h1 h2
              go_wp2_with (first
                | (go_at_call 21; refine HP.out.mono ?_; rintro e w4 ⟨rfl, S4, hw4, hc4, hf4⟩; obtain ⟨p1, p2, p3, p4⟩ := HSt.out.put hw4 hc4 hf4; have g1 := HCE.out w4 p3; have P1 := keepf p1; have P2 := keepf p2; have P3 := keepf p3; have P4 := keepf p4; have HW4 := keepf hw4; clear p1 p2 p3 p4 hw4 hc4 hf4)
                | (at_builtin; refine wpList_append_src rfl (.tmp 80) (.tmp 82) 22 rfl 3 i0 (.int .i64 0) 1 8 Try.underlying22 hi hz0 hz1 hz2 rfl (by decide) (.slice A5 ins.length c5) _ _ rfl (own_chg (S := NoS) P2.out ((Chg.refl _ _).alloc _) (fun _ _ h => h)) _ _ _ _ rfl (src_one _ _ _) (int_one _) (by unfold maxLen; omega) (by omega) ?_; intro S2 w6 hown2 hgr hat; obtain ⟨A6, c6, rfl, hA6⟩ := own_slice hown2; have HGr := keepf hgr; have HO2 := keepf hown2; have HA2 := keepf hat; clear hgr hown2 hat hA6))
              go_roundw
              case rel =>
                exact ⟨k + 1, ins ++ [s], S4, by omega, by omega, by simp; omega, by go_num, St.app (wr := w4) P1.out HW4.out P2.out P3.out P4.out HSt.out.h ⟨hsl, h3⟩ HGr.out HO2.out HA2.out⟩
              case measure => simp [intOf]; omega
            · have HP := keepf (tput_bad g gw xs z wr HM.out HSt.out.t hh hzb.1 hzb.2)
              by_cases h1 : z < 0
              · have f1 : decide (z < 0) = true := by simpa using h1
                go_wp2_with (go_at_call 21; refine HP.out.mono ?_; rintro e w4 ⟨rfl, rfl⟩)
                go_roundw
                case rel => exact ⟨k + 1, ins, S, by omega, by omega, by omega, by go_num, HSt.out⟩
                case measure => simp [intOf]; omega
              · have f1 : decide (z < 0) = false := by simpa using h1
                by_cases h2 : (xs.length : Int) ≤ z
                · have f2 : decide ((xs.length : Int) ≤ z) = true := by simpa using h2
                  go_wp2_with (go_at_call 21; refine HP.out.mono ?_; rintro e w4 ⟨rfl, rfl⟩)
                  go_roundw
                  case rel => exact ⟨k + 1, ins, S, by omega, by omega, by omega, by go_num, HSt.out⟩
                  case measure => simp [intOf]; omega
                · have f2 : decide ((xs.length : Int) ≤ z) = false := by simpa using h2
                  obtain ⟨s, rfl⟩ := Int.eq_ofNat_of_zero_le (by omega : 0 ≤ z)
                  have hsl : s < xs.length := by omega
                  have hls := some_lenAt HM.out.2.2.1 hsl
                  have hz0 : lenAt xs s = 0 := by
                    rcases Nat.eq_zero_or_pos (lenAt xs s) with h | h
                    · exact h
                    · exact absurd ⟨by omega, by omega, by simp; omega⟩ hh
                  rw [hz0] at hls
                  obtain ⟨b1, off1, hA, hcell1⟩ := HS.out.plain (by rw [icells_len]; omega)
                  subst hA
                  have hcl := (HSt.out.c.cell (p := ⟨b1, off1 + s, none⟩) (by exact cell_lt (hcell1 s _ (icells_get hls))) (fun h => h)).trans (hcell1 s _ (icells_get hls))
                  have f4 : (s : Int) < xs.length := by omega
                  have f2' : decide (xs.length ≤ s) = false := by simp; omega
                  clear hcell1 hls h1 h2
                  go_wp2_with (go_at_call 21; refine HP.out.mono ?_; rintro e w4 ⟨rfl, rfl⟩)
                  go_roundw
                  case rel => exact ⟨k + 1, ins, S, by omega, by omega, by omega, by go_num, HSt.out⟩
                  case measure => simp [intOf]; omega
          · rw [decide_eq_false hlt]
            have hlen := sym_len xs HM.out.2.2.1 ins
            have HL : Hid ((symBits xs ins).length ≤ 900) := by show _ ≤ _; omega
            clear hlt hlen hi hz0 hz1 hz2
            go_wp2_with (first
              | (go_at_call 22; refine (bytes_any gw high (symBits xs ins) S wr HSt.out.tw (by have := HL.out; omega)).mono ?_; rintro e w7 ⟨A7, c7, rfl, ho7, hc7, hf7⟩; have hr7 := read_any high (bytesOf high (symBits xs ins)) A7 c7 w7 (by rw [bytesOf_length]; exact src_own ho7) (by rw [bytesOf_length]; have := HL.out; unfold nby; omega); rw [bytesOf_length] at hr7; have HRd := keepf hr7; have HC7 := keepf hc7; clear ho7 hc7 hf7 hr7)
              | (go_at_call 14; refine HRd.out.mono ?_; rintro e w8 ⟨gr, Sr, rfl, hr8, hc8, hgr8, hsr8⟩; have HR8 := keepf hr8; have HC8 := keepf hc8; have HGR8 := keepf hgr8; have HSR8 := keepf hsr8; clear hr8 hc8 hgr8 hsr8))
            have hsz7 := HC7.out.size
            have hszw := HSt.out.c.size
            have hgl := HSt.out.t.lt
            have HNG : Hid (g ≠ gr) := by show _ ≠ _; have := HGR8.out; omega
            have HGW : Hid (w.heap.size ≤ gr) := by show _ ≤ _; have := HGR8.out; omega
            have HSG : Hid (Sr.ownBlock ≠ some g) := HSR8.out g (by omega)
            have hc78 := HC7.out.trans HC8.out (fun _ _ h => h)
            have HT8 := keepf (HSt.out.t.chg hc78 (fun h => h))
            have HO8 := keepf (own_chg HSt.out.o hc78 (fun _ _ h => h))
            have HVG : Hid ((Value.slice A5 ins.length c5).ownBlock ≠ some gr) := by
              show _ ≠ _
              intro h
              have h1 := own_lt HSt.out.o h
              have := HGR8.out
              omega
            have HCW := keepf (HSt.out.c.trans hc78 (fun _ _ h => h))
            have HBS : Hid (∀ b ∈ bytesOf high (symBits xs ins), b < 256) := by
              intro b hb
              obtain ⟨i, _, rfl⟩ := List.mem_map.1 hb
              exact byteAt_lt _ _ _
            clear hsz7 hszw hgl hc78
            go_loopw [15] (fun i wr2 => ∃ k : Nat, k ≤ ins.length ∧ i = .int .i64 k ∧ Rd wr2 gr high (bytesOf high (symBits xs ins)) (symBits xs (ins.take k)).length Sr ∧ Chg (fun i => i = gr) w8 wr2) (fun i _ => ins.length - (intOf i).toNat)
            case atStart => exact ⟨0, Nat.zero_le _, rfl, HR8.out, Chg.refl _ _⟩
            case round =>
              obtain ⟨k2, hk2, rfl, hRd2, hch2⟩ := hrel
              have HRd2 := keepf hRd2
              have HCh2 := keepf hch2
              clear hRd2 hch2 HR8
              by_cases hlt2 : k2 < ins.length
              · obtain ⟨s, hs⟩ : ∃ s, ins[k2]? = some s := ⟨_, List.getElem?_eq_getElem hlt2⟩
                have hmem := HSt.out.h s (List.mem_of_getElem? hs)
                have hout := take_code (ls := xs) high k2 s HM.out hs hmem.1 hmem.2
                have hsn : symBits xs (ins.take (k2 + 1)) = symBits xs (ins.take k2) ++ codeBits xs s := by
                  rw [List.take_add_one, hs]
                  exact symBits_snoc _ _ _
                have hab : (symBits xs (ins.take k2)).length ≤ 8 * (bytesOf high (symBits xs ins)).length := by
                  have h1 := symBits_split xs ins k2 s hs
                  rw [bytesOf_length, h1]
                  simp only [List.length_append]
                  unfold nby
                  omega
                have HTG := keepf (tget_any g gr _ high (bytesOf high (symBits xs ins)) xs Sr _ HM.out (HT8.out.chg HCh2.out (fun e => HNG.out e)) HRd2.out (by rw [bytesOf_length]; have := HL.out; unfold nby; omega) HBS.out hab HNG.out HSG.out (own_ne_blk HRd2.out.2 HRd2.out.1 (by decide)))
                have HOUT := keepf hout
                have HSN := keepf hsn
                obtain ⟨gv, cv, hv, _, _⟩ := own_form HO8.out (by omega)
                simp only [Value.slice.injEq] at hv
                obtain ⟨rfl, _, rfl⟩ := hv
                have hlt3 : (k2 : Int) < ins.length := by omega
                have HCE : Hid (∀ W : World, Chg (fun i => i = gr) w8 W → W.cell? ⟨gv, k2, none⟩ = some (.int .i64 (s : Nat))) := fun W hcW => by
                  have h1 := (own_chg HO8.out hcW (fun i hi e => HVG.out (by rw [hi, e]))).cellAt k2 (by omega)
                  rw [ncells_get hs] at h1
                  exact h1
                clear hs hmem hout hsn hab
                go_wp2_with (first
                  | (go_at_call 16; refine HTG.out.mono ?_; rintro e w9 ⟨s9, t9, k9, rfl, ho9, hr9, hc9⟩; obtain ⟨rfl, rfl, rfl⟩ := ho9.one HOUT.out; have HC9 := keepf (HCh2.out.trans hc9 (fun _ _ h => h)); have e9 := HCE.out w9 HC9.out; have HR9 := keepf hr9; clear ho9 hr9 hc9))
                go_roundw
                case rel => exact ⟨k2 + 1, by omega, by go_num, by rw [HSN.out, List.length_append, codeBits_len]; exact HR9.out, HC9.out⟩
                case measure => simp [intOf]; omega
              · obtain rfl : ins.length = k2 := by omega
                have hRE : Rd wr gr high (bytesOf high (symBits xs ins)) (symBits xs ins).length Sr := by
                  have := HRd2.out
                  rwa [List.take_length] at this
                have HRE := keepf hRE
                have hall : Chg NoS w wr := HCW.out.trans HCh2.out (fun i hi e => by have := HGW.out; omega)
                have HALL := keepf hall
                have HTL := keepf (tlens_any g xs wr (HT8.out.chg HCh2.out (fun e => HNG.out e)) HM.out.2.1)
                clear hRE hall HRd2
                go_wp2_with (first
                  | (go_at_call 23; refine HTL.out.mono ?_; rintro e w10 ⟨A9, c9, rfl, ho9, hc9, hf9⟩; have HO9 := keepf ho9; have HC9 := keepf hc9; clear ho9 hc9 hf9))
                have hcz := HALL.out.trans HC9.out (fun _ _ h => h)
                have HCZ := keepf hcz
                clear hcz
                obtain ⟨b1, off1, hA, hcell1⟩ := HS.out.plain (by rw [icells_len]; have := HM.out.1; omega)
                subst hA
                have HCELL := keepf hcell1
                clear hcell1
                go_loopw [19] (fun i wr3 => ∃ k : Nat, k ≤ xs.length ∧ i = .int .i64 k ∧ Chg NoS w10 wr3) (fun i _ => xs.length - (intOf i).toNat)
                case atStart => exact ⟨0, Nat.zero_le _, rfl, Chg.refl _ _⟩
                case round =>
                  obtain ⟨k3, hk3, rfl, hch3⟩ := hrel
                  have HCh3 := keepf hch3
                  clear hch3
                  by_cases hlt3 : k3 < xs.length
                  · obtain ⟨gv, cv, hv, _, _⟩ := own_form HO9.out (by omega)
                    simp only [Value.slice.injEq] at hv
                    obtain ⟨rfl, _, rfl⟩ := hv
                    obtain ⟨z3, hz3⟩ : ∃ z3, xs[k3]? = some z3 := ⟨_, List.getElem?_eq_getElem hlt3⟩
                    have e1 := (own_chg HO9.out HCh3.out (fun _ _ h => h)).cellAt k3 (by omega)
                    rw [icells_get hz3] at e1
                    have hcw := HCZ.out.trans HCh3.out (fun _ _ h => h)
                    have e2 := (hcw.cell (p := ⟨b1, off1 + k3, none⟩) (by exact cell_lt (HCELL.out k3 _ (icells_get hz3))) (fun h => h)).trans (HCELL.out k3 _ (icells_get hz3))
                    have e3 : (k3 : Int) < xs.length := by omega
                    clear hz3 hcw
                    go_upto_region 30 with fail
                    go_quiet (fail)
                    go_wp2_with fail
                    go_roundw
                    case rel => exact ⟨k3 + 1, by omega, by go_num, HCh3.out.drewN nq⟩
                    case measure => simp [intOf]; omega
                  · obtain rfl : xs.length = k3 := by omega
                    have hr3 : Rd wr gr high (bytesOf high (symBits xs ins)) (symBits xs ins).length Sr := by
                      have hc0 := HC9.out.trans HCh3.out (fun _ _ h => h)
                      exact ⟨HRE.out.1.chg hc0 (fun h => h), own_chg HRE.out.2 hc0 (fun _ _ h => h)⟩
                    have h0 := hr3.1.cell 0
                    have h2 := hr3.1.cell 2
                    have h3 := hr3.1.cell 3
                    obtain ⟨As, cs, hSr2, _⟩ := own_slice hr3.2
                    rw [hSr2] at h3
                    simp at h0 h2 h3
                    have hbl := bytesOf_length high (symBits xs ins)
                    have hnb : (symBits xs ins).length ≤ 8 * nby (symBits xs ins).length ∧ 8 * nby (symBits xs ins).length < (symBits xs ins).length + 8 := by unfold nby; omega
                    have HLf := keepf (left_any gr (symBits xs ins).length (bytesOf high (symBits xs ins)).length cs As wr (by rw [hbl]; have := HL.out; omega) (by rw [hbl]; omega) h0 h2 h3)
                    obtain ⟨rest, hrest⟩ : ∃ rest : Nat, rest = 8 * nby (symBits xs ins).length - (symBits xs ins).length := ⟨_, rfl⟩
                    have hlen9 : ((8 : Int) * (bytesOf high (symBits xs ins)).length - (symBits xs ins).length) = (rest : Int) := by rw [hbl]; omega
                    rw [hlen9] at HLf
                    have hr8 : decide ((rest : Int) < 8) = true := by simp; omega
                    have hcw := HCZ.out.trans HCh3.out (fun _ _ h => h)
                    have HCW3 := keepf hcw
                    clear hlen9 hrest hnb hbl hSr2 h0 h2 h3 hr3 hcw
                    go_wp2_with (first
                      | (go_at_call 18; refine HLf.out.mono ?_; rintro e w11 ⟨rfl, m9, rfl⟩)
                      | (go_at_call 8; refine (works_any4 _).mono ?_; rintro e wz ⟨rfl, hcz⟩; have HCz := keepf hcz; clear hcz))
                    go_ret
                    exact ⟨rfl, ((HCW3.out.drewN m9).trans HCz.out (fun _ _ h => h)).no_below⟩
    · have HN := keepf (new_no xs A cap w hM (by omega) HB.out HS.out)
      have HM := keepf hM
      clear hM
      go_enter Try.func5, Try.ntmps5
      go_wp2_with (first
        | (go_at_call 13; refine HN.out.mono ?_; rintro e w2 ⟨rfl, hc2⟩; have HC2 := keepf hc2; have HR := keepf (rmay_any xs A cap w2 (by omega) HB.out (HS.out.below (w0 := w) hc2)); clear hc2)
        | (go_at_call 19; refine HR.out.mono ?_; rintro e w3 ⟨rfl, rfl⟩; rw [decide_eq_false HM.out])
        | (go_at_call 8; refine (works_any4 _).mono ?_; rintro e wz ⟨rfl, hcz⟩; have HCz := keepf hcz; clear hcz))
      go_ret
      exact ⟨rfl, (HC2.out.trans HCz.out (fun _ _ h => h)).no_below⟩
  · have d1 : decide ((400 : Int) < xs.length) = true := by simp; omega
    go_enter Try.func5, Try.ntmps5
    go_wp2_with (go_at_call 8; refine (works_any4 _).mono ?_; rintro e wz ⟨rfl, hcz⟩; have HCz := keepf hcz; clear hcz)
    go_ret
    exact ⟨rfl, HCz.out.no_below⟩


set_option maxRecDepth 100000 in
theorem lifted (os : Os) (started : os.Started) (H : Type) (enc : TypeId × Value → H) :
    ReturnsInHanded {} Try.checked os 5 .any (Rows.huffBackSpec.pre6 enc Try.prog Try.f5 Rows.huffBackRow.domain false) (Rows.huffBackSpec.post enc Try.prog Try.f5 false true false false) := by
  refine returnsInHanded_of_change (C := Try.checked) own started (by kernel_rfl) Try.func5
    (ChangeSpec.witness6 (enc := enc) (C := Try.checked) false ⟨#[], #[.slice none 0 0, .slice none 0 0, .bool false], []⟩ 8 (by kernel_rfl) (by kernel_rfl) (by kernel_rfl) (by kernel_rfl)) ?_
  intro W base args ds gs before hval0 hW hcnd _
  have hval : ∀ (j : Nat) t v, Try.f5.params[j]? = some t → args[j]? = some v → Value.okWide Try.prog W .any base t v := hval0
  have hW' := hW
  obtain ⟨p, q, hA0, hV, rfl, hfz, hnd⟩ := hW
  have hA : DataW.TrodAll enc Try.prog W 0 (fun _ => true) true Try.f5.params.toList args.toList ds p := hA0
  rw [Try.params5] at hA hval
  obtain ⟨v0, vs0, d0, ds0, p0, q0, hargs, rfl, rfl, h0, r0⟩ := trodAll_cons hA
  obtain ⟨v1, vs1, d1, ds1, p1, q1, rfl, rfl, rfl, h1, r1⟩ := trodAll_cons r0
  obtain ⟨v2, vs2, d2, ds2, p2, q2, rfl, rfl, rfl, h2, r2⟩ := trodAll_cons r1
  obtain ⟨rfl, rfl, rfl⟩ := trodAll_nil r2
  obtain rfl : args = #[v0, v1, v2] := by cases args; simp_all
  obtain ⟨rfl, rfl⟩ := trodVars_none hV
  obtain ⟨a0, len0, cap0, rfl⟩ := okWide_slice Try.underlying22 (hval 0 22 v0 rfl rfl)
  have k0 := h0
  have lt0 : ∀ x ∈ p0, x.block < W.heap.size := by obtain ⟨m, hm⟩ := k0; exact DataW.trod_lt m _ _ _ hm
  obtain ⟨hm0, xs0, hl0, hS0, hg0⟩ : len0 ≤ maxLen ∧ ∃ xs : List Int, xs.length = len0 ∧ Src W 1 a0 len0 cap0 (xs.flatMap encI) ∧ ∀ b ∈ xs, goodI b := by
    obtain ⟨fuel, hf⟩ := h0
    exact open_rows encI goodI 1 Try.underlying22 (by kernel_rfl) (fun _ => rfl) (fun n cs y h _ => int_el h) (by simpa [Value.cells] using hf)
  obtain ⟨a1, len1, cap1, rfl⟩ := okWide_slice Try.underlying22 (hval 1 22 v1 rfl rfl)
  have k1 := h1
  have lt1 : ∀ x ∈ p1, x.block < W.heap.size := by obtain ⟨m, hm⟩ := k1; exact DataW.trod_lt m _ _ _ hm
  obtain ⟨hm1, xs1, hl1, hS1, hg1⟩ : len1 ≤ maxLen ∧ ∃ xs : List Int, xs.length = len1 ∧ Src W 1 a1 len1 cap1 (xs.flatMap encI) ∧ ∀ b ∈ xs, goodI b := by
    obtain ⟨fuel, hf⟩ := h1
    exact open_rows encI goodI 1 Try.underlying22 (by kernel_rfl) (fun _ => rfl) (fun n cs y h _ => int_el h) (by simpa [Value.cells] using hf)
  obtain ⟨a2, rfl, rfl, rfl⟩ := open_bool Try.underlying4 (hval 2 4 v2 rfl rfl) h2
  clear hA0 hval0
  refine (walk a0 len0 cap0 xs0 a1 len1 cap1 xs1 a2 W hl0 hm0 hS0 hg0 hl1 hm1 hS1 hg1).mono fun e W' ⟨he, bel⟩ => ?_
  subst he
  exact ⟨_, rfl, _, _, _, [], _, [], hW', trodAll_mk1 (shut_bool Try.underlying4 _), (trodAll_cons_mk (Below.trod laidOut (by kernel_rfl) (of_decide_eq_true (by kernel_rfl)) k0 bel lt0) (trodAll_cons_mk (Below.trod laidOut (by kernel_rfl) (of_decide_eq_true (by kernel_rfl)) k1 bel lt1) (trodAll_cons_mk (shut_bool Try.underlying4 _) trodAll_mk0))), rfl, bel.frame _, fun h => by cases h⟩

theorem over : Rows.huffBackRow.holds Try.pinned (OpenSpec.ofChange Rows.huffBackSpec) :=
  OpenClaim.holds_of_wide 5 Try.f5 rfl rfl rfl rfl rfl rfl rfl ⟨rfl, rfl, rfl, rfl, rfl⟩ rfl rfl rfl rfl rfl (by kernel_rfl) Try.func5 (by kernel_rfl)
    (of_decide_eq_true (by kernel_rfl)) (by unfold Func.isWrapper; first | (rw [if_pos (by decide +kernel)]; kernel_rfl) | (rw [if_neg (by decide +kernel)]; exact ⟨rfl, rfl⟩))
    (fun os started H enc _ => lifted os started H enc)

theorem proved : Rows.HuffBackSaid := over
#print axioms proved
end Go.Proofs.Ytkhhiaggmncehaa.hback
