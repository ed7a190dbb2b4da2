/- 'BitsPuts': for every input the statement's function returns true: whatever numbers are put, or filled up, a writer has, step by step, the bits that the document says, or tells the error. Conditions: none. -/
import Derived.Test.YtmkgffmeookblaaRefBytes
import Derived.Test.YtmkgffmeookblaaRows
import Derived.ChangeOld
import Derived.Deep.RegionWith
import Derived.Deep.Cut
import Derived.Deep.CutRange
namespace Go.Proofs.Ytmkgffmeookblaa.puts
open Go.RowKit Go.ChangeShapes Go.WideShapes Go.ChangeAt
set_option linter.unusedVariables false

theorem own : ownKnob Try.prog.godebug = none := by kernel_rfl
theorem laidOut : laidOutB Try.prog = true := by kernel_rfl

theorem undrew {S : Nat → Prop} {a b : World} (h : Chg S a.drew b) : Chg S a b := ⟨h.os, h.tape, h.output, h.size, h.block⟩

def sliceLen : Value → Nat
  | .slice _ n _ => n
  | _ => 0

/-- The writer has the bits L, the row of truths the bits M. -/
structure St (w wr : World) (high : Bool) (L M : List Bool) (S Sl : Value) : Prop where
  a : Wr wr w.heap.size high L S
  i : wr.ownsRow 0 4 1 Sl M.length (tcells M)
  c : Chg NoS w wr
  ha : ∀ i, WS w.heap.size S i → w.heap.size ≤ i
  hi : ∀ i, Sl.ownBlock = some i → w.heap.size ≤ i
  d : ∀ i, WS w.heap.size S i → Sl.ownBlock ≠ some i

theorem St.chg {w wr w' : World} {high : Bool} {L M : List Bool} {S Sl : Value} (h : St w wr high L M S Sl) (hc : Chg NoS wr w') : St w w' high L M S Sl :=
  ⟨h.a.chg hc (fun _ _ h => h), own_chg h.i hc (fun _ _ h => h), h.c.trans hc (fun _ _ h => h), h.ha, h.hi, h.d⟩

theorem put_keeps {w w' : World} {g n size : Nat} {high : Bool} {L : List Bool} {S v : Value} {e : Ending} {t : TypeId} {xs : List Value} (hp : PutTo w g high L S e w') (h : w.ownsRow 0 t size v n xs) (hd : ∀ i, WS g S i → v.ownBlock ≠ some i) : w'.ownsRow 0 t size v n xs := by
  obtain ⟨_, _, _, hc, _⟩ := hp
  exact own_chg h hc (fun i hi hn => hd i hn hi)

theorem St.put {w wr w' : World} {high : Bool} {L L' M : List Bool} {S Sl : Value} {e : Ending} (h : St w wr high L M S Sl) (hp : PutTo wr w.heap.size high L' S e w') :
    e = .returned (.int .i64 0) ∧ ∃ S', St w w' high L' M S' Sl := by
  obtain ⟨he, S', hW, hc, hf⟩ := hp.got
  refine ⟨he, S', hW, own_chg h.i hc (fun i hi hn => h.d i hn hi), h.c.trans hc (fun i hi hn => by have := h.ha i hn; omega), fun i hi => ?_, h.hi, fun i hi hn => ?_⟩
  · rcases hf i hi with h1 | h1
    · exact h.ha i h1
    · have := h.c.size; omega
  · rcases hf i hi with h1 | h1
    · exact h.d i h1 hn
    · have := own_lt h.i hn; omega

theorem St.fill {w wr w' : World} {high : Bool} {L L' M : List Bool} {S Sl : Value} {e : Ending} (h : St w wr high L M S Sl) (hp : FillTo wr w.heap.size high L' S e w') :
    e = .returned (.tuple #[]) ∧ St w w' high L' M S Sl := by
  obtain ⟨he, hW, hc⟩ := hp
  exact ⟨he, hW, own_chg h.i hc (fun i hi hn => h.d i (.inl hn) hi), h.c.trans hc (fun i hi hn => by have := h.ha i (.inl hn); omega), h.ha, h.hi, h.d⟩

theorem St.app {w wr w0 w2 : World} {high : Bool} {L M N : List Bool} {S Sl S2 : Value} {m : Nat} (h : St w wr high L M S Sl) (hm : m = N.length) (hc0 : Chg NoS wr w0)
    (hg : w0.grownBy w2 Sl.ownBlock) (hO : w2.ownsRow 0 4 1 S2 (M.length + m) (tcells M ++ tcells N)) (hat : S2.ownBlock = Sl.ownBlock ∨ S2.ownBlock = some w0.heap.size) :
    St w w2 high L (M ++ N) S S2 := by
  have hc2 : Chg (fun i => Sl.ownBlock = some i) wr w2 := (hc0.mono (fun _ _ h => h.elim)).grown hg (fun i e _ => e)
  have hs0 := hc0.size
  have hs := h.c.size
  refine ⟨h.a.chg hc2 (fun i h' => h.d i h'), by subst hm; simpa [tcells] using hO, h.c.trans hc2 (fun i h1 h2 => by have := h.hi i h2; omega), h.ha, fun i h' => ?_, fun i h' h'' => ?_⟩
  · rcases hat with e | e
    · exact h.hi i (e ▸ h')
    · rw [e] at h'
      injection h' with h'
      omega
  · rcases hat with e | e
    · exact h.d i h' (e ▸ h'')
    · rw [e] at h''
      injection h'' with h''
      have := h.a.lt i h'
      omega

set_option maxHeartbeats 2000000 in
set_option maxRecDepth 100000 in
theorem walk (high : Bool) (A : Option Addr) (len cap : Nat) (xs : List (Nat × Int)) (w : World) (hl : xs.length = len) (hm : len ≤ maxLen) (hS : Src w 2 A len cap (xs.flatMap encP)) (hg : ∀ p ∈ xs, goodP p) :
    Calls Try.prog 3 #[.bool high, .slice A len cap] w fun e w' => e = .returned (.bool true) ∧ Below w.heap.size w w' := by
  unfold maxLen at hm
  have HS := keepf hS
  have HL := keepf hl
  have HG := keepf hg
  clear hS hl hg
  have hA := keepf (show St w (w.alloc (.cells #[.bool true, .bool high, .int .i64 0, .slice none 0 0] 51)) high [] [] (.slice none 0 0) (.slice none 0 0) from ⟨wr_new high w, own_nil _ _ _ _, (Chg.refl _ _).alloc _, by
      rintro i (h | h)
      · omega
      · simp [Value.ownBlock] at h, fun i h => by simp [Value.ownBlock] at h, fun i _ h => by simp [Value.ownBlock] at h⟩)
  obtain ⟨i0, hi, hz0, hzz1, hzz2⟩ := info_parts info_bool
  go_enter Try.func3, Try.ntmps3
  go_wp2_with fail
  refine (new_any high _).mono ?_
  rintro e w' ⟨rfl, rfl⟩
  go_wp2_with fail
  refine (works_any _).mono ?_
  rintro e w1 ⟨rfl, hc1⟩
  have hB := keepf (hA.out.chg hc1)
  clear hA hc1
  go_wp2_with fail
  go_loopw [6, 7] (fun v i wr => ∃ (k : Nat) (L : List Bool) (S : Value), k ≤ len ∧ k ≤ 60 ∧ i = .int .i64 k ∧ L.length ≤ 40 * k ∧ St w wr high L L S v) (fun _ i _ => len - (intOf i).toNat)
  case atStart => exact ⟨0, [], _, Nat.zero_le _, Nat.zero_le _, rfl, Nat.zero_le _, hB.out⟩
  case round =>
    obtain ⟨k, L, S, hk, hk6, rfl, hLk, hSt⟩ := hrel
    obtain ⟨A6, cap6, rfl, _⟩ := own_slice hSt.i
    have HT := keepf hSt
    clear hSt hB
    by_cases hlt : k < len ∧ k < 60
    · obtain ⟨hlt1, hlt2⟩ := hlt
      obtain ⟨b, off, rfl, hcell⟩ := HS.out.plain (by rw [flat_len _ 2 (by intro p; rfl), HL.out]; omega)
      have hlb : k < xs.length := by have := HL.out; omega
      obtain ⟨p, hp⟩ : ∃ p, xs[k]? = some p := ⟨_, List.getElem?_eq_getElem hlb⟩
      have hgp := HG.out p (List.mem_of_getElem? hp)
      obtain ⟨x, z⟩ := p
      have e0 := hcell (k * 2 + 0) (.int .u32 x) (by rw [flat_get encP 2 (fun _ => rfl) xs k 0 _ hp (by omega)]; rfl)
      have e1 := hcell (k * 2 + 1) (.int .i64 z) (by rw [flat_get encP 2 (fun _ => rfl) xs k 1 _ hp (by omega)]; rfl)
      have c0 := (HT.out.c.cell (p := ⟨b, off + (k * 2 + 0), none⟩) (by exact cell_lt e0) (fun h => h)).trans e0
      have c1 := (HT.out.c.cell (p := ⟨b, off + (k * 2 + 1), none⟩) (by exact cell_lt e1) (fun h => h)).trans e1
      rw [Nat.add_zero] at c0
      rw [← Nat.add_assoc] at c1
      obtain ⟨hx, hz1, hz2⟩ := hgp
      simp only at hx hz1 hz2
      have E0 := keepf e0
      have E1 := keepf e1
      clear hcell e0 e1 hp hlb
      go_upto_region 8 with fail
      go_cut [39] from 15 to 105 (fun v wx => v = .bool (decide (z < 0 ∧ x % 2 = 0)) ∧ wr = wx)
      case first =>
        by_cases hf1 : z < 0
        · have d1 : decide (z < 0) = true := by simpa using hf1
          by_cases hf2 : x % 2 = 0
          · have d2 : ((x : Int) % 2 == 0) = true := by simp; omega
            have d3 : decide (z < 0 ∧ x % 2 = 0) = true := by simp [hf1, hf2]
            have D3 := keepf d3
            clear d3 hf2
            go_wp2
            go_meet
            exact ⟨by rw [D3.out], rfl⟩
          · have d2 : ((x : Int) % 2 == 0) = false := by simp; omega
            have d3 : decide (z < 0 ∧ x % 2 = 0) = false := by simp [hf2]
            have D3 := keepf d3
            clear d3 hf2
            go_wp2
            go_meet
            exact ⟨by rw [D3.out], rfl⟩
        · have d1 : decide (z < 0) = false := by simpa using hf1
          have d3 : decide (z < 0 ∧ x % 2 = 0) = false := by simp [hf1]
          have D3 := keepf d3
          clear d3
          go_wp2
          go_meet
          exact ⟨by rw [D3.out], rfl⟩
      case rest =>
        obtain ⟨rfl, rfl⟩ := hcut
        generalize hfill : decide (z < 0 ∧ x % 2 = 0) = fill
        have HFill := keepf hfill
        clear hfill
        go_upto_if 39 with fail
        go_cut [6] from 15 to 105 (fun v wx => ∃ (L2 : List Bool) (S2 : Value), L2.length ≤ 40 * (k + 1) ∧ St w wx high L2 L2 S2 v)
        case first =>
          cases fill
          · go_upto_region 12 with fail
            by_cases hok : 0 ≤ z ∧ z ≤ 32 ∧ x < 2 ^ z.toNat
            · obtain ⟨hok0, hok1, hok2⟩ := hok
              obtain ⟨n, rfl⟩ := Int.eq_ofNat_of_zero_le hok0
              rw [Int.toNat_natCast] at hok2
              have HK := keepf hok2
              clear hok2 hok0
              have hn32 : n ≤ 32 := by omega
              go_cut [8, 9] from 15 to 105 (fun v8 v9 wx => ∃ A8 cap8, v8 = .slice A8 n cap8 ∧ v9 = .bool true ∧ wx.ownsRow 0 4 1 (.slice A8 n cap8) n (tcells (numBits high x n)) ∧ Chg NoS wr wx ∧ (∀ i, i < wr.heap.size → (Value.slice A8 n cap8).ownBlock ≠ some i))
              case first =>
                go_region_with (go_at_call 10; refine (number_ok x n high _ hx hn32 HK.out).mono ?_; rintro e w3 ⟨A8, cap8, rfl, hO8, hc8, hf8⟩; have HO8 := keepf hO8; have HC8 := keepf hc8; have HF8 := keepf hf8; clear hO8 hc8 hf8)
                all_goals (try go_wp2_with fail)
                all_goals go_meet
                all_goals exact ⟨A8, cap8, rfl, rfl, HO8.out, undrew HC8.out, HF8.out⟩
              case rest =>
                obtain ⟨A8, cap8, rfl, rfl, hO8, hc8, hf8⟩ := hcut
                have c0' := (hc8.cell (p := ⟨b, off + k * 2, none⟩) (by exact cell_lt c0) (fun h => h)).trans c0
                have c1' := (hc8.cell (p := ⟨b, off + k * 2 + 1, none⟩) (by exact cell_lt c1) (fun h => h)).trans c1
                have HT3 := keepf ((HT.out.chg hc8).chg (Chg.refl _ _).drew)
                have HO8 := keepf hO8
                have HF8 := keepf (show ∀ i, WS w.heap.size S i → (Value.slice A8 n cap8).ownBlock ≠ some i from fun i h h' => hf8 i (HT.out.a.lt i h) h')
                have HL8 := keepf (show ∀ i, (Value.slice A6 L.length cap6).ownBlock = some i → (Value.slice A8 n cap8).ownBlock ≠ some i from fun i h h' => hf8 i (own_lt HT.out.i h) h')
                clear hO8 hc8 hf8 c0 c1
                go_upto_region 13 with fail
                refine wp_region_still_tail 11 (by kernel_rfl) (by kernel_rfl) ?_
                simp only [List.take_succ_cons, List.take_zero, List.drop_succ_cons, List.drop_zero]
                change wpStill _ _ (wc.drew) _ _ _
                repeat still_step
                refine wpStill_nil ?_
                change wpList _ _ _ _ _ (wc.drew)
                go_wp2_with fail
                refine (put_ok w.heap.size high L S x n _ HT3.out.a (by omega) hn32 HK.out).mono ?_
                intro e w5 hp
                have hO5 := put_keeps hp (own_drew HO8.out) HF8.out
                obtain ⟨rfl, S5, hT5⟩ := HT3.out.put hp
                have HT5 := keepf hT5
                have HO5 := keepf hO5
                clear hp hT5 hO5
                go_wp2_with (first
                  | (at_builtin; refine wpList_append_src rfl (.tmp 88) (.tmp 89) 25 rfl 4 i0 (.bool false) 1 1 Try.underlying25 hi hz0 hzz1 hzz2 rfl (by decide) (.slice A6 L.length cap6) _ _ rfl HT5.out.i _ _ _ _ rfl (src_own HO5.out) (tcells_one _) (by unfold maxLen; omega) (by omega) ?_; intro S2 w2 hown2 hgr hat; obtain ⟨A2, c2, rfl, hA2⟩ := own_slice hown2; have HG2 := keepf hgr; have HO2 := keepf hown2; have HA2 := keepf hat; clear hgr hown2 hat hA2))
                go_meet
                exact ⟨L ++ numBits high x n, S5, by simp [numBits_length]; omega, by
                  exact HT5.out.app (N := numBits high x n) (by rw [numBits_length]) (Chg.refl _ _) HG2.out HO2.out HA2.out⟩
            · go_cut [8, 9] from 15 to 105 (fun v8 v9 wx => v8 = .slice none 0 0 ∧ v9 = .bool false ∧ ∃ nq, wr.drewN nq = wx)
              case first =>
                go_region_with (go_at_call 10; refine (number_bad x z high _ hx hz1 hz2 hok).mono ?_; rintro e w3 ⟨rfl, rfl⟩)
                all_goals (try go_wp2_with fail)
                all_goals go_meet
                all_goals exact ⟨rfl, rfl, 1, rfl⟩
              case rest =>
                obtain ⟨rfl, rfl, nq, rfl⟩ := hcut
                have HT3 := keepf (HT.out.chg ((Chg.refl _ wr).drewN (nq + 1)))
                go_upto_region 13 with fail
                refine wp_region_still_tail 11 (by kernel_rfl) (by kernel_rfl) ?_
                simp only [List.take_succ_cons, List.take_zero, List.drop_succ_cons, List.drop_zero]
                change wpStill _ _ ((wr.drewN nq).drew) _ _ _
                rw [World.drew_drewN]
                repeat still_step
                refine wpStill_nil ?_
                change wpList _ _ _ _ _ ((wr.drewN nq).drew)
                rw [World.drew_drewN]
                go_wp2_with fail
                refine (put_bad w.heap.size x z _ (by have := HT3.out.a.1.cell 0; simpa using this) hx hz1 hz2 hok).mono ?_
                rintro e w5 ⟨rfl, rfl⟩
                go_wp2_with (first
                  | (at_builtin; refine wpList_append_src rfl (.tmp 88) (.tmp 89) 25 rfl 4 i0 (.bool false) 1 1 Try.underlying25 hi hz0 hzz1 hzz2 rfl (by decide) (.slice A6 L.length cap6) _ _ rfl HT3.out.i none 0 0 [] rfl ⟨rfl, fun _ => ⟨rfl, rfl⟩, fun _ h => (by cases h)⟩ (fun _ h => (by cases h)) (by unfold maxLen; omega) (by omega) ?_; intro S2 w2 hown2 hgr hat; obtain ⟨A2, c2, rfl, hA2⟩ := own_slice hown2; have HG2 := keepf hgr; have HO2 := keepf hown2; have HA2 := keepf hat; clear hgr hown2 hat hA2))
                go_meet
                exact ⟨L, S, by omega, by
                  have h := HT3.out.app (N := []) rfl (Chg.refl _ _) HG2.out HO2.out HA2.out
                  rw [List.append_nil] at h
                  exact h⟩
          · go_wp2_with fail
            refine (align_any w.heap.size high L S _ HT.out.a (by omega)).mono ?_
            intro e w3 hp
            obtain ⟨rfl, hT3⟩ := HT.out.fill hp
            have HT3 := keepf hT3
            clear hp hT3
            go_wp2_with fail
            go_loopw [6] (fun v wr => ∃ j : Nat, j ≤ (8 - L.length % 8) % 8 ∧ St w wr high (L ++ padOf L.length) (L ++ List.replicate j false) S v) (fun v _ => 4000 - sliceLen v)
            case atStart => exact ⟨0, Nat.zero_le _, by simpa using HT3.out⟩
            case round =>
              obtain ⟨j, hj, hTj⟩ := hrel
              have hlen : (L ++ List.replicate j false).length = L.length + j := by simp
              obtain ⟨A7, cap7, rfl, _⟩ := own_slice hTj.i
              rw [hlen] at hTj
              have ho := hTj.i
              rw [hlen] at ho
              have HTj := keepf hTj
              have HO := keepf ho
              clear hTj ho HT3
              rw [hlen]
              clear hlen
              by_cases hjp : j < (8 - L.length % 8) % 8
              · go_wp2_with (first
                  | (at_builtin; refine wpList_append_src rfl (.tmp 46) (.tmp 47) 25 rfl 4 i0 (.bool false) 1 1 Try.underlying25 hi hz0 hzz1 hzz2 rfl (by decide) (.slice A7 (L.length + j) cap7) (L.length + j) (tcells (L ++ List.replicate j false)) rfl (own_chg (S := NoS) HO.out ((Chg.refl _ _).alloc _) (fun _ _ h => h)) _ _ _ _ rfl (src_one _ _ _) (bool_one _) (by unfold maxLen; omega) (by omega) ?_; intro S2 w2 hown2 hgr hat; obtain ⟨A2, c2, rfl, hA2⟩ := own_slice hown2; have HG2 := keepf hgr; have HO2 := keepf hown2; have HA2 := keepf hat; clear hgr hown2 hat hA2))
                go_roundw
                case rel =>
                  have e : List.replicate (j + 1) false = List.replicate j false ++ [false] := List.replicate_succ'
                  exact ⟨j + 1, by omega, by rw [e, ← List.append_assoc]; exact HTj.out.app (N := [false]) rfl ((Chg.refl _ _).alloc _) HG2.out (by rw [show (L ++ List.replicate j false).length + [false].length = L.length + j + 1 from by simp]; exact HO2.out) HA2.out⟩
                case measure => simp [sliceLen]; omega
              · obtain rfl : j = (8 - L.length % 8) % 8 := by omega
                go_wp2_with fail
                go_meet
                exact ⟨L ++ padOf L.length, S, by simp [padOf]; omega, HTj.out⟩
        case rest =>
          obtain ⟨L2, S2, hL2, hT2⟩ := hcut
          obtain ⟨A7, cap7, rfl, _⟩ := own_slice hT2.i
          have HT2 := keepf hT2
          clear hT2 c0 c1
          have HTd := keepf (HT2.out.chg (Chg.refl _ _).drew)
          have h0 := HT2.out.a.1.cell 0
          have h2 := HT2.out.a.1.cell 2
          simp at h0 h2
          go_upto_region 17 with fail
          go_cut [105] from 15 to 105 (fun v wx => v = .bool false ∧ Chg NoS wc wx)
          case first =>
            go_region_with (first
              | (go_at_call 12; refine (len_any w.heap.size L2.length _ (by exact h0) (by exact h2)).mono ?_; rintro e w3 ⟨rfl, rfl⟩)
              | (go_at_call 13; refine (bytes_any w.heap.size high L2 S2 _ HTd.out.a (by omega)).mono ?_; rintro e w4 ⟨A3, cap3, rfl, hown3, hc3, hf3⟩; rw [ucells_bytes] at hown3; have hcv3 := convert_own hown3; have HO3 := keepf hown3; have HC3 := keepf hc3; clear hown3 hc3 hf3)
              | (go_at_call 14; refine (refbytes_any high L2 A7 cap7 _ (by omega) (src_own (own_chg HTd.out.i HC3.out (fun _ _ h => h)))).mono ?_; rintro e w5 ⟨A4, cap4, rfl, hown4, hc4, hf4⟩; rw [ucells_bytes] at hown4; have hcv4 := convert_own hown4; have hcv5 := convert_own (own_chg HO3.out hc4 (fun _ _ h => h)); have HC4 := keepf hc4; clear hown4 hc4 hf4))
            all_goals (try go_wp2_with fail)
            all_goals go_meet
            all_goals exact ⟨by simp, (undrew HC3.out).trans HC4.out (fun _ _ h => h)⟩
          case rest =>
            obtain ⟨rfl, hcw⟩ := hcut
            go_wp2_with fail
            go_roundw
            case rel => exact ⟨k + 1, L2, S2, by omega, by omega, by go_num, hL2, HT2.out.chg hcw⟩
            case measure => simp [intOf]; omega
    · have hcase : k = len ∨ (k < len ∧ k = 60) := by omega
      have HC := keepf HT.out.c
      clear HS HL HG HT
      rcases hcase with rfl | ⟨hk1, rfl⟩
      all_goals
        go_wp2_with fail
        go_ret
        exact ⟨rfl, HC.out.no_below⟩

set_option maxRecDepth 100000 in
theorem lifted (os : Os) (started : os.Started) (H : Type) (enc : TypeId × Value → H) :
    ReturnsInHanded {} Try.checked os 3 .any (Rows.bitsPutsSpec.pre6 enc Try.prog Try.f3 Rows.bitsPutsRow.domain false) (Rows.bitsPutsSpec.post enc Try.prog Try.f3 false true false false) := by
  refine returnsInHanded_of_change (C := Try.checked) own started (by kernel_rfl) Try.func3
    (ChangeSpec.witness6 (enc := enc) (C := Try.checked) false ⟨#[], #[.bool false, .slice none 0 0], []⟩ 8 (by kernel_rfl) (by kernel_rfl) (by kernel_rfl) (by kernel_rfl)) ?_
  intro W base args ds gs before hval0 hW hcnd _
  have hval : ∀ (j : Nat) t v, Try.f3.params[j]? = some t → args[j]? = some v → Value.okWide Try.prog W .any base t v := hval0
  have hW' := hW
  obtain ⟨p, q, hA0, hV, rfl, hfz, hnd⟩ := hW
  have hA : DataW.TrodAll enc Try.prog W 0 (fun _ => true) true Try.f3.params.toList args.toList ds p := hA0
  rw [Try.params3] at hA hval
  obtain ⟨v0, vs0, d0, ds0, p0, q0, hargs, rfl, rfl, h0, r0⟩ := trodAll_cons hA
  obtain ⟨v1, vs1, d1, ds1, p1, q1, rfl, rfl, rfl, h1, r1⟩ := trodAll_cons r0
  obtain ⟨rfl, rfl, rfl⟩ := trodAll_nil r1
  obtain rfl : args = #[v0, v1] := by cases args; simp_all
  obtain ⟨rfl, rfl⟩ := trodVars_none hV
  obtain ⟨a0, rfl, rfl, rfl⟩ := open_bool Try.underlying4 (hval 0 4 v0 rfl rfl) h0
  obtain ⟨a1, len1, cap1, rfl⟩ := okWide_slice Try.underlying22 (hval 1 22 v1 rfl rfl)
  have k1 := h1
  have lt1 : ∀ x ∈ p1, x.block < W.heap.size := by obtain ⟨m, hm⟩ := k1; exact DataW.trod_lt m _ _ _ hm
  obtain ⟨hm1, xs1, hl1, hS1, hg1⟩ : len1 ≤ maxLen ∧ ∃ xs : List (Nat × Int), xs.length = len1 ∧ Src W 2 a1 len1 cap1 (xs.flatMap encP) ∧ ∀ b ∈ xs, goodP b := by
    obtain ⟨fuel, hf⟩ := h1
    exact open_rows encP goodP 2 Try.underlying22 (by kernel_rfl) (fun _ => rfl) (fun n cs y h _ => part_el h) (by simpa [Value.cells] using hf)
  clear hA0 hval0
  refine (walk a0 a1 len1 cap1 xs1 W hl1 hm1 hS1 hg1).mono fun e W' ⟨he, bel⟩ => ?_
  subst he
  exact ⟨_, rfl, _, _, _, [], _, [], hW', trodAll_mk1 (shut_bool Try.underlying4 _), (trodAll_cons_mk (shut_bool Try.underlying4 _) (trodAll_cons_mk (Below.trod laidOut (by kernel_rfl) (of_decide_eq_true (by kernel_rfl)) k1 bel lt1) trodAll_mk0)), rfl, bel.frame _, fun h => by cases h⟩

theorem over : Rows.bitsPutsRow.holds Try.pinned (OpenSpec.ofChange Rows.bitsPutsSpec) :=
  OpenClaim.holds_of_wide 3 Try.f3 rfl rfl rfl rfl rfl rfl rfl ⟨rfl, rfl, rfl, rfl, rfl⟩ rfl rfl rfl rfl rfl (by kernel_rfl) Try.func3 (by kernel_rfl)
    (of_decide_eq_true (by kernel_rfl)) (by unfold Func.isWrapper; first | (rw [if_pos (by decide +kernel)]; kernel_rfl) | (rw [if_neg (by decide +kernel)]; exact ⟨rfl, rfl⟩))
    (fun os started H enc _ => lifted os started H enc)

theorem proved : Rows.BitsPutsSaid := over
#print axioms proved
end Go.Proofs.Ytmkgffmeookblaa.puts
