/- What Put does to a writer: the bits that come behind, or the error. -/
import Derived.Test.YtkhhiaggmncehaaSmall
import Derived.Test.YtkhhiaggmncehaaBits
import Derived.Deep.RegionHeld3
import Derived.Deep.DeepCutAuto
import Derived.Deep.Cut
import Derived.Deep.CutRange
import Derived.StillTailTactics
namespace Go.Proofs.Ytkhhiaggmncehaa
open Go.RowKit
set_option linter.unusedVariables false

theorem info_u8 : (Try.prog.info? 5).map (fun i => (i.zero, i.size, i.bytes)) = some (some (.int .u8 0), 1, 1) := by kernel_rfl

/-- The bytes of a row of bits, as cells. -/
def bcells (high : Bool) (L : List Bool) : List Value := (bytesOf high L).map fun b => .int .u8 (b : Nat)

/-- A writer of the bits L: its struct in block g, its bytes in the slice S. -/
def Wr (w : World) (g : Nat) (high : Bool) (L : List Bool) (S : Value) : Prop :=
  Blk w g 77 #[.bool true, .bool high, .int .i64 L.length, S] ∧ w.ownsRow 0 5 1 S (nby L.length) (bcells high L)

/-- The blocks of a writer. -/
def WS (g : Nat) (S : Value) : Nat → Prop := fun i => i = g ∨ S.ownBlock = some i

/-- Behind a call that puts bits: the writer has the bits L, and nothing else that was there has changed. -/
def PutTo (w : World) (g : Nat) (high : Bool) (L : List Bool) (S : Value) (e : Ending) (w' : World) : Prop :=
  e = .returned (.int .i64 0) ∧ ∃ S', Wr w' g high L S' ∧ Chg (WS g S) w w' ∧ (∀ i, i < w.heap.size → S'.ownBlock = some i → S.ownBlock = some i)

/-- A writer on whose last byte bits may be laid. -/
def Wr1 (w : World) (g : Nat) (high : Bool) (M : List Bool) (S : Value) : Prop :=
  Blk w g 77 #[.bool true, .bool high, .int .i64 M.length, S] ∧ w.ownsRow 0 5 1 S (M.length / 8 + 1) ((List.range (M.length / 8 + 1)).map fun i => .int .u8 (byteAt high M i : Nat))

theorem byteAt_out (high : Bool) (M : List Bool) (i : Nat) (h : M.length ≤ 8 * i) : byteAt high M i = 0 := by
  have e : byteAt high M i = obf (fun _ => false) 8 := by
    apply obf_congr
    intro p _
    rw [List.getD_eq_getElem?_getD, List.getElem?_eq_none (by cases high <;> simp [rowAt] <;> omega)]
    rfl
  rw [e]
  decide

theorem cells_more (high : Bool) (M : List Bool) (h : M.length % 8 = 0) : bcells high M ++ [.int .u8 0] = (List.range (M.length / 8 + 1)).map fun i => .int .u8 (byteAt high M i : Nat) := by
  have e : nby M.length = M.length / 8 := by unfold nby; omega
  rw [List.range_succ, List.map_append, bcells, bytesOf, e, List.map_map]
  simp [byteAt_out high M (M.length / 8) (by omega)]

theorem cells_same (high : Bool) (M : List Bool) (h : M.length % 8 ≠ 0) : bcells high M = (List.range (M.length / 8 + 1)).map fun i => .int .u8 (byteAt high M i : Nat) := by
  have e : nby M.length = M.length / 8 + 1 := by unfold nby; omega
  rw [bcells, bytesOf, e, List.map_map]
  rfl

theorem abv_n (high : Bool) (n d k : Nat) (h : d + k ≤ n) : abv high n d k = (abn high n d k : Nat) := by
  cases high <;> simp [abv, abn] <;> omega

theorem piece_eq (x up k : Nat) (hx : x ≤ 4294967295) (hk : k ≤ 8) : bits BinOp.and IntKind.u32 ((x : Int) / 2 ^ up) ((2 ^ k - 1) % 4294967296) = ((x / 2 ^ up % 2 ^ k : Nat) : Int) := by
  have h2 : 2 ^ k ≤ 2 ^ 8 := Nat.pow_le_pow_right (by decide) hk
  have h0 := Nat.two_pow_pos k
  have hd : x / 2 ^ up ≤ x := Nat.div_le_self _ _
  have e1 : ((x : Int) / 2 ^ up) = ((x / 2 ^ up : Nat) : Int) := by simp
  have e2 : (((2 : Int) ^ k - 1) % 4294967296) = ((2 ^ k - 1 : Nat) : Int) := by
    rw [Int.natCast_sub h0]
    simp
    have : (((2 : Nat) ^ k : Nat) : Int) = (2 : Int) ^ k := by simp
    omega
  rw [e1, e2, u32_and_nat _ _ (by omega) (by omega), Nat.and_two_pow_sub_one_eq_mod]

theorem zero_one : ∀ u ∈ [Value.int .u8 0], u.oneCell' = true := by
  intro u hu
  simp at hu
  subst hu
  rfl

theorem src_one (w : World) (x : Value) (t : TypeId) : Src (w.alloc (.cells #[x] t)) 1 (some ⟨w.heap.size, 0, none⟩) 1 1 [x] :=
  ⟨rfl, fun h => (by cases h), fun ad had => by
    cases had
    exact cell_one_new w x t⟩

theorem put_grown {w wr w2 : World} {g a : Nat} {high : Bool} {M : List Bool} {S S1 S2 : Value} (hl : M.length = a) (h8 : a % 8 = 0)
    (hc2 : Chg (fun i => S1.ownBlock = some i) wr w2) (b2 : Blk w2 g 77 #[.bool true, .bool high, .int .i64 (a : Nat), S1]) (hown2 : w2.ownsRow 0 5 1 S2 (nby a + 1) (bcells high M ++ [.int .u8 0]))
    (hat : S2.ownBlock = S1.ownBlock ∨ S2.ownBlock = some (wr.heap.size + 1)) (hch : Chg (WS g S) w wr) (hf : ∀ i, i < w.heap.size → S1.ownBlock = some i → S.ownBlock = some i) :
    ∃ S2', Wr1 (w2.setCell ⟨g, 3, none⟩ S2) g high M S2' ∧ Chg (WS g S) w (w2.setCell ⟨g, 3, none⟩ S2) ∧ (∀ i, i < w.heap.size → S2'.ownBlock = some i → S.ownBlock = some i) := by
  have hne2 := own_ne_blk hown2 b2 (by decide)
  have e : nby a = a / 8 := by unfold nby; omega
  refine ⟨S2, ⟨?_, ?_⟩, ?_, ?_⟩
  · have := b2.set_ 3 S2
    rw [hl]
    simpa using this
  · rw [hl]
    have hm := cells_more high M (by rw [hl]; exact h8)
    rw [hl] at hm
    rw [← hm, ← e]
    exact own_chg (S := fun i => i = g) hown2 ((Chg.refl (fun i => i = g) _).setCell (p := ⟨g, 3, none⟩) (fun _ => rfl) _) (fun i hi he => hne2 (by rw [hi, he]))
  · refine (hch.trans hc2 (fun i hi h => .inr (hf i hi h))).setCell (fun _ => .inl rfl) _
  · intro i hi h
    rcases hat with hat | hat
    · exact hf i hi (hat ▸ h)
    · have h1 := hch.size
      rw [hat] at h
      injection h with h
      omega

theorem or_piece (b pc ib : Nat) (hb : b < 256) (hp : pc * 2 ^ ib < 256) : bits BinOp.or IntKind.u8 (b : Int) ((pc : Int) * 2 ^ ib % 256) = ((b ||| pc * 2 ^ ib : Nat) : Int) := by
  have e : ((pc : Int) * 2 ^ ib % 256) = ((pc * 2 ^ ib : Nat) : Int) := by
    have : ((pc * 2 ^ ib : Nat) : Int) = (pc : Int) * 2 ^ ib := by simp
    rw [← this]
    omega
  rw [e, u8_or_nat b _ hb hp]

theorem cells_put (high : Bool) (L : List Bool) (x n j k q : Nat) (hn : j + k ≤ n) (hq : q = (L.length + j) / 8) (hk1 : 1 ≤ k) (hk : (L.length + j) % 8 + k ≤ 8) :
    ((List.range (q + 1)).map fun i => Value.int .u8 (byteAt high (L ++ (numBits high x n).take j) i : Nat)).set q (.int .u8 (byteAt high (L ++ (numBits high x n).take j) q ||| (x / 2 ^ abn high n j k % 2 ^ k * 2 ^ abn high 8 ((L.length + j) % 8) k) : Nat)) =
      bcells high (L ++ (numBits high x n).take (j + k)) ∧ nby (L ++ (numBits high x n).take (j + k)).length = q + 1 := by
  have hlen : (L ++ (numBits high x n).take (j + k)).length = L.length + j + k := by simp [numBits_length]; omega
  have hnb : nby (L ++ (numBits high x n).take (j + k)).length = q + 1 := by rw [hlen]; unfold nby; omega
  refine ⟨?_, hnb⟩
  have hp := put_piece high L x n j k hn hk
  rw [← hq] at hp
  rw [bcells, bytesOf, hnb, List.map_map]
  apply List.ext_getElem?
  intro i
  by_cases hi : i = q
  · subst hi
    simp [← hp]
  · rw [List.getElem?_set_ne (by omega)]
    by_cases hi2 : i < q + 1
    · simp [hi2]
      have := put_other high (L ++ (numBits high x n).take j) [] (((numBits high x n).take (j + k)).drop j) i (by simp [numBits_length]; omega)
      rw [List.append_nil, List.append_assoc] at this
      rw [this]
      congr 2
      have e : List.take j (numBits high x n) = List.take j (List.take (j + k) (numBits high x n)) := by rw [List.take_take]; congr 1; omega
      rw [e, List.take_append_drop]
    · simp [hi2]

theorem pc_lt (x up k ib : Nat) (h : ib + k ≤ 8) : x / 2 ^ up % 2 ^ k * 2 ^ ib < 256 := by
  have h1 : x / 2 ^ up % 2 ^ k < 2 ^ k := Nat.mod_lt _ (Nat.two_pow_pos k)
  have h2 : x / 2 ^ up % 2 ^ k * 2 ^ ib < 2 ^ k * 2 ^ ib := Nat.mul_lt_mul_of_pos_right h1 (Nat.two_pow_pos ib)
  have h3 : 2 ^ k * 2 ^ ib ≤ 2 ^ 8 := by rw [← Nat.pow_add]; exact Nat.pow_le_pow_right (by decide) (by omega)
  omega

theorem put_stored {w wc : World} {g gb q n x j k cap2 nq up ib pc : Nat} {high : Bool} {L : List Bool} {S : Value} {av : Int} (hn : j + k ≤ n) (hq : q = (L.length + j) / 8) (hk1 : 1 ≤ k) (hk : (L.length + j) % 8 + k ≤ 8)
    (hup : up = abn high n j k) (hib : ib = abn high 8 ((L.length + j) % 8) k) (hpc : x / 2 ^ up % 2 ^ k = pc) (hav : av = (L.length + j + k : Nat))
    (hb : Blk wc g 77 #[.bool true, .bool high, .int .i64 (L.length + j : Nat), .slice (some ⟨gb, 0, none⟩) (q + 1) cap2])
    (ho : wc.ownsRow 0 5 1 (.slice (some ⟨gb, 0, none⟩) (q + 1) cap2) (q + 1) ((List.range (q + 1)).map fun i => .int .u8 (byteAt high (L ++ (numBits high x n).take j) i : Nat)))
    (hne : gb ≠ g) (hc : Chg (WS g S) w wc) (hf : ∀ i, i < w.heap.size → (Value.slice (some ⟨gb, 0, none⟩) (q + 1) cap2).ownBlock = some i → S.ownBlock = some i) :
    ∃ S1, Wr (((wc.drewN nq).setCell ⟨gb, q, none⟩ (.int .u8 (bits BinOp.or IntKind.u8 (byteAt high (L ++ (numBits high x n).take j) q : Nat) ((pc : Int) * 2 ^ ib % 256)))).setCell ⟨g, 2, none⟩ (.int .i64 av)) g high (L ++ (numBits high x n).take (j + k)) S1 ∧
      Chg (WS g S) w (((wc.drewN nq).setCell ⟨gb, q, none⟩ (.int .u8 (bits BinOp.or IntKind.u8 (byteAt high (L ++ (numBits high x n).take j) q : Nat) ((pc : Int) * 2 ^ ib % 256)))).setCell ⟨g, 2, none⟩ (.int .i64 av)) ∧
      (∀ i, i < w.heap.size → S1.ownBlock = some i → S.ownBlock = some i) := by
  have hlen : (L ++ (numBits high x n).take (j + k)).length = L.length + j + k := by simp [numBits_length]; omega
  obtain ⟨hcs, hnb⟩ := cells_put high L x n j k q hn hq hk1 hk
  have hor : bits BinOp.or IntKind.u8 (byteAt high (L ++ (numBits high x n).take j) q : Nat) ((pc : Int) * 2 ^ ib % 256) = ((byteAt high (L ++ (numBits high x n).take j) q ||| (x / 2 ^ abn high n j k % 2 ^ k * 2 ^ abn high 8 ((L.length + j) % 8) k) : Nat) : Int) := by
    subst hup hib hpc
    exact or_piece _ _ _ (byteAt_lt _ _ _) (pc_lt _ _ _ _ (by cases high <;> simp [abn] <;> omega))
  rw [hor]
  subst hav
  refine ⟨.slice (some ⟨gb, 0, none⟩) (q + 1) cap2, ⟨?_, ?_⟩, ?_, hf⟩
  · have h1 := ((hb.drewN nq).far (p := ⟨gb, q, none⟩) (fun h => hne h.symm) (.int .u8 ((byteAt high (L ++ (numBits high x n).take j) q ||| (x / 2 ^ abn high n j k % 2 ^ k * 2 ^ abn high 8 ((L.length + j) % 8) k) : Nat) : Int))).set_ 2 (.int .i64 (L.length + j + k : Nat))
    rw [hlen]
    simpa using h1
  · have h1 := ((own_drewN ho nq).stored q (.int .u8 ((byteAt high (L ++ (numBits high x n).take j) q ||| (x / 2 ^ abn high n j k % 2 ^ k * 2 ^ abn high 8 ((L.length + j) % 8) k) : Nat) : Int))).1
    rw [hnb, ← hcs]
    exact own_chg (S := fun i => i = g) h1 ((Chg.refl (fun i => i = g) _).setCell (p := ⟨g, 2, none⟩) (fun _ => rfl) _) (fun i hi he => hne (by
      have : gb = i := by simpa [Value.ownBlock] using hi
      rw [this, he]))
  · exact ((hc.drewN nq).setCell (p := ⟨gb, q, none⟩) (fun h => .inr (hf gb h rfl)) _).setCell (p := ⟨g, 2, none⟩) (fun _ => .inl rfl) _

set_option maxHeartbeats 1000000 in
set_option maxRecDepth 100000 in
theorem put_ok (g : Nat) (high : Bool) (L : List Bool) (S : Value) (x n : Nat) (w : World) (hW : Wr w g high L S) (hL : L.length ≤ 1073741824) (hn : n ≤ 32) (hx : x < 2 ^ n) :
    Calls Try.prog 34 #[.pointer (some ⟨g, 0, none⟩), .int .u32 x, .int .i64 n] w (PutTo w g high (L ++ numBits high x n) S) := by
  have h0 := hW.1.cell 0
  have hx32 : x ≤ 4294967295 := by
    have : 2 ^ n ≤ 2 ^ 32 := Nat.pow_le_pow_right (by decide) hn
    omega
  have hwid : Lib.bitLen x ≤ n := Lib.bitLen_le x n (by omega) hx
  have Hx := keepf hx
  clear hx
  simp at h0
  obtain ⟨i0, hi, hz0, hz1, hz2⟩ := info_parts info_u8
  have d1 : decide ((n : Int) < 0) = false := by simp
  have d2 : decide ((32 : Int) < (n : Int)) = false := by simp; omega
  have d3 : decide (n < Lib.bitLen x) = false := by simp; omega
  go_enter Try.func34, Try.ntmps34
  go_wp2_with (first
    | (go_at_call 35; refine (wready_any g _ h0).mono ?_; rintro e w' ⟨rfl, rfl⟩)
    | (go_at_call 44; refine (width_any _ _ (by omega) (by omega)).mono ?_; rintro e w' ⟨rfl, rfl⟩))
  go_loopw [7] (fun d wr => ∃ (j : Nat) (S1 : Value), j ≤ n ∧ d = .int .i64 j ∧ Wr wr g high (L ++ (numBits high x n).take j) S1 ∧ Chg (WS g S) w wr ∧ (∀ i, i < w.heap.size → S1.ownBlock = some i → S.ownBlock = some i)) (fun d _ => n - (intOf d).toNat)
  case atStart => exact ⟨0, S, Nat.zero_le _, rfl, by simpa using hW, Chg.refl _ _, fun _ _ h => h⟩
  case round =>
    obtain ⟨j, S1, hj, rfl, hW1, hch, hfr⟩ := hrel
    have hlen : (L ++ (numBits high x n).take j).length = L.length + j := by simp [numBits_length]; omega
    have hb := hW1.1
    have hown := hW1.2
    rw [hlen] at hb hown
    obtain ⟨A, cap, rfl, hA⟩ := own_slice hown
    have hne := own_ne_blk hown hb (by decide)
    have hmod := cells_more high (L ++ (numBits high x n).take j)
    have hmod2 := cells_same high (L ++ (numBits high x n).take j)
    rw [hlen] at hmod hmod2
    have h1 := hb.cell 1
    have h2 := hb.cell 2
    have h3 := hb.cell 3
    have f3 := hb.frozen 3
    have f2 := hb.frozen 2
    simp at h1 h2 h3
    have HB := keepf hb
    have HO := keepf hown
    have HC := keepf hch
    have HF := keepf hfr
    have HN := keepf hne
    have HL := keepf hlen
    have HM := keepf hmod
    have HM2 := keepf hmod2
    clear hW1 hb hlen hown hch hfr hA hne hmod hmod2
    by_cases hlt : j < n
    · go_upto_if 32 with (first
        | (go_at_call 45; refine (gap_any g (L.length + j) _ (by omega) h2).mono ?_; rintro e w' ⟨rfl, rfl⟩))
      go_cut [] from 25 to 97 (fun wc => ∃ S2, Wr1 wc g high (L ++ (numBits high x n).take j) S2 ∧ Chg (WS g S) w wc ∧ (∀ i, i < w.heap.size → S2.ownBlock = some i → S.ownBlock = some i))
      case first =>
        by_cases h8 : (L.length + j) % 8 = 0
        · have hg : ((((8 - (L.length + j) % 8) % 8 : Nat) : Int) == 0) = true := by rw [h8]; rfl
          have H8 := keepf h8
          clear h8
          go_wp2_with (first
            | (at_builtin; refine wpList_append_src rfl (.tmp 37) (.tmp 38) 32 rfl 5 i0 (.int .u8 0) 1 1 Try.underlying32 hi hz0 hz1 hz2 rfl (by decide) (.slice A (nby (L.length + j)) cap) _ _ rfl (own_chg (S := NoS) HO.out ((Chg.refl _ _).alloc _) (fun _ _ h => h)) _ _ _ _ rfl (src_one _ _ _) zero_one (by unfold maxLen nby; omega) (by unfold nby; omega) ?_; intro S2 w2 hown2 hgr hat; obtain ⟨A2, c2, rfl, hA2⟩ := own_slice hown2; have hc2 := ((Chg.refl (fun i => (Value.slice A (nby (L.length + j)) cap).ownBlock = some i) wr).alloc _).grown hgr (fun k e _ => e); have b2 := HB.out.chg hc2 HN.out; have k3 := b2.cell 3; have q3 := b2.frozen 3; simp at k3; have HB2 := keepf b2; have HC2 := keepf hc2; have HO2 := keepf hown2; have HA2 := keepf hat; clear b2 hc2 hown2 hat hgr hA2))
          go_meet
          exact put_grown HL.out H8.out HC2.out HB2.out HO2.out (by simpa using HA2.out) HC.out HF.out
        · have hg : ((((8 - (L.length + j) % 8) % 8 : Nat) : Int) == 0) = false := by simp; omega
          have H8 := keepf h8
          clear h8
          go_wp2
          go_meet
          refine ⟨_, ⟨?_, ?_⟩, HC.out, HF.out⟩
          · rw [HL.out]; exact HB.out
          · rw [HL.out, ← HM2.out H8.out]
            have e : nby (L.length + j) = (L.length + j) / 8 + 1 := by have := H8.out; unfold nby; omega
            rw [← e]
            exact HO.out
      case rest =>
        obtain ⟨S2, hW2, hch2, hfr2⟩ := hcut
        have hb := hW2.1
        have hown := hW2.2
        rw [HL.out] at hb hown
        obtain ⟨q, hq⟩ : ∃ q, q = (L.length + j) / 8 := ⟨_, rfl⟩
        rw [← hq] at hown
        obtain ⟨gb, cap2, rfl, hcap1, hcap2⟩ := own_form hown (by omega)
        have hne := own_ne_blk hown hb (by decide)
        have hq1 : q ≤ 134217732 := by omega
        have cb := hown.cellAt q (by omega)
        have fb := hown.frozenAt q
        have c1 := hb.cell 1
        have c2 := hb.cell 2
        have c3 := hb.cell 3
        have q2 := hb.frozen 2
        simp at c1 c2 c3 cb
        have HB2 := keepf hb
        have HO2 := keepf hown
        have HC2 := keepf hch2
        have HF2 := keepf hfr2
        have HN2 := keepf hne
        have HQ := keepf hq
        clear hW2 hb hown hch2 hfr2 hne hq HB HO HC HF HN HM HM2 f3 f2 h1 h2 h3 hwid
        go_upto_region 9 with fail
        go_cut [8] from 25 to 97 (fun kk wx => ∃ k : Nat, 1 ≤ k ∧ j + k ≤ n ∧ (L.length + j) % 8 + k ≤ 8 ∧ kk = .int .i64 k ∧ wc = wx)
        case first =>
          go_wp2_with (go_at_call 41; refine (room_any g (L.length + j) _ (by omega) c2).mono ?_; rintro e w' ⟨rfl, rfl⟩)
          go_meet
          exact ⟨min (n - j) (8 - (L.length + j) % 8), by omega, by omega, by omega, by congr 1; omega, rfl⟩
        case rest =>
          obtain ⟨k, hk1, hk2, hk3, rfl, rfl⟩ := hcut
          obtain ⟨up, hup⟩ : ∃ up : Nat, up = abn high n j k := ⟨_, rfl⟩
          obtain ⟨ib, hib⟩ : ∃ ib : Nat, ib = abn high 8 ((L.length + j) % 8) k := ⟨_, rfl⟩
          have hup2 : up ≤ 31 := by rw [hup]; cases high <;> simp [abn] <;> omega
          have hib2 : ib ≤ 7 := by rw [hib]; cases high <;> simp [abn] <;> omega
          have hk8 : k ≤ 8 := by omega
          have HU : Hid (∀ W : World, W.cell? ⟨g, 1, none⟩ = some (.bool high) → Calls Try.prog 43 #[.pointer (some ⟨g, 0, none⟩), .int .i64 n, .int .i64 j, .int .i64 k] W fun e w' => e = .returned (.int .i64 up) ∧ W = w') := by
            intro W h
            have := above_any g high n j k W (by omega) (by omega) (by omega) (by omega) h
            rw [abv_n _ _ _ _ (by omega), ← hup] at this
            exact this
          have HI : Hid (∀ W : World, W.cell? ⟨g, 1, none⟩ = some (.bool high) → W.cell? ⟨g, 2, none⟩ = some (.int .i64 (L.length + j : Nat)) → Calls Try.prog 42 #[.pointer (some ⟨g, 0, none⟩), .int .i64 k] W fun e w' => e = .returned (.int .i64 ib) ∧ W = w') := by
            intro W h h'
            have := inByte_any g high (L.length + j) k W (by omega) (by omega) (by omega) h h'
            rw [show (8 : Int) = ((8 : Nat) : Int) from rfl, abv_n _ _ _ _ (by omega), ← hib] at this
            exact this
          have HUp := keepf hup
          have HIb := keepf hib
          clear hup hib
          go_upto_region 10 with fail
          go_quiet ((go_at_call 43; exact quiet_left (HU.out _ c1)))
          go_upto_region 11 with fail
          have hq3 : IntKind.i64.wrap (q : Int) = q := by rw [IntKind.wrap_i64]; omega
          have hq4 : (0 : Int) ≤ (q : Int) ∧ (q : Int) < (q : Int) + 1 := by omega
          rw [piece_eq x up k hx32 hk8]
          generalize hP : x / 2 ^ up % 2 ^ k = pc
          have hpc : pc < 256 := by
            have h1 : pc < 2 ^ k := by rw [← hP]; exact Nat.mod_lt _ (Nat.two_pow_pos k)
            have h2 : 2 ^ k ≤ 2 ^ 8 := Nat.pow_le_pow_right (by decide) hk8
            omega
          have HP := keepf hP
          clear hP
          refine wp_region_still_tail 22 (by kernel_rfl) (by kernel_rfl) ?_
          simp only [List.take_succ_cons, List.take_zero, List.drop_succ_cons, List.drop_zero]
          change wpStill _ _ (wc.drewN nq).drew _ _ _
          rw [World.drew_drewN]
          repeat still_step
          still_call (same_right (HI.out _ c1 c2))
          repeat still_step
          refine wpStill_nil ?_
          change wpList _ _ _ _ _ (wc.drewN nq).drew
          rw [World.drew_drewN]
          have hgg : ¬ gb = g := fun h => HN2.out (by rw [h]; rfl)
          have hgg2 : ¬ g = gb := fun h => hgg h.symm
          go_wp2
          go_roundw
          case rel =>
            obtain ⟨S3, r1, r2, r3⟩ := put_stored (nq := nq + 1) (by omega) HQ.out hk1 hk3 HUp.out HIb.out HP.out (av := ↑L.length + ↑j + ↑k) (by omega) HB2.out HO2.out hgg HC2.out HF2.out
            exact ⟨j + k, S3, by omega, by go_num, r1, r2, r3⟩
          case measure => simp [intOf]; omega
    · obtain rfl : j = n := by omega
      go_wp2
      go_ret
      have e : L ++ numBits high x j = L ++ (numBits high x j).take j := by rw [List.take_of_length_le (by rw [numBits_length]; exact Nat.le_refl _)]
      refine ⟨rfl, _, ⟨?_, ?_⟩, HC.out, HF.out⟩
      · rw [e, HL.out]; exact HB.out
      · rw [e, HL.out]; exact HO.out

theorem bitAux_lt : ∀ (f x : Nat), x < 2 ^ f → x < 2 ^ Lib.bitLenAux f x
  | 0, x, h => h
  | f + 1, x, h => by
    unfold Lib.bitLenAux
    split
    · omega
    · have := bitAux_lt f (x / 2) (by rw [Nat.pow_succ] at h; omega)
      rw [Nat.add_comm, Nat.pow_succ]
      omega

theorem bitLen_gt (x n : Nat) (hx : x < 2 ^ 64) (h : ¬ x < 2 ^ n) : n < Lib.bitLen x := by
  rcases Nat.lt_or_ge n (Lib.bitLen x) with h1 | h1
  · exact h1
  · exfalso
    have hb := bitAux_lt 64 x hx
    have h2 : 2 ^ Lib.bitLen x ≤ 2 ^ n := Nat.pow_le_pow_right (by decide) h1
    exact h (Nat.lt_of_lt_of_le hb h2)

theorem put_bad (g : Nat) (x : Nat) (n : Int) (w : World) (h0 : w.cell? ⟨g, 0, none⟩ = some (.bool true)) (hx : x < 4294967296) (hn1 : -9223372036854775808 ≤ n) (hn2 : n ≤ 9223372036854775807) (hb : ¬ (0 ≤ n ∧ n ≤ 32 ∧ x < 2 ^ n.toNat)) :
    Calls Try.prog 34 #[.pointer (some ⟨g, 0, none⟩), .int .u32 x, .int .i64 n] w fun e w' => e = .returned (.int .i64 2) ∧ w = w' := by
  by_cases h1 : n < 0
  · have d1 : decide (n < 0) = true := by simpa using h1
    clear hb
    go_enter Try.func34, Try.ntmps34
    go_wp2_with (go_at_call 35; refine (wready_any g _ h0).mono ?_; rintro e w' ⟨rfl, rfl⟩)
    go_ret
    exact ⟨rfl, rfl⟩
  · have d1 : decide (n < 0) = false := by simpa using h1
    by_cases h2 : 32 < n
    · have d2 : decide (32 < n) = true := by simpa using h2
      clear hb
      go_enter Try.func34, Try.ntmps34
      go_wp2_with (go_at_call 35; refine (wready_any g _ h0).mono ?_; rintro e w' ⟨rfl, rfl⟩)
      go_ret
      exact ⟨rfl, rfl⟩
    · have d2 : decide (32 < n) = false := by simpa using h2
      have h3 : ¬ x < 2 ^ n.toNat := fun h => hb ⟨by omega, by omega, h⟩
      have h4 := bitLen_gt x n.toNat (by omega) h3
      have h5 : n < (Lib.bitLen x : Int) := by omega
      clear hb h3
      go_enter Try.func34, Try.ntmps34
      go_wp2_with (first
        | (go_at_call 35; refine (wready_any g _ h0).mono ?_; rintro e w' ⟨rfl, rfl⟩)
        | (go_at_call 44; refine (width_any _ _ (by omega) (by omega)).mono ?_; rintro e w' ⟨rfl, rfl⟩))
      go_ret
      exact ⟨rfl, rfl⟩
end Go.Proofs.Ytkhhiaggmncehaa
