/- Merged by program: FTxt RLx1 PLx1 PLx2 FNam. -/
import Derived.Test.YtcehpobjnbgpdaaGreatDoorG01
import Derived.Test.YtcehpobjnbgpdaaGreatDoorG02
import Derived.Test.YtcehpobjnbgpdaaGreatDoorG11
import Derived.Test.YtcehpobjnbgpdaaGreatDoorShelf
import Derived.Lib.ConvBytes
import Derived.BigQuiet
import Derived.Deep.Cut
import Derived.WalkMore
import Derived.Deep.QuietTactic
/- Show's texts: a text is put to the form, in brackets or by its bytes' digits. -/
namespace Go.Proofs.YtcehpobjnbgpdaaGreatDoor
open Go.RowKit
set_option linter.unusedVariables false
set_option linter.unusedSimpArgs false

theorem Chg.freezeP {w W : World} (h : Chg NoS w W) {p : Addr} (hg : w.heap.size ≤ p.block) (n : Nat) : Chg NoS w (W.freeze p n) :=
  Chg.of_below (Lib.below_freeze (B := w.heap.size) h.no_below hg n)

/-- A string read as bytes: a row of the call's own. -/
theorem conv_sb (W : World) (s : ByteArray) {R : Nat} (hR : R < W.heap.size) : ∃ cp W2, (convert 9 39 (.string s)).run Tryz.prog W = .ok (.slice (some ⟨W.heap.size, 0, none⟩) s.size cp) W2 ∧ Chg NoS W W2 ∧ (∀ k, k < s.size → W2.cell? ⟨W.heap.size, k, none⟩ = some (.int .u8 ((sl s).getD k 0 : Nat))) ∧
    ∀ k, k < s.size → ∀ X, KF R W2 X → X.cell? ⟨W.heap.size, k, none⟩ = some (.int .u8 ((sl s).getD k 0 : Nat)) := by
  have hcell : ∀ k, k < s.size → (Lib.bytesWorld W 5 s).cell? ⟨W.heap.size, k, none⟩ = some (.int .u8 ((sl s).getD k 0 : Nat)) := fun k hk => by
    rw [Lib.bytesWorld_cell W 5 s k hk]
    have h1 : k < s.data.toList.length := by rw [Array.length_toList]; exact hk
    rw [List.getD_eq_getElem?_getD, List.getD_eq_getElem?_getD, sl, List.getElem?_map, List.getElem?_eq_getElem h1]
    rfl
  refine ⟨_, _, Lib.run_convert_string_bytes W 9 39 5 s Tryz.underlying9 Tryz.underlying39 Tryz.underlying5, ?_, hcell, fun k hk X hX => ?_⟩
  · unfold Lib.bytesWorld
    exact (((Chg.refl NoS W).drew).alloc _).freezeP (p := ⟨W.heap.size, _, none⟩) (Nat.le_refl _) 1
  · rw [← hcell k hk]
    have h1 := Lib.bytesWorld_at_new W 5 s
    refine World.cell?_of_block (a := ⟨W.heap.size, k, none⟩) ((hX _ _ (by omega) (fun cs e => ?_) h1).trans h1.symm)
    have h2 := (Obj.cells.inj e).2.2
    exact absurd (congrArg Prod.snd h2) (Nat.succ_ne_zero _)

theorem drop_cons {l : List Nat} {k : Nat} (h : k < l.length) : l.drop k = l.getD k 0 :: l.drop (k + 1) := by
  rw [List.getD_eq_getElem?_getD, List.getElem?_eq_getElem h]
  exact List.drop_eq_getElem_cons h

theorem hxL_drop {l : List Nat} {k : Nat} (h : k < l.length) : hxL (l.take (k + 1)) = hxL (l.take k) ++ hex2 (l.getD k 0) := by
  have e : l.take (k + 1) = l.take k ++ [l.getD k 0] := take_snoc (by rw [List.getD_eq_getElem?_getD, List.getElem?_eq_getElem h]; rfl)
  have ha : ∀ a b, hxL (a ++ b) = hxL a ++ hxL b := by
    intro a b
    induction a with
    | nil => rfl
    | cons c a ih => rw [List.cons_append, hxL, hxL, ih, List.append_assoc]
  rw [e, ha]
  simp [hxL]

theorem esL_app : ∀ a b, esL (a ++ b) = esL a ++ esL b := by
  intro a b
  induction a with
  | nil => rfl
  | cons c a ih => rw [List.cons_append, esL, esL, ih, List.append_assoc]

theorem esL_drop {l : List Nat} {k : Nat} (h : k < l.length) : esL (l.take (k + 1)) = esL (l.take k) ++ esC (l.getD k 0) := by
  have e : l.take (k + 1) = l.take k ++ [l.getD k 0] := take_snoc (by rw [List.getD_eq_getElem?_getD, List.getElem?_eq_getElem h]; rfl)
  rw [e, esL_app]
  simp [esL]

theorem hxL_two : ∀ l : List Nat, (hxL l).length = 2 * l.length
  | [] => rfl
  | c :: l => by rw [hxL, List.length_append, hxL_two l, List.length_cons]; show 2 + _ = _; omega

theorem esC_le2 (c : Nat) : (esC c).length ≤ 2 := by unfold esC; split <;> simp

theorem esL_le2 : ∀ l : List Nat, (esL l).length ≤ 2 * l.length
  | [] => Nat.le_refl _
  | c :: l => by rw [esL, List.length_append, List.length_cons]; have := esL_le2 l; have := esC_le2 c; omega

theorem esC_ge (c : Nat) : 1 ≤ (esC c).length := by unfold esC; split <;> simp

theorem esL_ge : ∀ l : List Nat, l.length ≤ (esL l).length
  | [] => Nat.le_refl _
  | c :: l => by rw [esL, List.length_append, List.length_cons]; have := esL_ge l; have := esC_ge c; omega

theorem esL_take (l : List Nat) (k : Nat) : (esL (l.take k)).length ≤ (esL l).length := by
  have e : esL l = esL (l.take k) ++ esL (l.drop k) := by rw [← esL_app, List.take_append_drop]
  rw [e, List.length_append]
  omega

theorem getD_lt (s : ByteArray) (k : Nat) : (sl s).getD k 0 < 256 := by
  rw [List.getD_eq_getElem?_getD]
  cases h : (sl s)[k]? with
  | none => exact Nat.zero_lt_succ _
  | some x => exact sl_lt s x (List.mem_of_getElem? h)

set_option maxHeartbeats 2000000 in
set_option maxRecDepth 100000 in
theorem fhex_any {V w W : World} {R : Nat} {out : List Nat} (h : FB V w W R out) (s : ByteArray) (hl : out.length + (hxL (sl s)).length + 2 ≤ 400000) :
    Calls Tryz.prog 58 #[.pointer (some ⟨R, 0, none⟩), .string s] W fun e W' => e = .returned (.tuple #[]) ∧ FB V w W' R (out ++ 60 :: (hxL (sl s) ++ [62])) := by
  have HW := keepf (fun V X o x (hX : FB V w X R o) (ho : o.length ≤ 1000000) => fpwbyte_any hX x ho)
  have HD := keepf (fun V X o c (hX : FB V w X R o) (hc : c < 256) (ho : o.length ≤ 500000) => fdig_any hX c hc ho)
  have HF := keepf h
  obtain ⟨n, hn⟩ : ∃ n, s.size = n := ⟨_, rfl⟩
  have HN := keepf (show (sl s).length = n from by rw [sl_len, hn])
  rw [hxL_two, HN.out] at hl
  have hn1 : n ≤ 400000 := by omega
  clear h
  go_enter Tryz.func58, Tryz.ntmps58
  go_upto_region 1 with (go_at_call 86; refine (HW.out _ _ _ 60 HF.out (by omega)).mono ?_; rintro e w1 ⟨rfl, h1⟩; have HF1 := keepf h1; clear h1)
  obtain ⟨cp, W2, hcv, hc2, hcell, hkeep⟩ := conv_sb w1 s HF1.out.lt
  rw [hn] at hcv hcell hkeep
  have HF2 := keepf (HF1.out.call hc2)
  have HCE := keepf hkeep
  have HGL := keepf (show ∀ k, (sl s).getD k 0 < 256 from getD_lt s)
  obtain ⟨g, hg⟩ : ∃ g, g = w1.heap.size := ⟨_, rfl⟩
  rw [← hg] at hcv HCE
  have HKF := keepf HF2.out.kf
  clear hc2 hcell hkeep hn hg
  go_upto_region 2 with fail
  go_loopw [13] (fun vi wr => ∃ k : Nat, k ≤ n ∧ vi = .int .i64 (k : Nat) ∧ Hid (FB W2 w wr R (out ++ [60] ++ hxL ((sl s).take k)))) (fun vi _ => n - (intOf vi).toNat)
  case atStart => exact ⟨0, by omega, rfl, by rw [List.take_zero, hxL, List.append_nil]; exact HF2.out.here⟩
  case round =>
    obtain ⟨k, hk, rfl, HT⟩ := hrel
    have hlen : (out ++ [60] ++ hxL ((sl s).take k)).length ≤ 500000 := by
      rw [List.length_append, hxL_two, List.length_append, List.length_take]
      simp only [List.length_cons, List.length_nil]
      omega
    obtain ⟨o, ho⟩ : ∃ o, o = out ++ [60] ++ hxL ((sl s).take k) := ⟨_, rfl⟩
    rw [← ho] at HT hlen
    have HO := keepf ho
    clear ho
    by_cases hlt : k < n
    · have c0 := HCE.out k hlt wr HT.out.kf
      have hc256 := HGL.out k
      have HV := keepf (show out ++ [60] ++ hxL ((sl s).take (k + 1)) = o ++ hex2 ((sl s).getD k 0) from by rw [HO.out, hxL_drop (by rw [HN.out]; exact hlt), ← List.append_assoc])
      obtain ⟨c, hc⟩ : ∃ c, c = (sl s).getD k 0 := ⟨_, rfl⟩
      rw [← hc] at c0 hc256 HV
      clear hc
      go_wp2_with (go_at_call 88; refine (HD.out _ _ _ c HT.out hc256 hlen).mono ?_; rintro e w3 ⟨rfl, h3⟩; have HT3 := keepf h3; clear h3)
      go_roundw
      case rel => exact ⟨k + 1, by omega, by go_num, by rw [HV.out]; exact HT3.out⟩
      case measure => simp [intOf]; omega
    · obtain rfl : k = n := by omega
      have HV := keepf (show out ++ 60 :: (hxL (sl s) ++ [62]) = o ++ [62] from by rw [HO.out, List.take_of_length_le (by rw [HN.out]; exact Nat.le_refl _)]; simp)
      go_wp2_with (go_at_call 86; refine (HW.out _ _ _ 62 HT.out (by omega)).mono ?_; rintro e w3 ⟨rfl, h3⟩; have HT3 := keepf h3; clear h3)
      go_end0
      exact ⟨rfl, by rw [HV.out]; exact HT3.out.base (HKF.out.trans HT3.out.kf)⟩

/-- A text in brackets. -/
theorem esC_lt {c : Nat} (h : c < 256) : ∀ d ∈ esC c, d < 256 := by
  intro d hd
  unfold esC at hd
  split at hd
  · simp only [List.mem_cons, List.not_mem_nil, or_false] at hd
    omega
  · simp only [List.mem_cons, List.not_mem_nil, or_false] at hd
    omega

set_option maxHeartbeats 2000000 in
set_option maxRecDepth 100000 in
theorem fplain_any {V w W : World} {R : Nat} {out : List Nat} (h : FB V w W R out) (s : ByteArray) (hl : out.length + (esL (sl s)).length + 2 ≤ 400000) :
    Calls Tryz.prog 59 #[.pointer (some ⟨R, 0, none⟩), .string s] W fun e W' => e = .returned (.tuple #[]) ∧ FB V w W' R (out ++ 40 :: (esL (sl s) ++ [41])) := by
  have HW := keepf (fun V X o x (hX : FB V w X R o) (ho : o.length ≤ 1000000) => fpwbyte_any hX x ho)
  have HF := keepf h
  obtain ⟨n, hn⟩ : ∃ n, s.size = n := ⟨_, rfl⟩
  have HN := keepf (show (sl s).length = n from by rw [sl_len, hn])
  have hn1 : n ≤ 400000 := by have := esL_ge (sl s); rw [HN.out] at this; omega
  have hle : Hid (∀ k, out.length + 1 + (esL ((sl s).take k)).length ≤ 400000) := fun k => by have := esL_take (sl s) k; omega
  clear h
  go_enter Tryz.func59, Tryz.ntmps59
  go_upto_region 1 with (go_at_call 86; refine (HW.out _ _ _ 40 HF.out (by omega)).mono ?_; rintro e w1 ⟨rfl, h1⟩; have HF1 := keepf h1; clear h1)
  obtain ⟨cp, W2, hcv, hc2, hcell, hkeep⟩ := conv_sb w1 s HF1.out.lt
  rw [hn] at hcv hcell hkeep
  have HF2 := keepf (HF1.out.call hc2)
  have HCE := keepf hkeep
  have HGL := keepf (show ∀ k, (sl s).getD k 0 < 256 from getD_lt s)
  obtain ⟨g, hg⟩ : ∃ g, g = w1.heap.size := ⟨_, rfl⟩
  rw [← hg] at hcv HCE
  have HKF := keepf HF2.out.kf
  clear hc2 hcell hkeep hn hg
  go_upto_region 2 with fail
  go_loopw [13] (fun vi wr => ∃ k : Nat, k ≤ n ∧ vi = .int .i64 (k : Nat) ∧ Hid (FB W2 w wr R (out ++ [40] ++ esL ((sl s).take k)))) (fun vi _ => n - (intOf vi).toNat)
  case atStart => exact ⟨0, by omega, rfl, by rw [List.take_zero, esL, List.append_nil]; exact HF2.out.here⟩
  case round =>
    obtain ⟨k, hk, rfl, HT⟩ := hrel
    have hlen : (out ++ [40] ++ esL ((sl s).take k)).length ≤ 500000 := by
      have := hle.out k
      rw [List.length_append, List.length_append]
      simp only [List.length_cons, List.length_nil]
      omega
    obtain ⟨o, ho⟩ : ∃ o, o = out ++ [40] ++ esL ((sl s).take k) := ⟨_, rfl⟩
    rw [← ho] at HT hlen
    have HO := keepf ho
    clear ho
    by_cases hlt : k < n
    · have c0 := HCE.out k hlt wr HT.out.kf
      have hc256 := HGL.out k
      have HV := keepf (show out ++ [40] ++ esL ((sl s).take (k + 1)) = o ++ esC ((sl s).getD k 0) from by rw [HO.out, esL_drop (by rw [HN.out]; exact hlt), ← List.append_assoc])
      obtain ⟨c, hc⟩ : ∃ c, c = (sl s).getD k 0 := ⟨_, rfl⟩
      rw [← hc] at c0 hc256 HV
      clear hc
      by_cases h40 : c = 40
      · subst h40
        have HVE := keepf (show o ++ esC 40 = o ++ [92] ++ [40] from by simp [esC])
        have hl2 : (o ++ [92]).length ≤ 1000000 := by simp; omega
        go_wp2_with first
          | (have hx := HT3.out; go_at_call 86; refine (HW.out _ _ _ 40 HT3.out hl2).mono ?_; rintro e w4 ⟨rfl, h4⟩; have HT4 := keepf h4; clear h4 hx)
          | (go_at_call 86; refine (HW.out _ _ _ 92 HT.out (by omega)).mono ?_; rintro e w3 ⟨rfl, h3⟩; have HT3 := keepf h3; clear h3)
        go_roundw
        case rel => exact ⟨k + 1, by omega, by go_num, by rw [HV.out, HVE.out]; exact HT4.out⟩
        case measure => simp [intOf]; omega
      by_cases h41 : c = 41
      · subst h41
        have HVE := keepf (show o ++ esC 41 = o ++ [92] ++ [41] from by simp [esC])
        have hl2 : (o ++ [92]).length ≤ 1000000 := by simp; omega
        go_wp2_with first
          | (have hx := HT3.out; go_at_call 86; refine (HW.out _ _ _ 41 HT3.out hl2).mono ?_; rintro e w4 ⟨rfl, h4⟩; have HT4 := keepf h4; clear h4 hx)
          | (go_at_call 86; refine (HW.out _ _ _ 92 HT.out (by omega)).mono ?_; rintro e w3 ⟨rfl, h3⟩; have HT3 := keepf h3; clear h3)
        go_roundw
        case rel => exact ⟨k + 1, by omega, by go_num, by rw [HV.out, HVE.out]; exact HT4.out⟩
        case measure => simp [intOf]; omega
      by_cases h92 : c = 92
      · subst h92
        have HVE := keepf (show o ++ esC 92 = o ++ [92] ++ [92] from by simp [esC])
        have hl2 : (o ++ [92]).length ≤ 1000000 := by simp; omega
        go_wp2_with first
          | (have hx := HT3.out; go_at_call 86; refine (HW.out _ _ _ 92 HT3.out hl2).mono ?_; rintro e w4 ⟨rfl, h4⟩; have HT4 := keepf h4; clear h4 hx)
          | (go_at_call 86; refine (HW.out _ _ _ 92 HT.out (by omega)).mono ?_; rintro e w3 ⟨rfl, h3⟩; have HT3 := keepf h3; clear h3)
        go_roundw
        case rel => exact ⟨k + 1, by omega, by go_num, by rw [HV.out, HVE.out]; exact HT4.out⟩
        case measure => simp [intOf]; omega
      have HVE := keepf (show o ++ esC c = o ++ [c] from by unfold esC; rw [if_neg (by omega)])
      have e1 : ((c : Int) == 40) = false := by simp; omega
      have e1' : (c == 40) = false := by simp; omega
      have e2 : ((c : Int) == 41) = false := by simp; omega
      have e2' : (c == 41) = false := by simp; omega
      have e3 : ((c : Int) == 92) = false := by simp; omega
      have e3' : (c == 92) = false := by simp; omega
      clear h40 h41 h92
      go_wp2_with (go_at_call 86; with_reducible refine (HW.out _ _ _ c HT.out (by omega)).mono ?_; rintro e w3 ⟨rfl, h3⟩; have HT3 := keepf h3; clear h3)
      go_roundw
      case rel => exact ⟨k + 1, by omega, by go_num, by rw [HV.out, HVE.out]; exact HT3.out⟩
      case measure => simp [intOf]; omega
    · obtain rfl : k = n := by omega
      have HV := keepf (show out ++ 40 :: (esL (sl s) ++ [41]) = o ++ [41] from by rw [HO.out, List.take_of_length_le (by rw [HN.out]; exact Nat.le_refl _)]; simp)
      go_wp2_with (go_at_call 86; refine (HW.out _ _ _ 41 HT.out (by omega)).mono ?_; rintro e w3 ⟨rfl, h3⟩; have HT3 := keepf h3; clear h3)
      go_end0
      exact ⟨rfl, by rw [HV.out]; exact HT3.out.base (HKF.out.trans HT3.out.kf)⟩

/-- A rune that a text in brackets has none of. -/
def badR (x : Nat) : Bool := decide (x < 32 ∨ 126 < x)

theorem idx_fine (s : ByteArray) : ∀ f pos, s.size ≤ pos + f → (Lib.idxFuncFrom badR true s f pos < 0 ↔ ∀ k, pos ≤ k → k < s.size → 32 ≤ (sl s).getD k 0 ∧ (sl s).getD k 0 ≤ 126) := by
  intro f
  induction f with
  | zero => intro pos h; simp only [Lib.idxFuncFrom]; exact ⟨fun _ k h1 h2 => by omega, fun _ => by decide⟩
  | succ f ih =>
    intro pos h
    rw [Lib.idxFuncFrom]
    by_cases hp : pos < s.size
    · rw [if_pos hp]
      have hat := sl_at s pos hp
      by_cases h128 : (s[pos]'hp).toNat < 128
      · rw [decode_ascii s pos hp h128]
        simp only []
        rw [hat]
        by_cases hb : badR ((sl s).getD pos 0) = true
        · rw [if_pos hb]
          have hb2 := of_decide_eq_true hb
          refine ⟨fun h => by omega, fun h2 => ?_⟩
          have := h2 pos (Nat.le_refl _) hp
          omega
        · rw [if_neg hb, ih (pos + 1) (by omega)]
          have hb2 : ¬ ((sl s).getD pos 0 < 32 ∨ 126 < (sl s).getD pos 0) := fun e => hb (decide_eq_true e)
          refine ⟨fun h2 k hk1 hk2 => ?_, fun h2 k hk1 hk2 => h2 k (by omega) hk2⟩
          by_cases e : k = pos
          · subst e; omega
          · exact h2 k (by omega) hk2
      · have hd := (decode_high s pos hp (by omega)).1
        have hb : badR (Utf8.decode s pos).1 = true := decide_eq_true (.inr (by omega))
        rw [if_pos hb]
        refine ⟨fun h => by omega, fun h2 => ?_⟩
        have := h2 pos (Nat.le_refl _) hp
        omega
    · rw [if_neg hp]
      exact ⟨fun _ k h1 h2 => by omega, fun _ => by decide⟩

theorem fine_idx (s : ByteArray) : decide (0 ≤ Lib.idxFunc badR true s) = !decide (fineT (sl s)) := by
  have h := idx_fine s s.size 0 (by omega)
  have h2 : fineT (sl s) ↔ ∀ k, 0 ≤ k → k < s.size → 32 ≤ (sl s).getD k 0 ∧ (sl s).getD k 0 ≤ 126 := by
    constructor
    · intro hf k _ hk
      exact hf _ (List.mem_of_getElem? (sl_get hk))
    · intro hf c hc
      obtain ⟨k, hk, rfl⟩ := List.mem_iff_getElem.1 hc
      have := hf k (Nat.zero_le _) (by rwa [sl_len] at hk)
      rwa [List.getD_eq_getElem?_getD, List.getElem?_eq_getElem hk] at this
  unfold Lib.idxFunc
  by_cases hf : fineT (sl s)
  · have := h.2 (h2.1 hf)
    rw [decide_eq_true hf, decide_eq_false (by omega)]
    rfl
  · have : ¬ _ := fun e => hf (h2.2 (h.1 e))
    rw [decide_eq_false hf, decide_eq_true (by omega)]
    rfl

set_option maxHeartbeats 1000000 in
theorem fbad_any (x : Nat) (w : World) : Calls Tryz.prog 57 #[.int .i32 (x : Nat)] w fun e w' => e = .returned (.bool (badR x)) ∧ w' = w := by
  by_cases h1 : x < 32
  · have e : badR x = true := decide_eq_true (.inl h1)
    have d1 : decide ((x : Int) < 32) = true := by simp; omega
    have d1' : decide (x < 32) = true := by simp; omega
    rw [e]
    clear e
    go_enter Tryz.func57, Tryz.ntmps57
    go_wp2
    go_ret
    exact ⟨rfl, rfl⟩
  · have d1 : decide ((x : Int) < 32) = false := by simp; omega
    have d1' : decide (x < 32) = false := by simp; omega
    by_cases h2 : 126 < x
    · have e : badR x = true := decide_eq_true (.inr h2)
      have d2 : decide ((126 : Int) < x) = true := by simp; omega
      have d2' : decide (126 < x) = true := by simp; omega
      rw [e]
      clear e
      go_enter Tryz.func57, Tryz.ntmps57
      go_wp2
      go_ret
      exact ⟨rfl, rfl⟩
    · have e : badR x = false := decide_eq_false (by omega)
      have d2 : decide ((126 : Int) < x) = false := by simp; omega
      have d2' : decide (126 < x) = false := by simp; omega
      rw [e]
      clear e
      go_enter Tryz.func57, Tryz.ntmps57
      go_wp2
      go_ret
      exact ⟨rfl, rfl⟩

set_option maxHeartbeats 2000000 in
set_option maxRecDepth 100000 in
/-- A text is put to the form. -/
theorem ftext_any {V w W : World} {R : Nat} {out : List Nat} (h : FB V w W R out) (s : ByteArray) (hl : out.length + (txF (sl s)).length ≤ 400000) :
    Calls Tryz.prog 33 #[.pointer (some ⟨R, 0, none⟩), .string s] W fun e W' => e = .returned (.tuple #[]) ∧ FB V w W' R (out ++ txF (sl s)) := by
  have HC := keepf (Go.Proofs.Tryz.strings_ContainsFunc_grows 57 #[] (fun args w => rfl) badR s W (fun X x _ _ => (fbad_any x X).mono fun e w' h => ⟨h.1, h.2 ▸ Below.refl _ _⟩))
  rw [fine_idx] at HC
  have HF := keepf h
  by_cases hf : fineT (sl s)
  · have HE := keepf (show txF (sl s) = 40 :: (esL (sl s) ++ [41]) from by unfold txF; rw [if_pos hf])
    have HP := keepf (fun X (hX : FB V w X R out) => fplain_any hX s (by rw [HE.out] at hl; simp at hl; omega))
    rw [decide_eq_true hf] at HC
    rw [Bool.not_true] at HC
    clear h hf
    go_enter Tryz.func33, Tryz.ntmps33
    go_wp2_with first
      | (go_at_call 56; refine HC.out.mono ?_; rintro e w1 ⟨rfl, h1⟩; have HF1 := keepf (HF.out.call (Chg.of_below h1)); clear h1)
      | (go_at_call 59; refine (HP.out _ HF1.out).mono ?_; rintro e w2 ⟨rfl, h2⟩; have HF2 := keepf h2; clear h2)
    go_end0
    exact ⟨rfl, by rw [HE.out]; exact HF2.out⟩
  · have HE := keepf (show txF (sl s) = 60 :: (hxL (sl s) ++ [62]) from by unfold txF; rw [if_neg hf])
    have HH := keepf (fun X (hX : FB V w X R out) => fhex_any hX s (by rw [HE.out] at hl; simp at hl; omega))
    rw [decide_eq_false hf] at HC
    rw [Bool.not_false] at HC
    clear h hf
    go_enter Tryz.func33, Tryz.ntmps33
    go_wp2_with first
      | (go_at_call 56; refine HC.out.mono ?_; rintro e w1 ⟨rfl, h1⟩; have HF1 := keepf (HF.out.call (Chg.of_below h1)); clear h1)
      | (go_at_call 58; refine (HH.out _ HF1.out).mono ?_; rintro e w2 ⟨rfl, h2⟩; have HF2 := keepf h2; clear h2)
    go_end0
    exact ⟨rfl, by rw [HE.out]; exact HF2.out⟩

end Go.Proofs.YtcehpobjnbgpdaaGreatDoor

/- The document's own small functions of words of a file: space, delimiters, digits to the base 16, where regular bytes end, and where space and comments end. -/
namespace Go.Proofs.YtcehpobjnbgpdaaGreatDoor
open Go.RowKit
set_option linter.unusedVariables false
set_option linter.unusedSimpArgs false

theorem u8_ne {c k : Nat} (h : c ≠ k) : ((c : Int) == (k : Int)) = false := by simp; omega

theorem isSp_no {c : Nat} (h0 : c ≠ 0) (h1 : c ≠ 9) (h2 : c ≠ 10) (h3 : c ≠ 12) (h4 : c ≠ 13) (h5 : c ≠ 32) : isSp c = false := by simp [isSp, h0, h1, h2, h3, h4, h5]

theorem isDl_no {c : Nat} (h0 : c ≠ 40) (h1 : c ≠ 41) (h2 : c ≠ 60) (h3 : c ≠ 62) (h4 : c ≠ 91) (h5 : c ≠ 93) (h6 : c ≠ 123) (h7 : c ≠ 125) (h8 : c ≠ 47) (h9 : c ≠ 37) : isDl c = false := by simp [isDl, h0, h1, h2, h3, h4, h5, h6, h7, h8, h9]

theorem rspace_any (c : Nat) (w : World) : Calls Tryz.prog 110 #[.int .u8 (c : Nat)] w fun e w' => e = .returned (.bool (isSp c)) ∧ w = w' := by
  by_cases h : c = 0 ∨ c = 9 ∨ c = 10 ∨ c = 12 ∨ c = 13 ∨ c = 32
  · rcases h with rfl | rfl | rfl | rfl | rfl | rfl
    all_goals
      go_enter Tryz.func110, Tryz.ntmps110
      go_wp2_with fail
      go_ret
      exact ⟨rfl, rfl⟩
  · have HS := keepf (isSp_no (c := c) (by omega) (by omega) (by omega) (by omega) (by omega) (by omega))
    have e0 : ((c : Int) == 0) = false := by simp; omega
    have e1 : ((c : Int) == 9) = false := by simp; omega
    have e2 : ((c : Int) == 10) = false := by simp; omega
    have e3 : ((c : Int) == 12) = false := by simp; omega
    have e4 : ((c : Int) == 13) = false := by simp; omega
    have e5 : ((c : Int) == 32) = false := by simp; omega
    clear h
    go_enter Tryz.func110, Tryz.ntmps110
    go_wp2_with fail
    go_ret
    exact ⟨by rw [HS.out]; rfl, rfl⟩

theorem rdelim_any (c : Nat) (w : World) : Calls Tryz.prog 31 #[.int .u8 (c : Nat)] w fun e w' => e = .returned (.bool (isDl c)) ∧ w = w' := by
  by_cases h : c = 40 ∨ c = 41 ∨ c = 60 ∨ c = 62 ∨ c = 91 ∨ c = 93 ∨ c = 123 ∨ c = 125 ∨ c = 47 ∨ c = 37
  · rcases h with rfl | rfl | rfl | rfl | rfl | rfl | rfl | rfl | rfl | rfl
    all_goals
      go_enter Tryz.func31, Tryz.ntmps31
      go_wp2_with fail
      go_ret
      exact ⟨rfl, rfl⟩
  · have HS := keepf (isDl_no (c := c) (by omega) (by omega) (by omega) (by omega) (by omega) (by omega) (by omega) (by omega) (by omega) (by omega))
    have e0 : ((c : Int) == 40) = false := by simp; omega
    have e1 : ((c : Int) == 41) = false := by simp; omega
    have e2 : ((c : Int) == 60) = false := by simp; omega
    have e3 : ((c : Int) == 62) = false := by simp; omega
    have e4 : ((c : Int) == 91) = false := by simp; omega
    have e5 : ((c : Int) == 93) = false := by simp; omega
    have e6 : ((c : Int) == 123) = false := by simp; omega
    have e7 : ((c : Int) == 125) = false := by simp; omega
    have e8 : ((c : Int) == 47) = false := by simp; omega
    have e9 : ((c : Int) == 37) = false := by simp; omega
    clear h
    go_enter Tryz.func31, Tryz.ntmps31
    go_wp2_with fail
    go_ret
    exact ⟨by rw [HS.out]; rfl, rfl⟩

/-- A digit to the base 16, or -1. -/
def hexI (c : Nat) : Int := match hexD c with
  | some d => (d : Nat)
  | none => -1

theorem rhex_any (c : Nat) (hc : c < 256) (w : World) : Calls Tryz.prog 111 #[.int .u8 (c : Nat)] w fun e w' => e = .returned (.int .i64 (hexI c)) ∧ w = w' := by
  by_cases h1 : 48 ≤ c ∧ c ≤ 57
  · have HE := keepf (show hexI c = (c : Int) - 48 from by unfold hexI hexD; rw [if_pos h1]; simp only []; omega)
    obtain ⟨a, b⟩ := h1
    go_enter Tryz.func111, Tryz.ntmps111
    go_wp2_with fail
    go_ret
    exact ⟨by rw [HE.out]; rfl, rfl⟩
  by_cases h2 : 97 ≤ c ∧ c ≤ 102
  · have HE := keepf (show hexI c = (c : Int) - 87 from by unfold hexI hexD; rw [if_neg h1, if_pos h2]; simp only []; omega)
    have g1 : ¬ c ≤ 57 := by omega
    obtain ⟨a, b⟩ := h2
    clear h1
    go_enter Tryz.func111, Tryz.ntmps111
    go_wp2_with fail
    go_ret
    exact ⟨by rw [HE.out]; rfl, rfl⟩
  by_cases h3 : 65 ≤ c ∧ c ≤ 70
  · have HE := keepf (show hexI c = (c : Int) - 55 from by unfold hexI hexD; rw [if_neg h1, if_neg h2, if_pos h3]; simp only []; omega)
    have g1 : ¬ c ≤ 57 := by omega
    have g2 : ¬ 97 ≤ c := by omega
    obtain ⟨a, b⟩ := h3
    clear h1 h2
    go_enter Tryz.func111, Tryz.ntmps111
    go_wp2_with fail
    go_ret
    exact ⟨by rw [HE.out]; rfl, rfl⟩
  · have HE := keepf (show hexI c = -1 from by unfold hexI hexD; rw [if_neg h1, if_neg h2, if_neg h3])
    have k1 : c < 48 ∨ (57 < c ∧ c < 65) ∨ (70 < c ∧ c < 97) ∨ 102 < c := by omega
    clear h1 h2 h3
    rcases k1 with k | ⟨k, j⟩ | ⟨k, j⟩ | k
    all_goals
      go_enter Tryz.func111, Tryz.ntmps111
      go_wp2_with fail
      go_ret
      exact ⟨by rw [HE.out]; rfl, rfl⟩

theorem rcut_any (last : Bool) (w : World) : Calls Tryz.prog 112 #[.bool last] w fun e w' => e = .returned (.int .i64 (cutE last)) ∧ w = w' := by
  cases last
  all_goals
    go_enter Tryz.func112, Tryz.ntmps112
    go_wp2_with fail
    go_ret
    exact ⟨rfl, rfl⟩

set_option maxHeartbeats 1000000 in
/-- Where regular bytes end. -/
theorem rrun_any (bs : List Nat) (A : Option Addr) (c p : Nat) (w : World) (hS : Src w 1 A bs.length c (lcells bs)) (hl : bs.length ≤ 1000000) (hc : bs.length ≤ c) (hp : p ≤ bs.length) :
    Calls Tryz.prog 70 #[.slice A bs.length c, .int .i64 (p : Nat)] w fun e w' => e = .returned (.int .i64 ((p + rgs (bs.drop p) : Nat) : Int)) ∧ w = w' := by
  have HS := keepf hS
  obtain ⟨n, hn⟩ : ∃ n, n = bs.length := ⟨_, rfl⟩
  have HN := keepf hn
  rw [← hn] at hl hp hc ⊢
  clear hS hn
  go_enter Tryz.func70, Tryz.ntmps70
  go_upto_region 1 with fail
  go_loopw [1] (fun vk wr => ∃ k : Nat, k ≤ n ∧ vk = .int .i64 (k : Nat) ∧ wr = w ∧ Hid (p + rgs (bs.drop p) = k + rgs (bs.drop k))) (fun vk _ => n - (intOf vk).toNat)
  case atStart => exact ⟨p, hp, rfl, rfl, keepf rfl⟩
  case round =>
    obtain ⟨k, hk, rfl, rfl, HR⟩ := hrel
    by_cases h1 : k < n
    · obtain ⟨x, hx, hd⟩ := drop_at (bs := bs) (k := k) (by rw [← HN.out]; exact h1)
      obtain ⟨b, off, rfl, hcell⟩ := lcell HS.out (Chg.refl _ _) (by rw [← HN.out]; omega)
      have c0 := hcell k x hx
      have HSP := keepf (fun W => rspace_any x W)
      have HDL := keepf (fun W => rdelim_any x W)
      have HD := keepf hd
      have i1 : (k : Int) < n := by omega
      clear hcell hx hd
      by_cases h2 : isSp x = true
      · have HG := keepf (show isRg x = false from by simp [isRg, h2])
        rw [h2] at HSP
        go_wp2_with (go_at_call 110; refine (HSP.out _).mono ?_; rintro e w3 ⟨rfl, rfl⟩)
        go_ret
        refine ⟨ret_l64 (by rw [HR.out, HD.out, rgs, if_neg (by rw [HG.out]; decide)]; rfl), rfl⟩
      · rw [show isSp x = false from by simpa using h2] at HSP
        by_cases h3 : isDl x = true
        · have HG := keepf (show isRg x = false from by simp [isRg, h3])
          rw [h3] at HDL
          go_wp2_with (first
            | (go_at_call 110; refine (HSP.out _).mono ?_; rintro e w3 ⟨rfl, rfl⟩)
            | (go_at_call 31; refine (HDL.out _).mono ?_; rintro e w3 ⟨rfl, rfl⟩))
          go_ret
          refine ⟨ret_l64 (by rw [HR.out, HD.out, rgs, if_neg (by rw [HG.out]; decide)]; rfl), rfl⟩
        · have HG := keepf (show isRg x = true from by simp [isRg, h2, h3])
          rw [show isDl x = false from by simpa using h3] at HDL
          go_wp2_with (first
            | (go_at_call 110; refine (HSP.out _).mono ?_; rintro e w3 ⟨rfl, rfl⟩)
            | (go_at_call 31; refine (HDL.out _).mono ?_; rintro e w3 ⟨rfl, rfl⟩))
          go_roundw
          case rel => exact ⟨k + 1, by omega, by go_num, by simp, keepf (by rw [HR.out, HD.out, rgs, if_pos HG.out]; omega)⟩
          case measure => simp [intOf]; omega
    · obtain rfl : k = n := by omega
      go_wp2_with fail
      go_ret
      exact ⟨ret_l64 (by rw [HR.out, List.drop_of_length_le (by rw [← HN.out]; exact Nat.le_refl _)]; rfl), rfl⟩

/-- Where space and comments end, from any place on. -/
def skipO (bs : List Nat) (p : Int) : Nat := if p < 0 then 0 else if p ≤ bs.length then p.toNat + skp false (bs.drop p.toNat) else bs.length

theorem skp_sp {c : Nat} (l : List Nat) (h : isSp c = true) : skp false (c :: l) = skp false l + 1 := by rw [skp, if_pos h]

theorem skp_37 (l : List Nat) : skp false (37 :: l) = skp true (37 :: l) := by simp [skp, isSp]

theorem skp_no {c : Nat} (l : List Nat) (h : isSp c = false) (h2 : c ≠ 37) : skp false (c :: l) = 0 := by rw [skp, if_neg (by rw [h]; decide), if_neg h2]

theorem skp_com {c : Nat} (l : List Nat) (h1 : c ≠ 10) (h2 : c ≠ 13) : skp true (c :: l) = skp true l + 1 := by
  have e : (!(c == 10 || c == 13)) = true := by simp [h1, h2]
  rw [skp, e]

theorem skp_eol {c : Nat} (l : List Nat) (h : c = 10 ∨ c = 13) : skp true (c :: l) = skp false (c :: l) := by
  rcases h with rfl | rfl <;> simp [skp, isSp]

set_option maxHeartbeats 2000000 in
theorem rskip_in (bs : List Nat) (A : Option Addr) (c p : Nat) (w : World) (hS : Src w 1 A bs.length c (lcells bs)) (hl : bs.length ≤ 1000000) (hc : bs.length ≤ c) (hp : p ≤ bs.length) :
    Calls Tryz.prog 69 #[.slice A bs.length c, .int .i64 (p : Nat)] w fun e w' => e = .returned (.int .i64 ((p + skp false (bs.drop p) : Nat) : Int)) ∧ w = w' := by
  have HS := keepf hS
  obtain ⟨n, hn⟩ : ∃ n, n = bs.length := ⟨_, rfl⟩
  have HN := keepf hn
  rw [← hn] at hl hp hc ⊢
  clear hS hn
  go_enter Tryz.func69, Tryz.ntmps69
  go_upto_region 3 with fail
  go_loopw [1] (fun vk wr => ∃ k : Nat, k ≤ n ∧ vk = .int .i64 (k : Nat) ∧ wr = w ∧ Hid (p + skp false (bs.drop p) = k + skp false (bs.drop k))) (fun vk _ => n - (intOf vk).toNat)
  case atStart => exact ⟨p, hp, rfl, rfl, keepf rfl⟩
  case round =>
    obtain ⟨k, hk, rfl, rfl, HR⟩ := hrel
    by_cases h1 : k < n
    · obtain ⟨x, hx, hd⟩ := drop_at (bs := bs) (k := k) (by rw [← HN.out]; exact h1)
      obtain ⟨b, off, rfl, hcell⟩ := lcell HS.out (Chg.refl _ _) (by rw [← HN.out]; omega)
      have c0 := hcell k x hx
      have HCELL := keepf hcell
      have HSP := keepf (fun W => rspace_any x W)
      have HD := keepf hd
      have HX := keepf hx
      have i1 : (k : Int) < n := by omega
      clear hcell hx hd
      by_cases h2 : isSp x = true
      · have HG := keepf h2
        rw [h2] at HSP
        clear h2
        go_wp2_with (go_at_call 110; refine (HSP.out _).mono ?_; rintro e w3 ⟨rfl, rfl⟩)
        go_roundw
        case rel => exact ⟨k + 1, by omega, by go_num, by simp, keepf (by rw [HR.out, HD.out, skp_sp _ HG.out]; omega)⟩
        case measure => simp [intOf]; omega
      · have HG := keepf (show isSp x = false from by simpa using h2)
        rw [HG.out] at HSP
        clear h2
        by_cases h3 : x = 37
        · have HX3 := keepf h3
          subst h3
          go_upto_region 8 with (go_at_call 110; refine (HSP.out _).mono ?_; rintro e w3 ⟨rfl, rfl⟩)
          clear c0
          go_loopw [1] (fun vj wr2 => ∃ j : Nat, k ≤ j ∧ j ≤ n ∧ vj = .int .i64 (j : Nat) ∧ wr2 = wr ∧ Hid (p + skp false (bs.drop p) = j + skp true (bs.drop j))) (fun vj _ => n - (intOf vj).toNat)
          case atStart => exact ⟨k, Nat.le_refl _, hk, rfl, rfl, keepf (by rw [HR.out, HD.out, skp_37])⟩
          case round =>
            obtain ⟨j, hkj, hj, rfl, rfl, HR2⟩ := hrel
            by_cases h4 : j < n
            · obtain ⟨y, hy, hd2⟩ := drop_at (bs := bs) (k := j) (by rw [← HN.out]; exact h4)
              have c0 := HCELL.out j y hy
              have HD2 := keepf hd2
              have HY := keepf hy
              have i2 : (j : Int) < n := by omega
              clear hy hd2
              by_cases h5 : y = 10 ∨ y = 13
              · have HE := keepf (skp_eol (bs.drop (j + 1)) h5)
                have hjk : k < j := by
                  rcases Nat.lt_or_eq_of_le hkj with h | h
                  · exact h
                  · subst h
                    have h7 := HX.out
                    rw [HY.out] at h7
                    cases h7
                    omega
                rcases h5 with rfl | rfl
                all_goals
                  go_wp2_with fail
                  go_roundw
                  case rel => exact ⟨j, hj, by go_num, by simp, keepf (by rw [HR2.out, HD2.out, HE.out])⟩
                  case measure => simp [intOf]; omega
              · have HE := keepf (skp_com (c := y) (bs.drop (j + 1)) (by omega) (by omega))
                have e0 : ((y : Int) != 10) = true := by simp; omega
                have e1 : ((y : Int) != 13) = true := by simp; omega
                have e2 : ((y : Int) == 10) = false := by simp; omega
                have e3 : ((y : Int) == 13) = false := by simp; omega
                clear h5
                go_wp2_with fail
                go_roundw
                case rel => exact ⟨j + 1, by omega, by omega, by go_num, by simp, keepf (by rw [HR2.out, HD2.out, HE.out]; omega)⟩
                case measure => simp [intOf]; omega
            · obtain rfl : j = n := by omega
              go_wp2_with fail
              go_roundw
              case rel => exact ⟨j, Nat.le_refl _, by go_num, by simp, keepf (by rw [HR2.out, List.drop_of_length_le (by rw [← HN.out]; exact Nat.le_refl _)]; rfl)⟩
              case measure => simp [intOf]; omega
        · have e0 : ((x : Int) != 37) = true := by simp; omega
          have e1 : ((x : Int) == 37) = false := by simp; omega
          have HE := keepf (skp_no (bs.drop (k + 1)) HG.out h3)
          clear h3
          go_wp2_with (go_at_call 110; refine (HSP.out _).mono ?_; rintro e w3 ⟨rfl, rfl⟩)
          go_ret
          exact ⟨ret_l64 (by rw [HR.out, HD.out, HE.out]; rfl), rfl⟩
    · obtain rfl : k = n := by omega
      go_wp2_with fail
      go_ret
      exact ⟨ret_l64 (by rw [HR.out, List.drop_of_length_le (by rw [← HN.out]; exact Nat.le_refl _)]; rfl), rfl⟩

theorem rskip_any (bs : List Nat) (A : Option Addr) (c : Nat) (p : Int) (w : World) (hS : Src w 1 A bs.length c (lcells bs)) (hl : bs.length ≤ 1000000) (hc : bs.length ≤ c) :
    Calls Tryz.prog 69 #[.slice A bs.length c, .int .i64 p] w fun e w' => e = .returned (.int .i64 (skipO bs p : Nat)) ∧ w = w' := by
  by_cases h0 : p < 0
  · have HE := keepf (show skipO bs p = 0 from if_pos h0)
    obtain ⟨n, hn⟩ : ∃ n, n = bs.length := ⟨_, rfl⟩
    rw [← hn] at hl ⊢
    clear hS hc hn
    go_enter Tryz.func69, Tryz.ntmps69
    go_wp2_with fail
    go_ret
    exact ⟨ret_l64 (by rw [HE.out]; rfl), rfl⟩
  · by_cases h1 : p ≤ bs.length
    · have h := rskip_in bs A c p.toNat w hS hl hc (by omega)
      rw [show ((p.toNat : Nat) : Int) = p from by omega] at h
      rwa [show skipO bs p = p.toNat + skp false (bs.drop p.toNat) from by rw [skipO, if_neg h0, if_pos h1]]
    · have HE := keepf (show skipO bs p = bs.length from by rw [skipO, if_neg h0, if_neg h1])
      obtain ⟨n, hn⟩ : ∃ n, n = bs.length := ⟨_, rfl⟩
      rw [← hn] at hl h1 HE ⊢
      clear hS hc hn
      go_enter Tryz.func69, Tryz.ntmps69
      go_wp2_with fail
      go_loopw [1] (fun vk wr => vk = .int .i64 p ∧ wr = w) (fun _ _ => 0)
      case atStart => exact ⟨rfl, rfl⟩
      case round =>
        obtain ⟨rfl, rfl⟩ := hrel
        go_wp2_with fail
        go_ret
        exact ⟨ret_l64 (by rw [HE.out]), rfl⟩

end Go.Proofs.YtcehpobjnbgpdaaGreatDoor

/- The program's own small functions of words of a file: space, delimiters, digits to the base 16, what a byte behind a backslash is. -/
namespace Go.Proofs.YtcehpobjnbgpdaaGreatDoor
open Go.RowKit
set_option linter.unusedVariables false
set_option linter.unusedSimpArgs false

theorem pspace_any (c : Nat) (w : World) : Calls Tryz.prog 96 #[.int .u8 (c : Nat)] w fun e w' => e = .returned (.bool (isSp c)) ∧ w = w' := by
  by_cases h : c = 0 ∨ c = 9 ∨ c = 10 ∨ c = 12 ∨ c = 13 ∨ c = 32
  · rcases h with rfl | rfl | rfl | rfl | rfl | rfl
    all_goals
      go_enter Tryz.func96, Tryz.ntmps96
      go_wp2_with fail
      go_ret
      exact ⟨rfl, rfl⟩
  · have HS := keepf (isSp_no (c := c) (by omega) (by omega) (by omega) (by omega) (by omega) (by omega))
    have e0 : ((c : Int) == 0) = false := by simp; omega
    have e1 : ((c : Int) == 9) = false := by simp; omega
    have e2 : ((c : Int) == 10) = false := by simp; omega
    have e3 : ((c : Int) == 12) = false := by simp; omega
    have e4 : ((c : Int) == 13) = false := by simp; omega
    have e5 : ((c : Int) == 32) = false := by simp; omega
    clear h
    go_enter Tryz.func96, Tryz.ntmps96
    go_wp2_with fail
    go_ret
    exact ⟨by rw [HS.out]; rfl, rfl⟩

theorem pdelim_any (c : Nat) (w : World) : Calls Tryz.prog 87 #[.int .u8 (c : Nat)] w fun e w' => e = .returned (.bool (isDl c)) ∧ w = w' := by
  by_cases h : c = 40 ∨ c = 41 ∨ c = 60 ∨ c = 62 ∨ c = 91 ∨ c = 93 ∨ c = 123 ∨ c = 125 ∨ c = 47 ∨ c = 37
  · rcases h with rfl | rfl | rfl | rfl | rfl | rfl | rfl | rfl | rfl | rfl
    all_goals
      go_enter Tryz.func87, Tryz.ntmps87
      go_wp2_with fail
      go_ret
      exact ⟨rfl, rfl⟩
  · have HS := keepf (isDl_no (c := c) (by omega) (by omega) (by omega) (by omega) (by omega) (by omega) (by omega) (by omega) (by omega) (by omega))
    have e0 : ((c : Int) == 40) = false := by simp; omega
    have e1 : ((c : Int) == 41) = false := by simp; omega
    have e2 : ((c : Int) == 60) = false := by simp; omega
    have e3 : ((c : Int) == 62) = false := by simp; omega
    have e4 : ((c : Int) == 91) = false := by simp; omega
    have e5 : ((c : Int) == 93) = false := by simp; omega
    have e6 : ((c : Int) == 123) = false := by simp; omega
    have e7 : ((c : Int) == 125) = false := by simp; omega
    have e8 : ((c : Int) == 47) = false := by simp; omega
    have e9 : ((c : Int) == 37) = false := by simp; omega
    clear h
    go_enter Tryz.func87, Tryz.ntmps87
    go_wp2_with fail
    go_ret
    exact ⟨by rw [HS.out]; rfl, rfl⟩

/-- A digit to the base 16, and whether it is one. -/
def hexV (c : Nat) : Nat := (hexD c).getD 0

theorem hexV_lt (c : Nat) : hexV c < 16 := by
  unfold hexV
  cases h : hexD c with
  | none => decide
  | some d => exact hexD_lt h

theorem pdigit_any (c : Nat) (hc : c < 256) (w : World) : Calls Tryz.prog 127 #[.int .u8 (c : Nat)] w fun e w' => e = .returned (.tuple #[.int .u8 (hexV c : Nat), .bool (hexD c).isSome]) ∧ w = w' := by
  by_cases h1 : 48 ≤ c ∧ c ≤ 57
  · have HE := keepf (show hexD c = some (c - 48) from by unfold hexD; rw [if_pos h1])
    have HV := keepf (show (hexV c : Int) = (c : Int) - 48 from by unfold hexV; rw [HE.out]; simp only [Option.getD_some]; omega)
    obtain ⟨a, b⟩ := h1
    have d1 : IntKind.u8.wrap ((c : Int) - 48) = (c : Int) - 48 := by rw [IntKind.wrap_u8]; omega
    go_enter Tryz.func127, Tryz.ntmps127
    go_wp2_with fail
    go_ret2
    exact ⟨by rw [HE.out, HV.out]; rfl, rfl⟩
  by_cases h2 : 97 ≤ c ∧ c ≤ 102
  · have HE := keepf (show hexD c = some (c - 87) from by unfold hexD; rw [if_neg h1, if_pos h2])
    have HV := keepf (show (hexV c : Int) = (c : Int) - 97 + 10 from by unfold hexV; rw [HE.out]; simp only [Option.getD_some]; omega)
    have g1 : ¬ c ≤ 57 := by omega
    have d1 : IntKind.u8.wrap ((c : Int) - 97) = (c : Int) - 97 := by rw [IntKind.wrap_u8]; omega
    have d2 : IntKind.u8.wrap ((c : Int) - 97 + 10) = (c : Int) - 97 + 10 := by rw [IntKind.wrap_u8]; omega
    obtain ⟨a, b⟩ := h2
    clear h1
    go_enter Tryz.func127, Tryz.ntmps127
    go_wp2_with fail
    go_ret2
    exact ⟨by rw [HE.out, HV.out]; rfl, rfl⟩
  by_cases h3 : 65 ≤ c ∧ c ≤ 70
  · have HE := keepf (show hexD c = some (c - 55) from by unfold hexD; rw [if_neg h1, if_neg h2, if_pos h3])
    have HV := keepf (show (hexV c : Int) = (c : Int) - 65 + 10 from by unfold hexV; rw [HE.out]; simp only [Option.getD_some]; omega)
    have g1 : ¬ c ≤ 57 := by omega
    have g2 : ¬ 97 ≤ c := by omega
    have d1 : IntKind.u8.wrap ((c : Int) - 65) = (c : Int) - 65 := by rw [IntKind.wrap_u8]; omega
    have d2 : IntKind.u8.wrap ((c : Int) - 65 + 10) = (c : Int) - 65 + 10 := by rw [IntKind.wrap_u8]; omega
    obtain ⟨a, b⟩ := h3
    clear h1 h2
    go_enter Tryz.func127, Tryz.ntmps127
    go_wp2_with fail
    go_ret2
    exact ⟨by rw [HE.out, HV.out]; rfl, rfl⟩
  · have HE := keepf (show hexD c = none from by unfold hexD; rw [if_neg h1, if_neg h2, if_neg h3])
    have HV := keepf (show hexV c = 0 from by unfold hexV; rw [HE.out]; rfl)
    have m1 : (decide ((48 : Int) ≤ c) && decide ((c : Int) ≤ 57)) = false := by simp; omega
    have m2 : (decide ((97 : Int) ≤ c) && decide ((c : Int) ≤ 102)) = false := by simp; omega
    have m3 : (decide ((65 : Int) ≤ c) && decide ((c : Int) ≤ 70)) = false := by simp; omega
    go_enter Tryz.func127, Tryz.ntmps127
    by_cases k1 : 48 ≤ c
    · have k2 : ¬ c ≤ 57 := by omega
      by_cases k3 : 97 ≤ c
      · have k4 : ¬ c ≤ 102 := by omega
        have k5 : 65 ≤ c := by omega
        have k6 : ¬ c ≤ 70 := by omega
        clear h1 h2 h3 m1 m2 m3
        go_wp2_with fail
        go_ret2
        exact ⟨by rw [HE.out, HV.out]; rfl, rfl⟩
      · by_cases k5 : 65 ≤ c
        · have k6 : ¬ c ≤ 70 := by omega
          clear h1 h2 h3 m1 m2 m3
          go_wp2_with fail
          go_ret2
          exact ⟨by rw [HE.out, HV.out]; rfl, rfl⟩
        · clear h1 h2 h3 m1 m2 m3
          go_wp2_with fail
          go_ret2
          exact ⟨by rw [HE.out, HV.out]; rfl, rfl⟩
    · have k3 : ¬ 97 ≤ c := by omega
      have k5 : ¬ 65 ≤ c := by omega
      clear h1 h2 h3 m1 m2 m3
      go_wp2_with fail
      go_ret2
      exact ⟨by rw [HE.out, HV.out]; rfl, rfl⟩

/-- What a byte behind a backslash is. -/
def mnt (c : Nat) : Nat := if c = 110 then 10 else if c = 114 then 13 else if c = 116 then 9 else if c = 98 then 8 else if c = 102 then 12 else c

theorem mnt_lt {c : Nat} (h : c < 256) : mnt c < 256 := by
  unfold mnt
  repeat' split
  all_goals omega

theorem pmeant_any (c : Nat) (w : World) : Calls Tryz.prog 126 #[.int .u8 (c : Nat)] w fun e w' => e = .returned (.int .u8 (mnt c : Nat)) ∧ w = w' := by
  by_cases h : c = 110 ∨ c = 114 ∨ c = 116 ∨ c = 98 ∨ c = 102
  · rcases h with rfl | rfl | rfl | rfl | rfl
    all_goals
      go_enter Tryz.func126, Tryz.ntmps126
      go_wp2_with fail
      go_ret
      exact ⟨rfl, rfl⟩
  · have HE := keepf (show mnt c = c from by unfold mnt; rw [if_neg (by omega), if_neg (by omega), if_neg (by omega), if_neg (by omega), if_neg (by omega)])
    have e0 : ((c : Int) == 110) = false := by simp; omega
    have e1 : ((c : Int) == 114) = false := by simp; omega
    have e2 : ((c : Int) == 116) = false := by simp; omega
    have e3 : ((c : Int) == 98) = false := by simp; omega
    have e4 : ((c : Int) == 102) = false := by simp; omega
    clear h
    go_enter Tryz.func126, Tryz.ntmps126
    go_wp2_with fail
    go_ret
    exact ⟨by rw [HE.out]; rfl, rfl⟩

end Go.Proofs.YtcehpobjnbgpdaaGreatDoor

/- The reader's small steps: a byte is taken, or passed; what is told at the end; a number to the base 8. -/
namespace Go.Proofs.YtcehpobjnbgpdaaGreatDoor
open Go.RowKit
set_option linter.unusedVariables false
set_option linter.unusedSimpArgs false

set_option maxHeartbeats 1000000 in
/-- No byte is left. -/
theorem ptake_end {V w W : World} {A : Option Addr} {n c R : Nat} {last : Bool} {out : List Nat} (h : RD V w W A n c last R n out) :
    Calls Tryz.prog 97 #[.pointer (some ⟨R, 0, none⟩)] W fun e W' => e = .returned (.tuple #[.int .u8 0, .bool false]) ∧ RD V w W' A n c last R n out := by
  obtain ⟨c2, c3, c4, f3⟩ := h.cells
  have H := keepf h
  clear h
  go_enter Tryz.func97, Tryz.ntmps97
  go_upto_region 1 with fail
  go_quiet (fail)
  go_wp2_with fail
  go_ret2
  exact ⟨rfl, H.out.drewN _⟩

set_option maxHeartbeats 1000000 in
theorem ptake_at {V w W : World} {A : Option Addr} {bs : List Nat} {c R p x : Nat} {last : Bool} {out : List Nat} (h : RD V w W A bs.length c last R p out) (hS : Src w 1 A bs.length c (lcells bs)) (hl : bs.length ≤ 1000000) (hc : bs.length ≤ c) (hx : bs[p]? = some x) :
    Calls Tryz.prog 97 #[.pointer (some ⟨R, 0, none⟩)] W fun e W' => e = .returned (.tuple #[.int .u8 (x : Nat), .bool true]) ∧ RD V w W' A bs.length c last R (p + 1) out := by
  have hp : p < bs.length := (List.getElem?_eq_some_iff.1 hx).1
  obtain ⟨c2, c3, c4, f3⟩ := h.cells
  have hR := h.new
  obtain ⟨b, off, rfl, hcell⟩ := lcell hS h.chg (by omega)
  have c0 := hcell p x hx
  have hbR : b ≠ R := by
    have h0 := (lcell hS (Chg.refl NoS w) (by omega))
    obtain ⟨b', off', e, hc'⟩ := h0
    cases e
    have := cell_lt (hc' p x hx)
    simp only at this
    omega
  have H := keepf h
  obtain ⟨n, hn⟩ : ∃ n, bs.length = n := ⟨_, rfl⟩
  rw [hn] at c2 hp hl hc H ⊢
  clear h hS hx hcell hn
  have e1 : ((p : Int) == n) = false := by simp; omega
  have e2 : (p == n) = false := by simp; omega
  have i1 : ((p : Int) + 1 - 1) = p := by omega
  have i2 : ((p : Int) + 1).toNat = p + 1 := by omega
  go_enter Tryz.func97, Tryz.ntmps97
  go_upto_region 1 with fail
  go_quiet (fail)
  go_upto_region 4 with fail
  go_quiet (fail)
  go_wp2_with fail
  go_ret2
  exact ⟨rfl, ((H.out.drewN _).at_ _).drewN _⟩

set_option maxHeartbeats 1000000 in
theorem ppass_end {V w W : World} {A : Option Addr} {n c R : Nat} {last : Bool} {out : List Nat} (h : RD V w W A n c last R n out) (y : Nat) :
    Calls Tryz.prog 101 #[.pointer (some ⟨R, 0, none⟩), .int .u8 (y : Nat)] W fun e W' => e = .returned (.bool false) ∧ RD V w W' A n c last R n out := by
  obtain ⟨c2, c3, c4, f3⟩ := h.cells
  have H := keepf h
  clear h
  go_enter Tryz.func101, Tryz.ntmps101
  go_upto_region 1 with fail
  go_quiet (fail)
  go_wp2_with fail
  go_ret
  exact ⟨rfl, H.out.drewN _⟩

set_option maxHeartbeats 1000000 in
theorem ppass_no {V w W : World} {A : Option Addr} {bs : List Nat} {c R p x : Nat} {last : Bool} {out : List Nat} (h : RD V w W A bs.length c last R p out) (hS : Src w 1 A bs.length c (lcells bs)) (hl : bs.length ≤ 1000000) (hc : bs.length ≤ c) (hx : bs[p]? = some x) (y : Nat) (hy : x ≠ y) :
    Calls Tryz.prog 101 #[.pointer (some ⟨R, 0, none⟩), .int .u8 (y : Nat)] W fun e W' => e = .returned (.bool false) ∧ RD V w W' A bs.length c last R p out := by
  have hp : p < bs.length := (List.getElem?_eq_some_iff.1 hx).1
  obtain ⟨c2, c3, c4, f3⟩ := h.cells
  have hR := h.new
  obtain ⟨b, off, rfl, hcell⟩ := lcell hS h.chg (by omega)
  have c0 := hcell p x hx
  have hbR : b ≠ R := by
    have h0 := (lcell hS (Chg.refl NoS w) (by omega))
    obtain ⟨b', off', e, hc'⟩ := h0
    cases e
    have := cell_lt (hc' p x hx)
    simp only at this
    omega
  have H := keepf h
  obtain ⟨n, hn⟩ : ∃ n, bs.length = n := ⟨_, rfl⟩
  rw [hn] at c2 hp hl hc H ⊢
  clear h hS hx hcell hn
  have e1 : ((p : Int) == n) = false := by simp; omega
  have e2 : (p == n) = false := by simp; omega
  have e3 : ((x : Int) != y) = true := by simp; omega
  have e4 : (x != y) = true := by simp; omega
  go_enter Tryz.func101, Tryz.ntmps101
  go_upto_region 1 with fail
  go_quiet (fail)
  go_wp2_with fail
  go_ret
  exact ⟨rfl, H.out.drewN _⟩

set_option maxHeartbeats 1000000 in
theorem ppass_at {V w W : World} {A : Option Addr} {bs : List Nat} {c R p x : Nat} {last : Bool} {out : List Nat} (h : RD V w W A bs.length c last R p out) (hS : Src w 1 A bs.length c (lcells bs)) (hl : bs.length ≤ 1000000) (hc : bs.length ≤ c) (hx : bs[p]? = some x) :
    Calls Tryz.prog 101 #[.pointer (some ⟨R, 0, none⟩), .int .u8 (x : Nat)] W fun e W' => e = .returned (.bool true) ∧ RD V w W' A bs.length c last R (p + 1) out := by
  have hp : p < bs.length := (List.getElem?_eq_some_iff.1 hx).1
  obtain ⟨c2, c3, c4, f3⟩ := h.cells
  have hR := h.new
  obtain ⟨b, off, rfl, hcell⟩ := lcell hS h.chg (by omega)
  have c0 := hcell p x hx
  have hbR : b ≠ R := by
    have h0 := (lcell hS (Chg.refl NoS w) (by omega))
    obtain ⟨b', off', e, hc'⟩ := h0
    cases e
    have := cell_lt (hc' p x hx)
    simp only at this
    omega
  have H := keepf h
  obtain ⟨n, hn⟩ : ∃ n, bs.length = n := ⟨_, rfl⟩
  rw [hn] at c2 hp hl hc H ⊢
  clear h hS hx hcell hn
  have e1 : ((p : Int) == n) = false := by simp; omega
  have e2 : (p == n) = false := by simp; omega
  go_enter Tryz.func101, Tryz.ntmps101
  go_upto_region 1 with fail
  go_quiet (fail)
  go_wp2_with fail
  go_ret
  exact ⟨rfl, (H.out.drewN _).at_ _⟩

/-- What is told where a token goes up to the end. -/
theorem pcut_any {V w W : World} {A : Option Addr} {n c R p : Nat} {last : Bool} {out : List Nat} (h : RD V w W A n c last R p out) (er : Int) :
    Calls Tryz.prog 98 #[.pointer (some ⟨R, 0, none⟩), .int .i64 er] W fun e W' => e = .returned (.int .i64 (if last then er else 6)) ∧ W = W' := by
  obtain ⟨c2, c3, c4, f3⟩ := h.cells
  clear h
  cases last
  all_goals
    go_enter Tryz.func98, Tryz.ntmps98
    go_wp2_with fail
    go_ret
    exact ⟨rfl, rfl⟩

set_option maxHeartbeats 1000000 in
/-- What was put together, as a value of a kind. -/
theorem pbuilt_any {V w W : World} {A : Option Addr} {n c R p : Nat} {last : Bool} {out : List Nat} (h : RD V w W A n c last R p out) (hb : ∀ d ∈ out, d < 256) (hl : out.length ≤ 1000000) (k : Nat) :
    Calls Tryz.prog 124 #[.pointer (some ⟨R, 0, none⟩), .int .i64 (k : Nat)] W fun e W' => e = .returned (.tuple #[.agg #[.int .i64 (k : Nat), .int .i64 0, .string (sb out), .slice none 0 0], .int .i64 0]) ∧ RE V w W' R p := by
  have HST := keepf (fun (X : World) (hX : Chg NoS W X) => pstring_any (h.call hX).here hb hl)
  obtain ⟨s, hs⟩ : ∃ s, sb out = s := ⟨_, rfl⟩
  rw [hs] at HST ⊢
  have hR := h.lt
  have HKB := keepf (h.kb)
  have hwg := h.chg.size
  clear hs h hb hl
  go_enter Tryz.func124, Tryz.ntmps124
  go_upto_region 1 with fail
  have HNEW := keepf (Blk.new W 24 #[.int .i64 0, .int .i64 0, .string ⟨#[]⟩, .slice none 0 0])
  have HCH := keepf ((Chg.refl NoS W).alloc (.cells #[.int .i64 0, .int .i64 0, .string ⟨#[]⟩, .slice none 0 0] 24))
  obtain ⟨W1, hW1⟩ : ∃ W1, W1 = W.alloc (.cells #[.int .i64 0, .int .i64 0, .string ⟨#[]⟩, .slice none 0 0] 24) := ⟨_, rfl⟩
  rw [← hW1] at HNEW HCH ⊢
  clear hW1
  obtain ⟨g, hg⟩ : ∃ g, g = W.heap.size := ⟨_, rfl⟩
  rw [← hg] at HNEW ⊢
  have hgR : g ≠ R := by omega
  have HG := keepf hg
  clear hg
  go_upto_region 2 with (go_at_call 27; refine (HST.out _ HCH.out).mono ?_; rintro e w3 ⟨rfl, hre⟩; have hcl := (hre.kb _ _ _ hgR (by decide) HNEW.out).cl4; obtain ⟨r0, r1, r2, r3, z0, z1, z2, z3⟩ := hcl; have HRE := keepf hre; clear hre)
  go_wp2_with fail
  refine bodyPost_ret (v := .tuple #[.agg #[.int .i64 (k : Nat), .int .i64 0, .string s, .slice none 0 0], .int .i64 0]) (by simp [results, Tryz.results124, go_sem, r0, r1, r2, r3]) rfl ?_
  have h8 := HG.out
  exact ⟨rfl, ((HRE.out.back (KB.chg HCH.out)).set4 hgR (by omega) (by omega) _ _ _ _).back HKB.out⟩

end Go.Proofs.YtcehpobjnbgpdaaGreatDoor

/- Show's names: a name is put to the form. -/
namespace Go.Proofs.YtcehpobjnbgpdaaGreatDoor
open Go.RowKit
set_option linter.unusedVariables false
set_option linter.unusedSimpArgs false

theorem nmL_app : ∀ a b, nmL (a ++ b) = nmL a ++ nmL b := by
  intro a b
  induction a with
  | nil => rfl
  | cons c a ih => rw [List.cons_append, nmL, nmL, ih, List.append_assoc]

theorem nmL_drop {l : List Nat} {k : Nat} (h : k < l.length) : nmL (l.take (k + 1)) = nmL (l.take k) ++ nmC (l.getD k 0) := by
  have e : l.take (k + 1) = l.take k ++ [l.getD k 0] := take_snoc (by rw [List.getD_eq_getElem?_getD, List.getElem?_eq_getElem h]; rfl)
  rw [e, nmL_app]
  simp [nmL]

theorem nmC_le (c : Nat) : (nmC c).length ≤ 3 := by unfold nmC; split <;> simp [hex2]

theorem nmL_le : ∀ l : List Nat, (nmL l).length ≤ 3 * l.length
  | [] => Nat.le_refl _
  | c :: l => by rw [nmL, List.length_append, List.length_cons]; have := nmL_le l; have := nmC_le c; omega

theorem nmC_ge (c : Nat) : 1 ≤ (nmC c).length := by unfold nmC; split <;> simp

theorem nmL_ge : ∀ l : List Nat, l.length ≤ (nmL l).length
  | [] => Nat.le_refl _
  | c :: l => by rw [nmL, List.length_append, List.length_cons]; have := nmL_ge l; have := nmC_ge c; omega

theorem nmL_take (l : List Nat) (k : Nat) : (nmL (l.take k)).length ≤ (nmL l).length := by
  have e : nmL l = nmL (l.take k) ++ nmL (l.drop k) := by rw [← nmL_app, List.take_append_drop]
  rw [e, List.length_append]
  omega

set_option maxHeartbeats 4000000 in
set_option maxRecDepth 100000 in
theorem fname_any {V w W : World} {R : Nat} {out : List Nat} (h : FB V w W R out) (s : ByteArray) (hl : out.length + (nmF (sl s)).length ≤ 400000) :
    Calls Tryz.prog 51 #[.pointer (some ⟨R, 0, none⟩), .string s] W fun e W' => e = .returned (.tuple #[]) ∧ FB V w W' R (out ++ nmF (sl s)) := by
  have HW := keepf (fun V X o x (hX : FB V w X R o) (ho : o.length ≤ 1000000) => fpwbyte_any hX x ho)
  have HD := keepf (fun V X o c (hX : FB V w X R o) (hc : c < 256) (ho : o.length ≤ 500000) => fdig_any hX c hc ho)
  have HDL := keepf (fun y X => pdelim_any y X)
  have HF := keepf h
  obtain ⟨n, hn⟩ : ∃ n, s.size = n := ⟨_, rfl⟩
  have HN := keepf (show (sl s).length = n from by rw [sl_len, hn])
  rw [nmF, List.length_cons] at hl
  have hn1 : n ≤ 400000 := by have := nmL_ge (sl s); rw [HN.out] at this; omega
  have hle : Hid (∀ k, out.length + 1 + (nmL ((sl s).take k)).length ≤ 400000) := fun k => by have := nmL_take (sl s) k; omega
  clear h
  go_enter Tryz.func51, Tryz.ntmps51
  go_upto_region 1 with (go_at_call 86; refine (HW.out _ _ _ 47 HF.out (by omega)).mono ?_; rintro e w1 ⟨rfl, h1⟩; have HF1 := keepf h1; clear h1)
  obtain ⟨cp, W2, hcv, hc2, hcell, hkeep⟩ := conv_sb w1 s HF1.out.lt
  rw [hn] at hcv hcell hkeep
  have HF2 := keepf (HF1.out.call hc2)
  have HCE := keepf hkeep
  have HGL := keepf (show ∀ k, (sl s).getD k 0 < 256 from getD_lt s)
  obtain ⟨g, hg⟩ : ∃ g, g = w1.heap.size := ⟨_, rfl⟩
  rw [← hg] at hcv HCE
  have HKF := keepf HF2.out.kf
  clear hc2 hcell hkeep hn hg
  go_upto_region 2 with fail
  go_loopw [13] (fun vi wr => ∃ k : Nat, k ≤ n ∧ vi = .int .i64 (k : Nat) ∧ Hid (FB W2 w wr R (out ++ [47] ++ nmL ((sl s).take k)))) (fun vi _ => n - (intOf vi).toNat)
  case atStart => exact ⟨0, by omega, rfl, by rw [List.take_zero, nmL, List.append_nil]; exact HF2.out.here⟩
  case round =>
    obtain ⟨k, hk, rfl, HT⟩ := hrel
    have hlen : (out ++ [47] ++ nmL ((sl s).take k)).length ≤ 499000 := by
      have := hle.out k
      rw [List.length_append, List.length_append]
      simp only [List.length_cons, List.length_nil]
      omega
    obtain ⟨o, ho⟩ : ∃ o, o = out ++ [47] ++ nmL ((sl s).take k) := ⟨_, rfl⟩
    rw [← ho] at HT hlen
    have HO := keepf ho
    clear ho
    by_cases hlt : k < n
    · have c0 := HCE.out k hlt wr HT.out.kf
      have hc256 := HGL.out k
      have HV := keepf (show out ++ [47] ++ nmL ((sl s).take (k + 1)) = o ++ nmC ((sl s).getD k 0) from by rw [HO.out, nmL_drop (by rw [HN.out]; exact hlt), ← List.append_assoc])
      obtain ⟨c, hc⟩ : ∃ c, c = (sl s).getD k 0 := ⟨_, rfl⟩
      rw [← hc] at c0 hc256 HV
      clear hc
      have hl2 : (o ++ [35]).length ≤ 500000 := by simp; omega
      have HDC := keepf (fun X => HDL.out c X)
      by_cases hg : 32 < c ∧ c < 127 ∧ c ≠ 35 ∧ isDl c = false
      · have HVE := keepf (show o ++ nmC c = o ++ [c] from by unfold nmC; rw [if_pos hg])
        have HDC1 := keepf (fun X => HDC.out X)
        rw [hg.2.2.2] at HDC1
        obtain ⟨g1, g2, g3, _⟩ := hg
        have d1 : decide ((c : Int) < 33) = false := by simp; omega
        have d1' : decide (c < 33) = false := by simp; omega
        have d2 : decide ((126 : Int) < c) = false := by simp; omega
        have d2' : decide (126 < c) = false := by simp; omega
        have d3 : ((c : Int) == 35) = false := by simp; omega
        have d3' : (c == 35) = false := by simp; omega
        clear g1 g2 g3 HDC
        go_wp2_with first
          | (go_at_call 87; refine (HDC1.out _).mono ?_; rintro e w5 ⟨rfl, rfl⟩)
          | (go_at_call 86; with_reducible refine (HW.out _ _ _ c HT.out (by omega)).mono ?_; rintro e w3 ⟨rfl, h3⟩; have HT3 := keepf h3; clear h3)
        go_roundw
        case rel => exact ⟨k + 1, by omega, by go_num, by rw [HV.out, HVE.out]; exact HT3.out⟩
        case measure => simp [intOf]; omega
      have HVE := keepf (show o ++ nmC c = o ++ [35] ++ hex2 c from by unfold nmC; rw [if_neg hg]; simp)
      by_cases h1 : c < 33
      · have d1 : decide ((c : Int) < 33) = true := by simp; omega
        have d1' : decide (c < 33) = true := by simp; omega
        clear hg h1
        go_wp2_with first
          | (go_at_call 86; refine (HW.out _ _ _ 35 HT.out (by omega)).mono ?_; rintro e w3 ⟨rfl, h3⟩; have HT3 := keepf h3; clear h3)
          | (go_at_call 88; refine (HD.out _ _ _ c HT3.out hc256 hl2).mono ?_; rintro e w4 ⟨rfl, h4⟩; have HT4 := keepf h4; clear h4)
        go_roundw
        case rel => exact ⟨k + 1, by omega, by go_num, by rw [HV.out, HVE.out]; exact HT4.out⟩
        case measure => simp [intOf]; omega
      have d1 : decide ((c : Int) < 33) = false := by simp; omega
      have d1' : decide (c < 33) = false := by simp; omega
      by_cases h2 : 126 < c
      · have d2 : decide ((126 : Int) < c) = true := by simp; omega
        have d2' : decide (126 < c) = true := by simp; omega
        clear hg h1 h2
        go_wp2_with first
          | (go_at_call 86; refine (HW.out _ _ _ 35 HT.out (by omega)).mono ?_; rintro e w3 ⟨rfl, h3⟩; have HT3 := keepf h3; clear h3)
          | (go_at_call 88; refine (HD.out _ _ _ c HT3.out hc256 hl2).mono ?_; rintro e w4 ⟨rfl, h4⟩; have HT4 := keepf h4; clear h4)
        go_roundw
        case rel => exact ⟨k + 1, by omega, by go_num, by rw [HV.out, HVE.out]; exact HT4.out⟩
        case measure => simp [intOf]; omega
      have d2 : decide ((126 : Int) < c) = false := by simp; omega
      have d2' : decide (126 < c) = false := by simp; omega
      by_cases h3 : c = 35
      · subst h3
        clear hg h1 h2
        go_wp2_with first
          | (go_at_call 86; refine (HW.out _ _ _ 35 HT.out (by omega)).mono ?_; rintro e w3 ⟨rfl, h3⟩; have HT3 := keepf h3; clear h3)
          | (go_at_call 88; refine (HD.out _ _ _ 35 HT3.out hc256 hl2).mono ?_; rintro e w4 ⟨rfl, h4⟩; have HT4 := keepf h4; clear h4)
        go_roundw
        case rel => exact ⟨k + 1, by omega, by go_num, by rw [HV.out, HVE.out]; exact HT4.out⟩
        case measure => simp [intOf]; omega
      have d3 : ((c : Int) == 35) = false := by simp; omega
      have d3' : (c == 35) = false := by simp; omega
      have hdl : isDl c = true := by
        cases h4 : isDl c with
        | true => rfl
        | false => exact absurd ⟨by omega, by omega, h3, h4⟩ hg
      have HDC1 := keepf (fun X => HDC.out X)
      rw [hdl] at HDC1
      clear hg h1 h2 h3 hdl HDC
      go_wp2_with first
        | (go_at_call 87; refine (HDC1.out _).mono ?_; rintro e w5 ⟨rfl, rfl⟩)
        | (go_at_call 86; refine (HW.out _ _ _ 35 HT.out (by omega)).mono ?_; rintro e w3 ⟨rfl, h3⟩; have HT3 := keepf h3; clear h3)
        | (go_at_call 88; refine (HD.out _ _ _ c HT3.out hc256 hl2).mono ?_; rintro e w4 ⟨rfl, h4⟩; have HT4 := keepf h4; clear h4)
      go_roundw
      case rel => exact ⟨k + 1, by omega, by go_num, by rw [HV.out, HVE.out]; exact HT4.out⟩
      case measure => simp [intOf]; omega
    · obtain rfl : k = n := by omega
      have HV := keepf (show out ++ nmF (sl s) = o from by rw [HO.out, List.take_of_length_le (by rw [HN.out]; exact Nat.le_refl _)]; simp [nmF])
      go_wp2_with fail
      go_end0
      exact ⟨rfl, by rw [HV.out]; exact HT.out.base (HKF.out.trans HT.out.kf)⟩

end Go.Proofs.YtcehpobjnbgpdaaGreatDoor

