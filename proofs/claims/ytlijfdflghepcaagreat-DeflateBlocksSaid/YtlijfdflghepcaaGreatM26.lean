/- Merged by program: ConvS MayCut PartsM Blocks. -/
import Derived.Test.YtlijfdflghepcaaGreatM13
import Derived.Test.YtlijfdflghepcaaGreatM17
import Derived.BigQuiet
import Derived.BigRegion
/- A slice of bytes read as a string. -/
namespace Go.Proofs.YtlijfdflghepcaaGreat
open Go.RowKit
set_option linter.unusedVariables false

/-- What a slice of bytes reads as a string. -/
abbrev Cs (A : Option Addr) (n c : Nat) (s : ByteArray) (W : World) : Prop := (convert 22 9 (.slice A n c)).run Tryz.prog W = .ok (.string s) W
theorem conv_src {w : World} {A : Option Addr} {n c : Nat} {bs : List Nat} (h : Src w 1 A n c (ucells bs)) : Cs A n c (bstr bs) w := by
  unfold Cs
  have hlen : bs.length = n := by
    have := h.1
    simpa [ucells] using this
  rcases Nat.eq_zero_or_pos n with h0 | h0
  · subst h0
    have hb : bs = [] := List.eq_nil_of_length_eq_zero hlen
    subst hb
    rcases A with _ | a
    · have := (h.2.1 rfl).2
      subst this
      exact run_convert_bytes_nil w 22 5 Tryz.underlying22 Tryz.underlying5 _ _ 9 Tryz.underlying9
    · have hl : (loadCells a 0).run Tryz.prog w = .ok #[] w := by simpa using run_loadCells_list (P := Tryz.prog) w a [] (fun j v hj => by simp at hj)
      rw [run_convert_bytes_string w 22 9 5 _ 0 c Tryz.underlying22 Tryz.underlying5 Tryz.underlying9]
      simp [Conv.bytesToString, hl, Result.andThen]
      rfl
  · obtain ⟨b, off, rfl, hcell⟩ := h.plain (by rw [ucells_len]; omega)
    refine run_convert_bytes_arg w 22 5 Tryz.underlying22 Tryz.underlying5 b off n c (bs.map fun b : Nat => (b : Int)) (by simpa using hlen) (fun i hi => ?_) 9 Tryz.underlying9
    have hc := hcell i (.int .u8 (bs.getD i 0 : Nat)) (ucells_get (by rw [List.getD_eq_getElem?_getD, List.getElem?_eq_getElem (by omega)]; rfl))
    rw [hc]
    simp [hlen, hi]
end Go.Proofs.YtlijfdflghepcaaGreat

/- Cuts and kinds that may be (Blocks). -/
namespace Go.Proofs.YtlijfdflghepcaaGreat
open Go.RowKit
set_option linter.unusedVariables false
set_option linter.unusedSimpArgs false

/-- Cuts in order, from a on, none behind n. -/
def cutsB (n : Int) : Int → List Int → Bool
  | _, [] => true
  | a, c :: cs => (decide (a ≤ c) && decide (c ≤ n)) && cutsB n c cs
theorem cutsB_get {n a : Int} {cs : List Int} {k : Nat} {z : Int} (h : cs[k]? = some z) : cutsB n a (cs.drop k) = ((decide (a ≤ z) && decide (z ≤ n)) && cutsB n z (cs.drop (k + 1))) := by
  obtain ⟨hk, hz⟩ := List.getElem?_eq_some_iff.1 h
  rw [List.drop_eq_getElem_cons hk, hz]
  rfl

set_option maxHeartbeats 1000000 in
set_option maxRecDepth 100000 in
theorem mayCut_any (cs : List Int) (n : Nat) (A : Option Addr) (c : Nat) (w : World) (hS : Src w 1 A cs.length c (icells cs)) (hl : cs.length ≤ 100000) :
    Calls Tryz.prog 37 #[.slice A cs.length c, .int .i64 (n : Nat)] w fun e w' => e = .returned (.bool (cutsB n 0 cs)) ∧ w = w' := by
  have HS := keepf hS
  obtain ⟨m, hm⟩ : ∃ m, m = cs.length := ⟨_, rfl⟩
  have HM := keepf hm
  rw [← hm] at HS hl ⊢
  clear hm hS
  go_enter Tryz.func37, Tryz.ntmps37
  go_wp2_with fail
  go_loop [5, 10] (fun va vk => ∃ (k : Nat) (a : Int), k ≤ m ∧ vk = .int .i64 k ∧ va = .int .i64 a ∧ Hid (cutsB n 0 cs = cutsB n a (cs.drop k))) (fun _ vk => m - (intOf vk).toNat)
  case atStart => exact ⟨0, 0, Nat.zero_le _, rfl, rfl, rfl⟩
  case round =>
    obtain ⟨k, a, hk, rfl, rfl, HB⟩ := hrel
    by_cases hlt : k < m
    · obtain ⟨b, off, rfl, hcell⟩ := HS.out.plain (by rw [icells_len]; have := HM.out; omega)
      obtain ⟨z, hz⟩ : ∃ z, cs[k]? = some z := ⟨_, List.getElem?_eq_getElem (by have := HM.out; omega)⟩
      have c0 := hcell k _ (icells_get hz)
      have HB2 : Hid (cutsB n 0 cs = ((decide (a ≤ z) && decide (z ≤ n)) && cutsB n z (cs.drop (k + 1)))) := HB.out.trans (cutsB_get hz)
      clear hcell hz
      by_cases h1 : z < a
      · have d1 : decide (z < a) = true := by simpa using h1
        go_wp2_with fail
        go_ret
        refine ⟨?_, rfl⟩
        rw [HB2.out, decide_eq_false (by omega : ¬ a ≤ z)]
        rfl
      · have d1 : decide (z < a) = false := by simpa using h1
        by_cases h2 : (n : Int) < z
        · have d2 : decide ((n : Int) < z) = true := by simpa using h2
          go_wp2_with fail
          go_ret
          refine ⟨?_, rfl⟩
          rw [HB2.out, decide_eq_false (by omega : ¬ z ≤ n), Bool.and_false]
          rfl
        · have d2 : decide ((n : Int) < z) = false := by simpa using h2
          go_wp2_with fail
          go_round
          case rel => exact ⟨k + 1, z, by omega, by go_num, rfl, by show _ = _; rw [HB2.out, decide_eq_true (by omega : a ≤ z), decide_eq_true (by omega : z ≤ n)]; rfl⟩
          case measure => simp [intOf]; omega
    · obtain rfl : m = k := by omega
      go_wp2_with fail
      go_ret
      refine ⟨?_, rfl⟩
      rw [HB.out, List.drop_of_length_le (by have := HM.out; omega)]
      rfl

theorem ask_kinds (xs : List Int) (hx : in64 xs) (w : World) : AskI 64 #[] (fun n => decide (n < 0 ∨ 2 < n)) xs w := by
  intro y hy
  have hy2 := hx y hy
  show Calls Tryz.prog 64 #[.int .i64 y] w _
  by_cases h1 : y < 0
  · have d1 : decide (y < 0) = true := by simpa using h1
    go_enter Tryz.func64, Tryz.ntmps64
    go_wp2_with fail
    go_ret
    exact ⟨by simp [h1], rfl⟩
  · have d1 : decide (y < 0) = false := by simpa using h1
    go_enter Tryz.func64, Tryz.ntmps64
    go_wp2_with fail
    go_ret
    exact ⟨by simp [h1], rfl⟩
/-- Kinds that may be. -/
def kindsB (xs : List Int) : Bool := !(xs.any fun n => decide (n < 0 ∨ 2 < n))
set_option maxRecDepth 100000 in
theorem mayPack_any (xs : List Int) (hb : in64 xs) (A : Option Addr) (c : Nat) (w : World) (hS : Src w 1 A xs.length c (icells xs)) (hl : xs.length ≤ 100000) :
    Calls Tryz.prog 38 #[.slice A xs.length c] w fun e w' => e = .returned (.bool (kindsB xs)) ∧ w = w' := by
  have eg : ∀ args w, (callFunc 64 args).run Tryz.prog w = .ok (.enter 64 args) w := enters_of Tryz.func64 (by kernel_rfl) rfl
  have HC := containsI_any _ #[] eg _ xs A c w hS (by omega) (ask_kinds xs hb w)
  unfold kindsB
  obtain ⟨bb, hbb⟩ : ∃ bb, bb = xs.any fun n => decide (n < 0 ∨ 2 < n) := ⟨_, rfl⟩
  rw [← hbb] at HC ⊢
  have HC := keepf HC
  clear hbb eg hS hb hl
  go_enter Tryz.func38, Tryz.ntmps38
  cases bb
  all_goals
    go_wp2_with (go_at_call 45; refine HC.out.mono ?_; rintro e w' ⟨rfl, rfl⟩)
    go_ret
    exact ⟨rfl, rfl⟩
end Go.Proofs.YtlijfdflghepcaaGreat

/- Bytes packed in parts (Blocks): their bits unpack. -/
namespace Go.Proofs.YtlijfdflghepcaaGreat
open Go.RowKit
set_option linter.unusedVariables false
set_option linter.unusedSimpArgs false

theorem wroteL_len {k : Nat} {last : Bool} {bs : List Nat} {L L' : List Bool} (h : Wrote k last bs L L') : L'.length ≤ L.length + 64 * bs.length + 10000 := by
  have hst : ∀ (m : Nat) (bs : List Nat) (L : List Bool), bs.length ≤ m → (storedL last bs L).length ≤ L.length + 16 * bs.length + 100 := by
    intro m
    induction m with
    | zero =>
      intro bs L h
      rw [storedL, dif_pos (by omega), blockL_len]
      omega
    | succ m ih =>
      intro bs L h
      rw [storedL]
      split
      · rw [blockL_len]; omega
      · have h2 := ih (bs.drop 65535) (blockL false (bs.take 65535) L) (by simp; omega)
        rw [blockL_len, List.length_drop, List.length_take] at h2
        omega
  cases h with
  | stored =>
    have := hst bs.length bs L (Nat.le_refl _)
    omega
  | fixed _ _ _ T hT =>
    have h1 := evsBits_len fixS_may fixD_may (evs T) (fix_evOk hT.ok.well)
    have h2 := toks_small hT
    rw [List.length_append, List.length_append, headBits_len]
    omega
  | own _ _ _ T X Y cl hT ho =>
    have h1 := evsBits_len ho.may.1 ho.may.2.1 (evs T) (own_evOk hT.ok.well ho)
    have h2 := toks_small hT
    have h3 := ownBits_len ho
    rw [List.length_append, List.length_append, List.length_append, headBits_len]
    omega

/-- Bits of parts, none of them the last. -/
inductive Parts : Nat → List Nat → List Bool → Prop
  | none : Parts 0 [] []
  | more {n k : Nat} {bs xs : List Nat} {L L' : List Bool} (h : Parts n bs L) (hw : Wrote k false xs L L') : Parts (n + 1) (bs ++ xs) L'
set_option maxRecDepth 100000 in
theorem parts_len {n : Nat} {bs : List Nat} {L : List Bool} (h : Parts n bs L) : L.length ≤ 64 * bs.length + 10000 * n := by
  induction h with
  | none => simp
  | more h hw ih =>
    have := wroteL_len hw
    rw [List.length_append]
    omega
theorem parts_leads {n : Nat} {bs : List Nat} {L : List Bool} (h : Parts n bs L) {most : Nat} (hb : ∀ x ∈ bs, x < 256) (hm : bs.length ≤ most) : ∀ M, Leads (bytesOf false (L ++ M)) most st0 ⟨L.length, bs, .head⟩ := by
  induction h with
  | none => exact fun M o h => h
  | @more n k bs xs L L' h hw ih =>
    intro M
    rw [List.length_append] at hm
    obtain ⟨N, hN⟩ := hw.pre
    have h1 := ih (fun x hx => hb x (List.mem_append_left _ hx)) (by omega) (N ++ M)
    rw [← List.append_assoc, hN] at h1
    have h2 := wrote_leads (M := M) (most := most) (out := bs) hw (fun x hx => hb x (List.mem_append_right _ hx)) hm
    exact fun o h => h1 o (h2 o (next_leads o h))
/-- Bytes' bits, packed in so many parts and a last one. -/
def PackedB (n : Nat) (bs : List Nat) (L : List Bool) : Prop := ∃ (bs0 xs : List Nat) (L0 : List Bool) (k : Nat), bs = bs0 ++ xs ∧ Parts n bs0 L0 ∧ Wrote k true xs L0 L
set_option maxRecDepth 100000 in
theorem packedB_len {n : Nat} {bs : List Nat} {L : List Bool} (h : PackedB n bs L) : L.length ≤ 64 * bs.length + 10000 * (n + 1) := by
  obtain ⟨bs0, xs, L0, k, rfl, h1, h2⟩ := h
  have := parts_len h1
  have := wroteL_len h2
  rw [List.length_append]
  omega
theorem packedB_runs {n : Nat} {bs : List Nat} {L : List Bool} {most : Nat} (h : PackedB n bs L) (hb : ∀ x ∈ bs, x < 256) (hm : bs.length ≤ most) : Runs (bytesOf false L) most st0 (.ok bs L.length) := by
  obtain ⟨bs0, xs, L0, k, rfl, h1, h2⟩ := h
  rw [List.length_append] at hm
  obtain ⟨N, hN⟩ := h2.pre
  have i1 := parts_leads h1 (most := most) (fun x hx => hb x (List.mem_append_left _ hx)) (by omega) N
  rw [hN] at i1
  exact i1 _ (wrote_runs (most := most) (out := bs0) h2 (fun x hx => hb x (List.mem_append_right _ hx)) hm)
end Go.Proofs.YtlijfdflghepcaaGreat

/- Blocks: its contract. -/
namespace Go.Proofs.YtlijfdflghepcaaGreat
open Go.RowKit
set_option linter.unusedVariables false
set_option linter.unusedSimpArgs false

/-- Parts that may be packed. -/
def BlocksMay (n : Nat) (cs ks : List Int) : Prop := cutsB n 0 cs = true ∧ ks.length = cs.length + 1 ∧ kindsB ks = true
theorem kindsB_get {ks : List Int} (h : kindsB ks = true) {k : Nat} {z : Int} (hz : ks[k]? = some z) : 0 ≤ z ∧ z ≤ 2 := by
  unfold kindsB at h
  simp only [Bool.not_eq_true', List.any_eq_false, decide_eq_true_eq] at h
  have := h z (List.mem_of_getElem? hz)
  omega

set_option maxRecDepth 100000 in
theorem blocks_no (bs : List Nat) (cs ks : List Int) (A : Option Addr) (c : Nat) (A1 : Option Addr) (c1 : Nat) (A2 : Option Addr) (c2 : Nat) (w : World) (hl : bs.length ≤ 100000)
    (hS1 : Src w 1 A1 cs.length c1 (icells cs)) (hS2 : Src w 1 A2 ks.length c2 (icells ks)) (hl1 : cs.length ≤ 1000) (hl2 : ks.length ≤ 1000) (hb : in64 ks) (hn : ¬ BlocksMay bs.length cs ks) :
    Calls Tryz.prog 15 #[.slice A bs.length c, .slice A1 cs.length c1, .slice A2 ks.length c2] w fun e w' => e = .returned (.tuple #[.slice none 0 0, .int .i64 2]) ∧ w = w' := by
  have HC := keepf (mayCut_any cs bs.length A1 c1 w hS1 (by omega))
  have HP := keepf (mayPack_any ks hb A2 c2 w hS2 (by omega))
  have HN := keepf hn
  have d0 : decide ((16777216 : Int) < bs.length) = false := by simp; omega
  unfold BlocksMay at HN
  obtain ⟨b1, h1⟩ : ∃ b, b = cutsB bs.length 0 cs := ⟨_, rfl⟩
  obtain ⟨b2, h2⟩ : ∃ b, b = kindsB ks := ⟨_, rfl⟩
  rw [← h1] at HC HN
  rw [← h2] at HP HN
  clear hS1 hS2 hb hn h1 h2
  go_enter Tryz.func15, Tryz.ntmps15
  cases b1
  · go_wp2_with (first
      | (go_at_call 37; refine HC.out.mono ?_; rintro e w2 ⟨rfl, rfl⟩)
      | (go_at_call 38; refine HP.out.mono ?_; rintro e w2 ⟨rfl, rfl⟩))
    go_ret2
    exact ⟨rfl, rfl⟩
  · by_cases h3 : ks.length = cs.length + 1
    · have d1 : ((ks.length : Int) != (cs.length : Int) + 1) = false := by simp; omega
      have hb2 : b2 = false := by
        cases b2
        · rfl
        · exact absurd ⟨rfl, h3, rfl⟩ HN.out
      subst hb2
      clear h3
      go_wp2_with (first
        | (go_at_call 37; refine HC.out.mono ?_; rintro e w2 ⟨rfl, rfl⟩)
        | (go_at_call 38; refine HP.out.mono ?_; rintro e w2 ⟨rfl, rfl⟩))
      go_ret2
      exact ⟨rfl, rfl⟩
    · have d1 : ((ks.length : Int) != (cs.length : Int) + 1) = true := by simp; omega
      clear h3
      go_wp2_with (first
        | (go_at_call 37; refine HC.out.mono ?_; rintro e w2 ⟨rfl, rfl⟩)
        | (go_at_call 38; refine HP.out.mono ?_; rintro e w2 ⟨rfl, rfl⟩))
      go_ret2
      exact ⟨rfl, rfl⟩

/-- Behind a part that a kind's function was given. -/
def PartTo (wr : World) (k B g gw : Nat) (last : Bool) (L : List Bool) (xs : List Nat) (e : Ending) (w' : World) : Prop :=
  e = .returned (.tuple #[]) ∧ ∃ (L' : List Bool) (S' : Value), Wrote k last xs L L' ∧ Pd w' B g gw L' S' ∧ ∀ w0 : World, Chg NoS w0 wr → w0.heap.size ≤ B → Chg NoS w0 w'
theorem part_call (k : Nat) (hk : k ≤ 2) (W wr : World) (B g gw x bx : Nat) (last : Bool) (L : List Bool) (S : Value) (A : Option Addr) (c : Nat) (xs : List Nat) (hp : Pd wr B g gw L S) (hW : Chg NoS wr W)
    (hbx : Blk W bx 55 #[.pointer (some ⟨g, 0, none⟩)]) (hx : Blk W x 54 #[.slice A xs.length c, .slice none 0 0]) (hxs : wr.heap.size ≤ x)
    (hs : Src wr 1 A xs.length c (ucells xs)) (hcap : xs.length ≤ c) (ha : ∀ ad, A = some ad → xs ≠ [] → ad.block < B) (hy : ∀ b ∈ xs, b < 256) (hl : L.length + 64 * xs.length + 20000 ≤ 700000000) :
    Calls Tryz.prog (fnOf k) #[.pointer (some ⟨x, 0, none⟩), .bool last, .pointer (some ⟨bx, 0, none⟩)] W (PartTo wr k B g gw last L xs) := by
  refine (fn_ok k hk W B g gw x bx last L S (.slice none 0 0) A c xs ⟨hp.no hW, hbx, ⟨hx, hs.below (w0 := wr) hW, hcap, .inl rfl⟩, ha, hy⟩ hl).mono ?_
  rintro e w' ⟨rfl, L', S', V', hw, hp', _, hm⟩
  refine ⟨rfl, L', S', hw, hp', fun w0 h0 hB0 => (((h0.trans hW (fun _ _ e => e)).mono (fun _ _ e => e.elim)).trans hm.c (fun i hi hT => ?_))⟩
  obtain ⟨_, _, h⟩ := hp
  rcases hT with (e | e | e) | e
  · have := h.bg
    omega
  · have := h.bw
    omega
  · have := h.bs i e
    omega
  · have := h0.size
    omega

set_option maxHeartbeats 1000000 in
set_option maxRecDepth 100000 in
theorem blocks_ok (bs : List Nat) (cs ks : List Int) (A : Option Addr) (c : Nat) (A1 : Option Addr) (c1 : Nat) (A2 : Option Addr) (c2 : Nat) (w : World) (hl : bs.length ≤ 100000) (hc : bs.length ≤ c) (hbb : ∀ b ∈ bs, b < 256)
    (hS : Src w 1 A bs.length c (ucells bs)) (hS1 : Src w 1 A1 cs.length c1 (icells cs)) (hS2 : Src w 1 A2 ks.length c2 (icells ks)) (hl1 : cs.length ≤ 1000) (hl2 : ks.length ≤ 1000) (hb : in64 ks) (hm : BlocksMay bs.length cs ks) :
    Calls Tryz.prog 15 #[.slice A bs.length c, .slice A1 cs.length c1, .slice A2 ks.length c2] w fun e w' => ∃ L, PackedB cs.length bs L ∧ ResTo w L e w' := by
  have HC := keepf (mayCut_any cs bs.length A1 c1 w hS1 (by omega))
  have HP := keepf (mayPack_any ks hb A2 c2 w hS2 (by omega))
  obtain ⟨m1, m2, m3⟩ := hm
  rw [m1] at HC
  rw [m3] at HP
  have HS := keepf (fun (W : World) (h : Chg NoS w W) => Src.below (w0 := w) hS h)
  have HS1 := keepf (fun (W : World) (h : Chg NoS w W) => Src.below (w0 := w) hS1 h)
  have HS2 := keepf (fun (W : World) (h : Chg NoS w W) => Src.below (w0 := w) hS2 h)
  have HSL := keepf (src_lt hS)
  have HBB := keepf hbb
  have HM3 := keepf m3
  obtain ⟨n, hn⟩ : ∃ n, n = bs.length := ⟨_, rfl⟩
  obtain ⟨m, hmm⟩ : ∃ m, m = cs.length := ⟨_, rfl⟩
  have HN := keepf hn
  have HM := keepf hmm
  rw [m2] at HP HS2 ⊢
  have HK := keepf m2
  rw [← hn] at HC HS hl hc m1 ⊢
  rw [← hmm] at HC HP HS1 HS2 hl1 HK ⊢
  have HM1 := keepf m1
  have d0 : decide ((16777216 : Int) < n) = false := by simp; omega
  have d1 : (((m + 1 : Nat) : Int) != (m : Int) + 1) = false := by simp
  clear hS hS1 hS2 hbb hb m1 m2 m3 hn hmm hl2
  go_enter Tryz.func15, Tryz.ntmps15
  go_wp2_with (first
    | (go_at_call 37; refine HC.out.mono ?_; rintro e w2 ⟨rfl, rfl⟩)
    | (go_at_call 38; refine HP.out.mono ?_; rintro e w2 ⟨rfl, rfl⟩)
    | (go_at_call 39; refine (newPacked_any _).mono ?_; rintro e w2 ⟨g, gw, rfl, hp2, hc2⟩; have HP2 := keepf hp2; have HC2 := keepf hc2; clear hp2 hc2))
  obtain ⟨B, hB⟩ : ∃ B, B = w.heap.size := ⟨_, rfl⟩
  have HBW := keepf hB
  rw [← hB] at HP2 HSL
  clear hB
  go_loopw [9, 36] (fun va vk wr => ∃ (k a : Nat) (L : List Bool) (S : Value), k ≤ m ∧ a ≤ n ∧ vk = .int .i64 (k : Nat) ∧ va = .int .i64 (a : Nat) ∧ Hid (cutsB n a (cs.drop k) = true) ∧ Hid (Parts k (bs.take a) L) ∧ Hid (Pd wr B g gw L S) ∧ Hid (Chg NoS w wr)) (fun _ vk _ => m - (intOf vk).toNat)
  case atStart => exact ⟨0, 0, [], .slice none 0 0, Nat.zero_le _, Nat.zero_le _, rfl, rfl, HM1.out, .none, HP2.out, HC2.out⟩
  case round =>
    obtain ⟨k, a, L, S, hk, ha, rfl, rfl, HB1, HPT, HPD, HCH⟩ := hrel
    by_cases hlt : k < m
    · obtain ⟨z, hz⟩ : ∃ z, cs[k]? = some z := ⟨_, List.getElem?_eq_getElem (by have := HM.out; omega)⟩
      obtain ⟨kz, hkz⟩ : ∃ kz, ks[k]? = some kz := ⟨_, List.getElem?_eq_getElem (by have := HK.out; omega)⟩
      have hB1 := HB1.out
      rw [cutsB_get hz] at hB1
      simp only [Bool.and_eq_true, decide_eq_true_eq] at hB1
      obtain ⟨⟨h1, h2⟩, h3⟩ := hB1
      obtain ⟨t, rfl⟩ := Int.eq_ofNat_of_zero_le (show 0 ≤ z by omega)
      have h4 := kindsB_get HM3.out hkz
      obtain ⟨kk, rfl⟩ := Int.eq_ofNat_of_zero_le h4.1
      have hkk : kk ≤ 2 := by omega
      have hat : a ≤ t := by omega
      have htn : t ≤ n := by omega
      have HB2 := keepf h3
      obtain ⟨b1, off1, rfl, hcell1⟩ := (HS1.out wr HCH.out).plain (by rw [icells_len]; have := HM.out; omega)
      obtain ⟨b2, off2, rfl, hcell2⟩ := (HS2.out wr HCH.out).plain (by rw [icells_len]; have := HK.out; omega)
      have e1 := hcell1 k _ (icells_get hz)
      have e2 := hcell2 k _ (icells_get hkz)
      have l1 : b1 < wr.heap.size := cell_lt e1
      have l2 : b2 < wr.heap.size := cell_lt e2
      have hmid : ∀ W : World, (Instr.sliceAt 22 (.slice A n c) (some (.int .i64 (a : Nat))) (some (.int .i64 (t : Nat))) none).run Tryz.prog W = .ok (.slice (cutA A a c) (t - a) (c - a)) W := fun W => midB A n c a t hat (by omega) W
      obtain ⟨q, hq⟩ : ∃ q, q = t - a := ⟨_, rfl⟩
      obtain ⟨xs, hxs⟩ : ∃ xs, xs = (bs.drop a).take q := ⟨_, rfl⟩
      have hxl : xs.length = q := by rw [hxs, List.length_take, List.length_drop, ← HN.out]; omega
      have hsx : Src wr 1 (cutA A a c) q (c - a) (ucells xs) := by
        have h := src_cut (m := q) (lo := a) (HS.out wr HCH.out) hc (by omega)
        rw [hxs]
        simpa [ucells, List.map_take, List.map_drop] using h
      have hlp := parts_len HPT.out
      rw [List.length_take, ← HN.out, Nat.min_eq_left ha] at hlp
      have hhx : ∀ ad, cutA A a c = some ad → xs ≠ [] → ad.block < B := fun ad h hne => by
        obtain ⟨ad2, h5, h6⟩ := cutA_block h
        rw [← h6]
        exact HSL.out ad2 h5 (fun h7 => hne (by rw [hxs, h7]; simp))
      have hyy : ∀ b ∈ xs, b < 256 := fun b hb => HBB.out b (List.mem_of_mem_drop (List.mem_of_mem_take (by rw [← hxs]; exact hb)))
      have hxn : bs.take t = bs.take a ++ xs := by rw [hxs, hq, show t = a + (t - a) from by omega, List.take_add]; simp
      have HXN := keepf hxn
      rw [← hq] at hmid
      have eg := fn_eg kk
      have HPC := keepf (fun (W : World) (x bx : Nat) hW hbx hx hxs => part_call kk hkk W wr B g gw x bx false L S (cutA A a c) (c - a) xs HPD.out hW hbx hx hxs (by rw [hxl]; exact hsx) (by rw [hxl]; omega) hhx hyy (by rw [hxl]; omega))
      have HWR := keepf (fun W => writer_any g kk hkk W)
      obtain ⟨f, hf⟩ : ∃ f, f = fnOf kk := ⟨_, rfl⟩
      rw [← hf] at eg HPC HWR
      rw [hxl] at HPC
      clear hz hkz h1 h2 h3 h4 hcell1 hcell2 hq hsx hlp hhx hyy hxn hf hxl hxs
      go_upto_region 10 with fail
      go_cut [] from 41 to 53 (fun wx => ∃ L' S', Hid (Wrote kk false xs L L') ∧ Hid (Pd wx B g gw L' S') ∧ Hid (Chg NoS w wx))
      case first =>
        go_region_with (first
          | (go_at_call 40; refine (HWR.out _).mono ?_; rintro e w3 ⟨rfl, hb3, hc3⟩; have HB3 := keepf hb3; have HC3 := keepf hc3; clear hb3 hc3)
          | (go_at_fn f; refine (HPC.out _ _ _ (((Chg.refl NoS wr).drew.trans HC3.out (fun _ _ e => e)).alloc _) (HB3.out.alloc _) (Blk.new _ _ _) (((Chg.refl NoS wr).drew.trans HC3.out (fun _ _ e => e)).size)).mono ?_; rintro e w5 ⟨rfl, L', S', hw5, hp5, hc5⟩; have HW5 := keepf hw5; have HP5 := keepf hp5; have HC5 := keepf (hc5 w HCH.out (by have := HBW.out; omega)); clear hw5 hp5 hc5)
          | (go_at_fn f; refine (HPC.out _ _ _ (((Chg.refl NoS wr).drew.alloc _).trans HC3.out (fun _ _ e => e)) (by simpa using HB3.out) (Blk.chg (Blk.new wr.drew _ _) HC3.out (fun e => e)) (Nat.le_refl _)).mono ?_; rintro e w5 ⟨rfl, L', S', hw5, hp5, hc5⟩; have HW5 := keepf hw5; have HP5 := keepf hp5; have HC5 := keepf (hc5 w HCH.out (by have := HBW.out; omega)); clear hw5 hp5 hc5))
        all_goals
          try go_wp2_with fail
          go_meet
          exact ⟨L', S', HW5.out, HP5.out, HC5.out⟩
      case rest =>
        obtain ⟨L', S', HW6, HP6, HC6⟩ := hcut
        go_wp2_with fail
        go_roundw
        case rel => exact ⟨k + 1, t, L', S', by omega, htn, by go_num, rfl, HB2.out, by show Parts _ _ _; rw [HXN.out]; exact .more HPT.out HW6.out, HP6.out, HC6.out⟩
        case measure => simp [intOf]; omega
    · obtain rfl : m = k := by omega
      obtain ⟨kz, hkz⟩ : ∃ kz, ks[m]? = some kz := ⟨_, List.getElem?_eq_getElem (by have := HK.out; omega)⟩
      have h4 := kindsB_get HM3.out hkz
      obtain ⟨kk, rfl⟩ := Int.eq_ofNat_of_zero_le h4.1
      have hkk : kk ≤ 2 := by omega
      obtain ⟨b2, off2, rfl, hcell2⟩ := (HS2.out wr HCH.out).plain (by rw [icells_len]; have := HK.out; omega)
      have e2 := hcell2 m _ (icells_get hkz)
      have l2 : b2 < wr.heap.size := cell_lt e2
      have hmid : ∀ W : World, (Instr.sliceAt 22 (.slice A n c) (some (.int .i64 (a : Nat))) none none).run Tryz.prog W = .ok (.slice (cutA A a c) (n - a) (c - a)) W := fun W => fromB A n c a ha W
      obtain ⟨q, hq⟩ : ∃ q, q = n - a := ⟨_, rfl⟩
      obtain ⟨xs, hxs⟩ : ∃ xs, xs = (bs.drop a).take q := ⟨_, rfl⟩
      have hxl : xs.length = q := by rw [hxs, List.length_take, List.length_drop, ← HN.out]; omega
      have hsx : Src wr 1 (cutA A a c) q (c - a) (ucells xs) := by
        have h := src_cut (m := q) (lo := a) (HS.out wr HCH.out) hc (by omega)
        rw [hxs]
        simpa [ucells, List.map_take, List.map_drop] using h
      have hlp := parts_len HPT.out
      rw [List.length_take, ← HN.out, Nat.min_eq_left ha] at hlp
      have hhx : ∀ ad, cutA A a c = some ad → xs ≠ [] → ad.block < B := fun ad h hne => by
        obtain ⟨ad2, h5, h6⟩ := cutA_block h
        rw [← h6]
        exact HSL.out ad2 h5 (fun h7 => hne (by rw [hxs, h7]; simp))
      have hyy : ∀ b ∈ xs, b < 256 := fun b hb => HBB.out b (List.mem_of_mem_drop (List.mem_of_mem_take (by rw [← hxs]; exact hb)))
      have hxn : bs = bs.take a ++ xs := by
        have h5 : (bs.drop a).take q = bs.drop a := List.take_of_length_le (by rw [List.length_drop, ← HN.out]; omega)
        rw [hxs, h5, List.take_append_drop]
      have HXN := keepf hxn
      rw [← hq] at hmid
      have eg := fn_eg kk
      have HPC := keepf (fun (W : World) (x bx : Nat) hW hbx hx hxs => part_call kk hkk W wr B g gw x bx true L S (cutA A a c) (c - a) xs HPD.out hW hbx hx hxs (by rw [hxl]; exact hsx) (by rw [hxl]; omega) hhx hyy (by rw [hxl]; omega))
      have HWR := keepf (fun W => writer_any g kk hkk W)
      obtain ⟨f, hf⟩ : ∃ f, f = fnOf kk := ⟨_, rfl⟩
      rw [← hf] at eg HPC HWR
      rw [hxl] at HPC
      clear hkz h4 hcell2 hq hsx hlp hhx hyy hxn hf hxl hxs
      go_upto_region 13 with fail
      go_cut [] from 56 to 68 (fun wx => ∃ L' S', Hid (Wrote kk true xs L L') ∧ Hid (Pd wx B g gw L' S') ∧ Hid (Chg NoS w wx))
      case first =>
        go_region_with (first
          | (go_at_call 40; refine (HWR.out _).mono ?_; rintro e w3 ⟨rfl, hb3, hc3⟩; have HB3 := keepf hb3; have HC3 := keepf hc3; clear hb3 hc3)
          | (go_at_fn f; refine (HPC.out _ _ _ (((Chg.refl NoS wr).drew.trans HC3.out (fun _ _ e => e)).alloc _) (HB3.out.alloc _) (Blk.new _ _ _) (((Chg.refl NoS wr).drew.trans HC3.out (fun _ _ e => e)).size)).mono ?_; rintro e w5 ⟨rfl, L', S', hw5, hp5, hc5⟩; have HW5 := keepf hw5; have HP5 := keepf hp5; have HC5 := keepf (hc5 w HCH.out (by have := HBW.out; omega)); clear hw5 hp5 hc5)
          | (go_at_fn f; refine (HPC.out _ _ _ (((Chg.refl NoS wr).drew.alloc _).trans HC3.out (fun _ _ e => e)) (by simpa using HB3.out) (Blk.chg (Blk.new wr.drew _ _) HC3.out (fun e => e)) (Nat.le_refl _)).mono ?_; rintro e w5 ⟨rfl, L', S', hw5, hp5, hc5⟩; have HW5 := keepf hw5; have HP5 := keepf hp5; have HC5 := keepf (hc5 w HCH.out (by have := HBW.out; omega)); clear hw5 hp5 hc5))
        all_goals
          try go_wp2_with fail
          go_meet
          exact ⟨L', S', HW5.out, HP5.out, HC5.out⟩
      case rest =>
        obtain ⟨L', S', HW6, HP6, HC6⟩ := hcut
        have hpk : PackedB m bs L' := ⟨bs.take a, xs, L, kk, HXN.out, HPT.out, HW6.out⟩
        have hpl := packedB_len hpk
        have HPK := keepf hpk
        have HRES := keepf (result_ok B g gw L' S' _ HP6.out (by have := HN.out; omega))
        clear hpk hpl
        go_wp2_with (go_at_call 25; refine HRES.out.mono ?_; rintro e w7 ⟨A7, c7, rfl, ho7, hc7⟩; have HO7 := keepf ho7; have HC7 := keepf (HC6.out.trans hc7 (fun _ _ e => e)); clear ho7 hc7)
        go_ret2
        exact ⟨L', HPK.out, A7, c7, rfl, HO7.out, HC7.out⟩
end Go.Proofs.YtlijfdflghepcaaGreat

