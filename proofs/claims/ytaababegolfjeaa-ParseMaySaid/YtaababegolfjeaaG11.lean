/- Merged by program: NLib NCutF PName PNameW PRune RPrt RPar PTok RDig. -/
import Derived.Test.YtaababegolfjeaaG01
import Derived.Test.YtaababegolfjeaaG02
import Derived.Test.YtaababegolfjeaaG08
import Derived.Test.YtaababegolfjeaaG10
import Derived.Test.YtaababegolfjeaaProg
import Derived.Lib.LaidTab
import Derived.Lib.ItoaNum
import Derived.Lib.Repeat
import Derived.Sort.Grow
import Derived.Test.YtaababegolfjeaaShelf
import Derived.WalkMore
import Derived.BigQuiet
import Derived.BigRegion
import Derived.OwnWalk
import Derived.Deep.Cut
import Derived.Deep.QuietTactic
import Derived.Laws.Runes
import Derived.Deep.CutRange
import Derived.WalkKit
/- What the library reads of the world (a table of powers of ten, a bound): it stays where no block that was there is changed. -/
namespace Go.Proofs.Ytaababegolfjeaa
open Go.RowKit
set_option linter.unusedVariables false

structure LibOk (w : World) : Prop where
  tab : Lib.TabIs Try.prog w "internal/strconv.uint64pow10" .u64 Lib.pow10Tab
  most : ∃ m, w.cell? ⟨0, 0, none⟩ = some (.int .i64 m)

theorem cell_in {w : World} {a : Addr} {v : Value} (h : w.cell? a = some v) : a.block < w.heap.size := by
  rcases Nat.lt_or_ge a.block w.heap.size with h' | h'
  · exact h'
  · simp [World.cell?, Array.getElem?_eq_none h'] at h

theorem var_chg {P : Program} {w w' : World} {n : String} {cs : Array Value} (h : w.var? P n = some cs) (hc : Chg NoS w w') : w'.var? P n = some cs := by
  unfold World.var? at h ⊢
  cases hg : P.globalNamed n with
  | none => simp [hg] at h
  | some g =>
    simp only [hg, Option.bind_some] at h ⊢
    have hlt : g < w.heap.size := by
      rcases Nat.lt_or_ge g w.heap.size with h' | h'
      · exact h'
      · simp [Array.getElem?_eq_none h'] at h
    rw [hc.block g hlt (fun h => h)]
    exact h

theorem LibOk.chg {w w' : World} (h : LibOk w) (hc : Chg NoS w w') : LibOk w' := by
  obtain ⟨m, hm⟩ := h.most
  exact ⟨var_chg h.tab hc, m, (hc.cell (cell_in hm) (fun h => h)).trans hm⟩

theorem chg_grow {w : World} (k : Nat) (os : Array Obj) : Chg NoS w (Go.Sort.grow (w.drewN k) os) :=
  ⟨rfl, rfl, rfl, by rw [Go.Sort.size_grow]; exact Nat.le_add_right _ _, fun i hi _ => Go.Sort.heap_grow_old _ _ hi⟩

/-- Bytes of a string and numbers. -/
theorem sl_mk (l : List UInt8) : sl ⟨l.toArray⟩ = l.map UInt8.toNat := rfl

theorem mk_sb (l : List UInt8) : (⟨l.toArray⟩ : ByteArray) = sb (l.map UInt8.toNat) := by
  unfold sb
  rw [List.map_map]
  have e : (UInt8.ofNat ∘ UInt8.toNat) = id := by funext x; simp
  rw [e, List.map_id]

theorem of_dig (d : Nat) (h : d < 10) : (UInt8.ofNat (48 + d)).toNat = 48 + d := by
  simp
  omega

theorem dec_txt (u : Nat) : (Lib.decDigits u).map UInt8.toNat = txt u 1 := by
  induction u using Nat.strongRecOn with
  | _ u ih =>
    rw [Lib.decDigits]
    by_cases h : u < 10
    · rw [dif_pos h, List.map_cons, List.map_nil, of_dig u h]
      by_cases h0 : u = 0
      · subst h0; rw [txt, dn_0]; rfl
      · rw [txt, dn_s h0, show u / 10 = 0 from by omega, dn_0, show u % 10 = u from by omega]
        rfl
    · rw [dif_neg h, List.map_append, ih (u / 10) (by omega), List.map_cons, List.map_nil, of_dig _ (by omega), txt_step u 1 (.inl (by omega))]
      rw [txt, txt]
      congr 1
      have h1 := dn_more (n := u / 10) (k := 0) (by simp; omega)
      rw [show 1 - (dn (u / 10)).length = 0 from by omega, show 1 - 1 - (dn (u / 10)).length = 0 from by omega]

theorem itoa_pos (n : Int) (h : 0 ≤ n) : (⟨(Lib.itoa n).toArray⟩ : ByteArray) = sb (txt n.toNat 1) := by
  unfold Lib.itoa
  rw [if_neg (by omega), mk_sb, dec_txt]

theorem rep_zero : ∀ c, Lib.repeatL [48] c = List.replicate c 48
  | 0 => rfl
  | c + 1 => by rw [Lib.repeatL, rep_zero c, List.replicate_succ]; rfl

theorem rep_sb (c : Nat) : (⟨(Lib.repeatL [48] c).toArray⟩ : ByteArray) = sb (List.replicate c 48) := by
  rw [mk_sb, rep_zero, List.map_replicate]
  rfl

end Go.Proofs.Ytaababegolfjeaa

/- strings.Cut at one byte: it asks nothing of the world. -/
namespace Go.Proofs.Ytaababegolfjeaa
open Go.RowKit
set_option linter.unusedVariables false
set_option linter.unusedSimpArgs false

/-- What is ahead of the first byte c, what is behind it, and whether there is one. -/
def cutB (c : Nat) : List Nat → List Nat × List Nat × Bool
  | [] => ([], [], false)
  | x :: l => if x = c then ([], l, true) else (x :: (cutB c l).1, (cutB c l).2.1, (cutB c l).2.2)

theorem cutB_at (c : UInt8) : ∀ (l : List UInt8), (Lib.indexByte l c = -1 ∧ cutB c.toNat (l.map UInt8.toNat) = (l.map UInt8.toNat, [], false)) ∨
    ∃ i : Nat, Lib.indexByte l c = i ∧ i < l.length ∧ cutB c.toNat (l.map UInt8.toNat) = ((l.map UInt8.toNat).take i, (l.map UInt8.toNat).drop (i + 1), true) := by
  intro l
  induction l with
  | nil => exact .inl ⟨rfl, rfl⟩
  | cons x l ih =>
    rw [List.map_cons, cutB, Lib.indexByte]
    by_cases h : x = c
    · subst h
      exact .inr ⟨0, by simp, by simp, by simp⟩
    · have h2 : ¬ x.toNat = c.toNat := fun h2 => h (UInt8.toNat_inj.1 h2)
      have h3 : (x == c) = false := by simpa using h
      rw [if_neg h2]
      rcases ih with ⟨h4, h5⟩ | ⟨i, h4, h5, h6⟩
      · refine .inl ⟨?_, by rw [h5]⟩
        simp [h3, h4]
      · refine .inr ⟨i + 1, ?_, by simpa using h5, by rw [h6]; simp⟩
        simp [h3, h4]

theorem cutB_take {l : List Nat} (n : Nat) : (sb l).extract 0 n = sb (l.take n) := by
  unfold sb
  apply ByteArray.ext
  rw [ByteArray.data_extract]
  simp [List.map_take]

theorem cutB_drop {l : List Nat} (n m : Nat) (h : l.length = m) : (sb l).extract n m = sb (l.drop n) := by
  unfold sb
  apply ByteArray.ext
  rw [ByteArray.data_extract]
  simp only [List.extract_toArray, List.extract_eq_take_drop, List.map_drop]
  congr 1
  exact List.take_of_length_le (by rw [List.length_drop, List.length_map]; omega)

set_option maxHeartbeats 1000000 in
theorem cutI_any (c : UInt8) (m : List Nat) (hb : ∀ d ∈ m, d < 256) (hl : m.length ≤ 1000000) (w : World) :
    Calls Try.prog 65 #[.string (sb m), .string ⟨#[c]⟩] w fun e w' => e = .returned (.tuple #[.string (sb (cutB c.toNat m).1), .string (sb (cutB c.toNat m).2.1), .bool (cutB c.toNat m).2.2]) ∧ Chg NoS w w' := by
  have hm : (sb m).data.toList.map UInt8.toNat = m := sl_sb m hb
  have HC := keepf (cutB_at c (sb m).data.toList)
  have HI := keepf (fun W => Go.Proofs.Try.stringslite_Index_one (sb m) c W)
  rw [hm] at HC
  obtain ⟨z, hz⟩ : ∃ z, Lib.indexByte (sb m).data.toList c = z := ⟨_, rfl⟩
  rw [hz] at HC HI
  have hlen : (sb m).data.toList.length = m.length := by rw [← List.length_map (f := UInt8.toNat), hm]
  rw [hlen] at HC
  obtain ⟨n, hn⟩ : ∃ n, m.length = n := ⟨_, rfl⟩
  have hs : (sb m).size = n := by rw [sb_size, hn]
  obtain ⟨t, ht⟩ : ∃ t, sb m = t := ⟨_, rfl⟩
  rcases HC.out with ⟨rfl, h2⟩ | ⟨i, rfl, hi, h2⟩
  · have HE := keepf h2
    rw [ht] at HI ⊢
    have HT := keepf ht
    clear HC h2 hm hz hlen ht
    go_enter Try.func65, Try.ntmps65
    go_wp2_with (go_at_call 76; refine (HI.out _).mono ?_; rintro e w2 ⟨rfl, rfl⟩)
    go_ret3
    rw [HE.out]
    exact ⟨by rw [show (m, ([] : List Nat), false).1 = m from rfl, HT.out]; rfl, Chg.refl _ _⟩
  · have HE := keepf h2
    have e1 := cutB_take (l := m) i
    have e2 := cutB_drop (l := m) (i + 1) n hn
    obtain ⟨a, ha⟩ : ∃ a, sb (m.take i) = a := ⟨_, rfl⟩
    obtain ⟨b, hb2⟩ : ∃ b, sb (m.drop (i + 1)) = b := ⟨_, rfl⟩
    rw [ht] at HI hs e1 e2 ⊢
    rw [ha] at e1
    rw [hb2] at e2
    rw [hn] at hi hl
    have i1 : (i : Int) ≤ n := by omega
    have i2 : (i : Int) + 1 ≤ n := by omega
    have i3 : (0 : Int) ≤ (i : Int) + 1 := by omega
    have i4 : i ≤ n := by omega
    have i5 : i + 1 ≤ n := by omega
    have i6 : ((i : Int) + 1).toNat = i + 1 := by omega
    have d1 : decide ((0 : Int) ≤ i) = true := by simp
    have k1 : IntKind.i64.wrap ((i : Int) + 1) = (i : Int) + 1 := by rw [IntKind.wrap_i64]; omega
    have HA := keepf ha
    have HB := keepf hb2
    clear HC h2 hm hz hlen ht hi ha hb2 hn hb
    go_enter Try.func65, Try.ntmps65
    go_upto_region 3 with (go_at_call 76; refine (HI.out _).mono ?_; rintro e w2 ⟨rfl, rfl⟩)
    go_quiet (fail)
    go_wp2_with fail
    go_ret3
    rw [HE.out]
    exact ⟨by rw [show (m.take i, m.drop (i + 1), true).1 = m.take i from rfl, show (m.take i, m.drop (i + 1), true).2.1 = m.drop (i + 1) from rfl, HA.out, HB.out]; rfl, (Chg.refl _ _).drewN nq⟩

theorem cutF_any (c : UInt8) (m : List Nat) (hb : ∀ d ∈ m, d < 256) (hl : m.length ≤ 1000000) (w : World) :
    Calls Try.prog 52 #[.string (sb m), .string ⟨#[c]⟩] w fun e w' => e = .returned (.tuple #[.string (sb (cutB c.toNat m).1), .string (sb (cutB c.toNat m).2.1), .bool (cutB c.toNat m).2.2]) ∧ Chg NoS w w' := by
  have H := keepf (fun W => cutI_any c m hb hl W)
  obtain ⟨t, ht⟩ : ∃ t, sb m = t := ⟨_, rfl⟩
  obtain ⟨a, ha⟩ : ∃ a, sb (cutB c.toNat m).1 = a := ⟨_, rfl⟩
  obtain ⟨b, hb2⟩ : ∃ b, sb (cutB c.toNat m).2.1 = b := ⟨_, rfl⟩
  obtain ⟨f, hf⟩ : ∃ f, (cutB c.toNat m).2.2 = f := ⟨_, rfl⟩
  rw [ht, ha, hb2, hf] at H
  rw [ht, ha, hb2, hf]
  clear ht ha hb2 hf hb hl
  go_enter Try.func52, Try.ntmps52
  go_wp2_with (go_at_call 65; refine (H.out _).mono ?_; rintro e w2 ⟨rfl, hc2⟩; have HC2 := keepf hc2; clear hc2)
  go_ret3
  exact ⟨rfl, HC2.out⟩

end Go.Proofs.Ytaababegolfjeaa

/- The reader's names (written by mkpname.py). -/
namespace Go.Proofs.Ytaababegolfjeaa
open Go.RowKit
set_option linter.unusedVariables false
set_option linter.unusedSimpArgs false

theorem cutB_no {c : Nat} : ∀ {m : List Nat}, (cutB c m).2.2 = false → (cutB c m) = (m, [], false) := by
  intro m
  induction m with
  | nil => intro _; rfl
  | cons x l ih =>
    intro h
    rw [cutB] at h ⊢
    by_cases hx : x = c
    · rw [if_pos hx] at h; cases h
    · rw [if_neg hx] at h ⊢
      rw [ih h]

theorem cutB_nomem {c : Nat} : ∀ {m : List Nat}, c ∉ (cutB c m).1 := by
  intro m
  induction m with
  | nil => simp [cutB]
  | cons x l ih =>
    rw [cutB]
    by_cases hx : x = c
    · rw [if_pos hx]; simp
    · rw [if_neg hx]
      simp only [List.mem_cons, not_or]
      exact ⟨fun e => hx e.symm, ih⟩

theorem cutB_yes {c : Nat} : ∀ {m : List Nat}, (cutB c m).2.2 = true → m = (cutB c m).1 ++ c :: (cutB c m).2.1 := by
  intro m
  induction m with
  | nil => intro h; cases h
  | cons x l ih =>
    intro h
    rw [cutB] at h ⊢
    by_cases hx : x = c
    · rw [if_pos hx]; rw [hx]; rfl
    · rw [if_neg hx] at h ⊢
      rw [List.cons_append]
      exact congrArg (x :: ·) (ih h)

theorem nameF_app : ∀ (a l : List Nat), 35 ∉ a → nameF (a ++ l) = (nameF l).map (a ++ ·)
  | [], l, _ => by cases h : nameF l <;> simp [h]
  | x :: a, l, h => by
    have hx : x ≠ 35 := fun e => h (by rw [e]; exact List.mem_cons_self ..)
    have ih := nameF_app a l (fun e => h (List.mem_cons_of_mem _ e))
    have e : ∀ r, nameF (x :: r) = (nameF r).map (x :: ·) := fun r => by rw [nameF.eq_def]; simp [hx]
    rw [List.cons_append, e, ih]
    cases nameF l <;> rfl

theorem nameF_plain {a : List Nat} (h : 35 ∉ a) : nameF a = some a := by
  have := nameF_app a [] h
  rw [List.append_nil] at this
  rw [this]
  simp [nameF]

/-- What is told of a name of which out was put together and m is left. -/
def nmR (out m : List Nat) : Int × List Nat := match nameF m with
  | none => (17, [])
  | some o => if 0 ∈ out ++ o ∨ 127 < (out ++ o).length then (17, []) else (0, out ++ o)

theorem nmR_nil (w : List Nat) : nmR [] w = nameO w := rfl

theorem nmR_end {out m : List Nat} (h : 35 ∉ m) (h0 : 0 ∉ out) (h1 : 0 ∉ m) : nmR out m = if 127 < (out ++ m).length then (17, []) else (0, out ++ m) := by
  have h2 : ¬ 0 ∈ out ++ m := fun e => by rcases List.mem_append.1 e with e | e; exact h0 e; exact h1 e
  unfold nmR
  rw [nameF_plain h]
  simp only []
  by_cases h3 : 127 < (out ++ m).length
  · rw [if_pos (.inr h3), if_pos h3]
  · rw [if_neg (by rintro (e | e); exact h2 e; exact h3 e), if_neg h3]

/-- The byte of two digits, and whether it may be. -/
def codeV (m : List Nat) : Nat := match m with
  | x :: y :: _ => 16 * hexV x + hexV y
  | _ => 0

def codeB (m : List Nat) : Bool := match m with
  | x :: y :: _ => (hexD x).isSome && ((hexD y).isSome && decide (16 * hexV x + hexV y ≠ 0))
  | _ => false

theorem codeV_lt (m : List Nat) : codeV m < 256 := by
  rcases m with _ | ⟨x, _ | ⟨y, r⟩⟩
  · decide
  · exact Nat.zero_lt_succ _
  · have h1 := hexV_lt x
    have h2 := hexV_lt y
    show 16 * hexV x + hexV y < 256
    omega

theorem nmR_bad {out a m : List Nat} (h : 35 ∉ a) (hb : codeB m = false) : nmR out (a ++ 35 :: m) = (17, []) := by
  unfold nmR
  rw [nameF_app _ _ h]
  rcases m with _ | ⟨x, _ | ⟨y, r⟩⟩
  · rfl
  · rfl
  · cases hx : hexD x with
    | none => simp [nameF, hx]
    | some u =>
      cases hy : hexD y with
      | none => simp [nameF, hx, hy]
      | some v =>
        have e1 : hexV x = u := by unfold hexV; rw [hx]; rfl
        have e2 : hexV y = v := by unfold hexV; rw [hy]; rfl
        simp only [codeB, hx, hy, e1, e2, Option.isSome_some, Bool.true_and, decide_eq_false_iff_not, Decidable.not_not] at hb
        cases hr : nameF r with
        | none => simp [nameF, hx, hy, hr]
        | some o => simp [nameF, hx, hy, hr, hb]

theorem nmR_good {out a m : List Nat} (h : 35 ∉ a) (hb : codeB m = true) : 2 ≤ m.length ∧ codeV m ≠ 0 ∧ nmR out (a ++ 35 :: m) = nmR (out ++ a ++ [codeV m]) (m.drop 2) := by
  rcases m with _ | ⟨x, _ | ⟨y, r⟩⟩
  · cases hb
  · cases hb
  · cases hx : hexD x with
    | none => simp [codeB, hx] at hb
    | some u =>
      cases hy : hexD y with
      | none => simp [codeB, hx, hy] at hb
      | some v =>
        have e1 : hexV x = u := by unfold hexV; rw [hx]; rfl
        have e2 : hexV y = v := by unfold hexV; rw [hy]; rfl
        simp only [codeB, hx, hy, e1, e2, Option.isSome_some, Bool.true_and, decide_eq_true_eq] at hb
        refine ⟨by simp, by show 16 * hexV x + hexV y ≠ 0; rw [e1, e2]; exact hb, ?_⟩
        unfold nmR
        rw [nameF_app _ _ h]
        have e3 : nameF (35 :: x :: y :: r) = (nameF r).map ((16 * u + v) :: ·) := by simp [nameF, hx, hy]
        rw [e3, codeV, e1, e2]
        simp only [List.drop_succ_cons, List.drop_zero]
        cases hr : nameF r with
        | none => rfl
        | some o => simp

set_option maxHeartbeats 1000000 in
theorem pcode_any (m : List Nat) (hb : ∀ d ∈ m, d < 256) (hl : m.length ≤ 1000000) (w : World) :
    Calls Try.prog 54 #[.string (sb m)] w fun e w' => e = .returned (.tuple #[.int .u8 (codeV m : Nat), .bool (codeB m)]) ∧ w = w' := by
  have hs : (sb m).size = m.length := sb_size m
  have hsl := sl_sb m hb
  rcases m with _ | ⟨x, _ | ⟨y, r⟩⟩
  · obtain ⟨t, ht⟩ : ∃ t, sb [] = t := ⟨_, rfl⟩
    rw [ht] at hs ⊢
    clear hsl ht
    simp only [List.length_nil] at hs
    go_enter Try.func54, Try.ntmps54
    go_wp2_with fail
    go_ret2
    exact ⟨rfl, rfl⟩
  · obtain ⟨t, ht⟩ : ∃ t, sb [x] = t := ⟨_, rfl⟩
    rw [ht] at hs ⊢
    clear hsl ht
    simp only [List.length_cons, List.length_nil] at hs
    go_enter Try.func54, Try.ntmps54
    go_wp2_with fail
    go_ret2
    exact ⟨rfl, rfl⟩
  · have hx0 : x < 256 := hb x (List.mem_cons_self ..)
    have hy0 : y < 256 := hb y (List.mem_cons_of_mem _ (List.mem_cons_self ..))
    obtain ⟨t, ht⟩ : ∃ t, sb (x :: y :: r) = t := ⟨_, rfl⟩
    rw [ht] at hs hsl ⊢
    have g0 : ∀ h : 0 < t.size, (t[0]'h).toNat = x := fun h => by rw [sl_at, hsl]; rfl
    have g1 : ∀ h : 1 < t.size, (t[1]'h).toNat = y := fun h => by rw [sl_at, hsl]; rfl
    obtain ⟨N, hN⟩ : ∃ N, t.size = N := ⟨_, rfl⟩
    have hN2 : 2 ≤ N := by rw [← hN, hs]; simp
    have hN3 : N ≤ 1000000 := by rw [← hN, hs]; exact hl
    have HX := keepf (fun W => pdigit_any x hx0 W)
    have HY := keepf (fun W => pdigit_any y hy0 W)
    have hvx := hexV_lt x
    have hvy := hexV_lt y
    have HB := keepf (show codeB (x :: y :: r) = ((hexD x).isSome && ((hexD y).isSome && decide (16 * hexV x + hexV y ≠ 0))) from rfl)
    have HV := keepf (show codeV (x :: y :: r) = 16 * hexV x + hexV y from rfl)
    obtain ⟨u, hu⟩ : ∃ u, hexV x = u := ⟨_, rfl⟩
    obtain ⟨v, hv⟩ : ∃ v, hexV y = v := ⟨_, rfl⟩
    obtain ⟨p, hp⟩ : ∃ p, (hexD x).isSome = p := ⟨_, rfl⟩
    obtain ⟨q, hq⟩ : ∃ q, (hexD y).isSome = q := ⟨_, rfl⟩
    rw [hu, hp] at HX
    rw [hv, hq] at HY
    rw [hu, hv, hp, hq] at HB
    rw [hu, hv] at HV
    rw [hu] at hvx
    rw [hv] at hvy
    have hor := or_16 (h := 16 * u) (a := u) (d := v) rfl hvx hvy
    have hsh : ((u : Int) * 2 ^ 4 % 256) = ((16 * u : Nat) : Int) := by omega
    have hsh2 : ((u : Int) * 16 % 256) = ((16 * u : Nat) : Int) := by omega
    obtain ⟨z, hz⟩ : ∃ z, 16 * u + v = z := ⟨_, rfl⟩
    rw [hz] at hor HB HV
    have hor2 : bits BinOp.or IntKind.u8 ((u : Int) * 16) (v : Int) = ((z : Nat) : Int) := by rw [show (u : Int) * 16 = ((16 * u : Nat) : Int) by omega]; exact hor
    clear hor hsh hsh2
    clear hs hsl ht hb hl hu hv hp hq hz
    by_cases hz0 : z = 0
    · subst hz0
      cases p <;> cases q
      all_goals
        go_enter Try.func54, Try.ntmps54
        go_wp2_with first | (have hdn := HDone.out; go_at_call 50; refine (HY.out _).mono ?_; rintro e w4 ⟨rfl, rfl⟩) | (go_at_call 50; refine (HX.out _).mono ?_; rintro e w3 ⟨rfl, rfl⟩; have HDone := keepf True.intro)
        go_ret2
        exact ⟨by rw [HB.out, HV.out]; rfl, rfl⟩
    · have e0 : ((z : Int) != 0) = true := by simp; omega
      have e1 : decide (z ≠ 0) = true := by simp; omega
      rw [e1] at HB
      clear hz0 e1
      cases p <;> cases q
      all_goals
        go_enter Try.func54, Try.ntmps54
        go_wp2_with first | (have hdn := HDone.out; go_at_call 50; refine (HY.out _).mono ?_; rintro e w4 ⟨rfl, rfl⟩) | (go_at_call 50; refine (HX.out _).mono ?_; rintro e w3 ⟨rfl, rfl⟩; have HDone := keepf True.intro)
        go_ret2
        exact ⟨by rw [HB.out, HV.out]; rfl, rfl⟩

end Go.Proofs.Ytaababegolfjeaa

/- The reader's names: the walk (written by mkpnamew.py). -/
namespace Go.Proofs.Ytaababegolfjeaa
open Go.RowKit
set_option linter.unusedVariables false
set_option linter.unusedSimpArgs false

theorem TxR.call {V w X X' : World} {A : Option Addr} {bs : List Nat} {c : Nat} {last : Bool} {R g p k deep : Nat} {out : List Nat} (h : TxR V w A bs c last R g p k deep out X) (hc : Chg NoS X X') : TxR V w A bs c last R g p k deep out X' :=
  ⟨h.1.call hc, h.2.1.chg hc (fun h => h), h.2.2⟩

theorem rgs_mem : ∀ (l : List Nat), ∀ d ∈ l.take (rgs l), isRg d = true
  | [], d, h => by simp at h
  | x :: l, d, h => by
    rw [rgs] at h
    by_cases hx : isRg x = true
    · rw [if_pos hx, List.take_succ_cons] at h
      rcases List.mem_cons.1 h with rfl | h
      · exact hx
      · exact rgs_mem l d h
    · rw [if_neg hx] at h; simp at h

/-- Behind the reading of a name. -/
def nmTo (last : Bool) (p : Nat) (l : List Nat) : Int × List Nat × Nat := if runE last l ≠ 0 then (6, [], 0) else ((nameO (l.take (rgs l))).1, (nameO (l.take (rgs l))).2, p + rgs l)

theorem runE_two (last : Bool) (l : List Nat) : runE last l = 0 ∨ runE last l = 6 := by
  unfold runE
  split
  · exact .inr rfl
  · exact .inl rfl

def NmJ (V w : World) (A : Option Addr) (bs : List Nat) (c : Nat) (last : Bool) (R g k : Nat) (ws : List Nat) (n : Nat) (x : Act) (w' : World) : Prop :=
  x.defers = [] ∧ x.tmps.size = 57 ∧ x.tmps.getD 0 undef = .pointer (some ⟨R, 0, none⟩) ∧ x.tmps.getD 2 undef = .pointer (some ⟨g, 0, none⟩) ∧ ∃ (m out : List Nat), x.tmps.getD 4 undef = .string (sb m) ∧ n = m.length + 1 ∧ out.length + m.length ≤ 100000 ∧
    Hid (TxR V w A bs c last R g 0 k 0 out w' ∧ nmR [] ws = nmR out m ∧ 0 ∉ out ∧ 0 ∉ m ∧ ∀ d ∈ m, d < 256)

theorem slots_57n {x : Act} {v0 v2 v4 : Value} {C : Act → Prop} (h1 : x.defers = []) (h2 : x.tmps.size = 57) (h3 : x.tmps.getD 0 undef = v0) (h4 : x.tmps.getD 2 undef = v2) (h5 : x.tmps.getD 4 undef = v4)
    (k : ∀ f : Nat → Value, C { tmps := #[v0, f 1, v2, f 3, v4, f 5, f 6, f 7, f 8, f 9, f 10, f 11, f 12, f 13, f 14, f 15, f 16, f 17, f 18, f 19, f 20, f 21, f 22, f 23, f 24, f 25, f 26, f 27, f 28, f 29, f 30, f 31, f 32, f 33, f 34, f 35, f 36, f 37, f 38, f 39, f 40, f 41, f 42, f 43, f 44, f 45, f 46, f 47, f 48, f 49, f 50, f 51, f 52, f 53, f 54, f 55, f 56], defers := [] }) : C x := by
  obtain ⟨t, d⟩ := x
  simp only at h1 h2 h3 h4 h5
  subst h1
  have h6 := k (fun i => t.getD i undef)
  rw [← h3, ← h4, ← h5] at h6
  rw [arr_slots t 57 h2]
  exact h6

set_option maxHeartbeats 4000000 in
set_option maxRecDepth 100000 in
theorem pname_any {V w W : World} {A : Option Addr} {bs : List Nat} {c R p : Nat} {last : Bool} (h : RD V w W A bs.length c last R p []) (hS : Src w 1 A bs.length c (lcells bs)) (hl : bs.length ≤ 100000) (hc : bs.length ≤ c) (hp : p ≤ bs.length) (hb : ∀ d ∈ bs, d < 256) (hn0 : 0 < bs.length) :
    Calls Try.prog 38 #[.pointer (some ⟨R, 0, none⟩)] W (PTo V w R 5 (nmTo last p (bs.drop p))) := by
  have HRU := keepf (fun X (hX : RD X w X A bs.length c last R p []) => prun_any hX hS hl hc hp hn0)
  have HWB := keepf (fun X out k y (hX : RD X w X A bs.length c last R k out) (ho : out.length ≤ 1000000) => pwbyte_any hX y ho)
  have HWS := keepf (fun X out k m (hX : RD X w X A bs.length c last R k out) (hm : ∀ d ∈ m, d < 256) (ho : out.length ≤ 1000000) (ho2 : m.length ≤ 1000000) => pwstr_any hX m hm ho ho2)
  have HLE := keepf (fun X out k (hX : RD X w X A bs.length c last R k out) => plen_any hX)
  have HBU := keepf (fun X out k (hX : RD X w X A bs.length c last R k out) (ho : ∀ d ∈ out, d < 256) (hm : out.length ≤ 1000000) => pbuilt_any hX ho hm 5)
  have HCT := keepf (fun m (hm : ∀ d ∈ m, d < 256) (ho : m.length ≤ 1000000) X => cutF_any 35 m hm ho X)
  have HCO := keepf (fun m (hm : ∀ d ∈ m, d < 256) (ho : m.length ≤ 1000000) X => pcode_any m hm ho X)
  have HKB := keepf h.kb
  have HR0 := keepf h.here
  have hRW := h.lt
  have hwW := h.chg.size
  obtain ⟨g, hg⟩ : ∃ g, g = W.heap.size := ⟨_, rfl⟩
  have HG := keepf hg
  have hgR : g ≠ R := by omega
  have hgW : W.heap.size ≤ g := by omega
  have hgw : w.heap.size ≤ g := by omega
  obtain ⟨l, hl0⟩ : ∃ l, l = bs.drop p := ⟨_, rfl⟩
  have hll : l.length ≤ 100000 := by rw [hl0, List.length_drop]; omega
  have hlb : ∀ d ∈ l, d < 256 := fun d hd => hb d (by rw [hl0] at hd; exact List.mem_of_mem_drop hd)
  obtain ⟨ws, hws⟩ : ∃ ws, ws = l.take (rgs l) := ⟨_, rfl⟩
  have hwl : ws.length ≤ 100000 := by rw [hws, List.length_take]; omega
  have HWB2 := keepf (show ∀ d ∈ ws, d < 256 from fun d hd => hlb d (by rw [hws] at hd; exact List.mem_of_mem_take hd))
  have HW0 := keepf (show 0 ∉ ws from fun hd => by rw [hws] at hd; exact absurd (rgs_mem l 0 hd) (by decide))
  obtain ⟨L, hL⟩ : ∃ L, L = p + rgs l := ⟨_, rfl⟩
  have HTO := keepf (show nmTo last p l = if runE last l ≠ 0 then (6, [], 0) else ((nameO ws).1, (nameO ws).2, L) from by unfold nmTo; rw [hws, hL])
  rw [← hl0] at HRU ⊢
  rw [← hws, ← hL] at HRU
  have HTR := keepf (fun (X X' : World) (k k' deep deep' : Nat) (out out' : List Nat) (h : TxR W w A bs c last R g 0 k deep out X) (h' : RD X w X' A bs.length c last R k' out') (hb : ∀ d ∈ out', d < 256) => TxR.step (deep' := deep') h h' hgR hb)
  have HT0 := keepf (show TxR W w A bs c last R g 0 p 0 [] (W.alloc (.cells #[.int .i64 0, .int .i64 0, .string ⟨#[]⟩, .slice none 0 0] 27)) from ⟨HR0.out.alloc _, by rw [HG.out]; exact Blk.new _ _ _, fun d hd => by cases hd⟩)
  clear h hS hb hc hg hwW hRW hl0 hll hlb hws hL hl hp hn0
  rcases runE_two last l with hE | hE
  case inr =>
    rw [hE] at HRU HTO
    clear hE
    obtain ⟨t, ht⟩ : ∃ t, sb ws = t := ⟨_, rfl⟩
    rw [ht] at HRU
    clear ht
    go_enter Try.func38, Try.ntmps38
    go_wp2
    go_step3
    go_wp2_with (go_at_call 51; refine (HRU.out _ HT0.out.1.here).mono ?_; rintro e w3 ⟨rfl, h3⟩; have HT3 := keepf (HTR.out _ _ _ _ _ 0 _ _ HT0.out h3 HT0.out.2.2); clear h3; obtain ⟨r0, r1, r2, r3, z0, z1, z2, z3⟩ := HT3.out.2.1.cl4; rw [HG.out] at r0 r1 r2 r3 z0 z1 z2 z3)
    all_goals (try simp only [Exit.noGoto_ret])
    refine bodyPost_ret (v := .tuple #[.agg #[.int .i64 0, .int .i64 0, .string ⟨#[]⟩, .slice none 0 0], .int .i64 6]) (by simp [results, Try.results38, go_sem, r0, r1, r2, r3]) rfl ?_
    have HTO6 := keepf (HTO.out.trans (if_pos (show (6 : Int) ≠ 0 by decide)))
    refine ⟨by rw [HTO6.out]; rfl, L, fun e => absurd (by rw [HTO6.out] at e; exact e) (show ¬ (6 : Int) = 0 by decide), ?_⟩
    exact (HT3.out.1.re.set4 (by have h9 := HG.out; omega) (Nat.le_refl _) (by have h9 := HG.out; omega) _ _ _ _).back HKB.out
  rw [hE] at HRU HTO
  clear hE
  have HTOK := keepf (show nmTo last p l = ((nmR [] ws).1, (nmR [] ws).2, L) from by rw [HTO.out, if_neg (fun h9 => h9 rfl), nmR_nil])
  go_enter Try.func38, Try.ntmps38
  go_wp2
  refine wp_scope1 (NmJ W w A bs c last R g L ws) rfl ?pass0 ?first
  case first =>
    intro hpass
    have HPass := keepf hpass
    clear hpass
    obtain ⟨t, ht⟩ : ∃ t, sb ws = t := ⟨_, rfl⟩
    have HTS := keepf ht
    rw [ht] at HRU
    clear ht
    · go_wp2_with (go_at_call 51; refine (HRU.out _ HT0.out.1.here).mono ?_; rintro e w3 ⟨rfl, h3⟩; have HT3 := keepf (HTR.out _ _ _ _ _ 0 _ _ HT0.out h3 HT0.out.2.2); clear h3)
      go_step3
      rename_i hK
      refine hK _ _ (HPass.out _ _ _ ⟨rfl, rfl, rfl, by rw [HG.out]; rfl, ws, [], by rw [HTS.out]; rfl, rfl, by simpa using hwl, keepf ⟨HT3.out, rfl, by simp, HW0.out, HWB2.out⟩⟩)
  case pass0 =>
    intro n x w1 hx
    obtain ⟨h1, h2, h3, h4, m, out, h5, rfl, hm, HT⟩ := hx
    refine slots_57n h1 h2 h3 h4 h5 (C := fun y => Code.wp _ _ _ y w1) ?_
    intro f
    clear h1 h2 h3 h4 h5
    have HX := keepf HT.out.2
    have HT1 := keepf HT.out.1
    have HCT1 := keepf (HCT.out m HX.out.2.2.2 (by omega))
    rw [show (35 : UInt8).toNat = 35 from rfl] at HCT1
    obtain ⟨t, ht⟩ : ∃ t, sb m = t := ⟨_, rfl⟩
    rw [ht] at HCT1 ⊢
    clear ht HT HCT
    cases hf : (cutB 35 m).2.2 with
    | false =>
      have hcb := cutB_no hf
      have hnm := cutB_nomem (c := 35) (m := m)
      rw [hcb] at HCT1 hnm
      simp only at HCT1 hnm
      have HTO1 := keepf (show nmR [] ws = if 127 < (out ++ m).length then (17, []) else (0, out ++ m) from by rw [HX.out.1, nmR_end hnm HX.out.2.1 HX.out.2.2.1])
      have HWS1 := keepf (fun X hX => HWS.out X out L m hX HX.out.2.2.2 (by omega) (by omega))
      obtain ⟨t1, ht1⟩ : ∃ t1, sb m = t1 := ⟨_, rfl⟩
      rw [ht1] at HCT1 HWS1
      obtain ⟨N, hN⟩ : ∃ N, (out ++ m).length = N := ⟨_, rfl⟩
      have hN2 : N ≤ 100000 := by rw [← hN, List.length_append]; exact hm
      have HLE1 := keepf (fun X hX => HLE.out X (out ++ m) L hX)
      have HNN := keepf hN
      rw [hN] at HLE1 HTO1
      have HMB := keepf (show ∀ d ∈ out ++ m, d < 256 from fun d hd => by rcases List.mem_append.1 hd with h9 | h9; exact HT1.out.2.2 d h9; exact HX.out.2.2.2 d h9)
      clear hf hcb hnm ht1 hN
      by_cases h127 : 127 < N
      · have HTO2 := keepf (HTO1.out.trans (if_pos h127))
        have d1 : decide ((127 : Int) < N) = true := by simp; omega
        go_wp2_with first
          | (go_at_call 52; refine (HCT1.out _).mono ?_; rintro e w2 ⟨rfl, hc2⟩; have HT2 := keepf (HT1.out.call hc2); clear hc2)
          | (go_at_call 53; refine (HWS1.out _ HT2.out.1.here).mono ?_; rintro e w3 ⟨rfl, h3⟩; have HT3 := keepf (HTR.out _ _ _ _ _ 0 _ _ HT2.out h3 HMB.out); clear h3; obtain ⟨r0, r1, r2, r3, z0, z1, z2, z3⟩ := HT3.out.2.1.cl4)
          | (go_at_call 55; refine (HLE1.out _ HT3.out.1.here).mono ?_; rintro e w4 ⟨rfl, rfl⟩)
        all_goals (try simp only [hops])
        refine bodyPost_ret (v := .tuple #[.agg #[.int .i64 0, .int .i64 0, .string ⟨#[]⟩, .slice none 0 0], .int .i64 17]) (by simp [results, Try.results38, go_sem, r0, r1, r2, r3]) rfl ?_
        refine ⟨by rw [HTOK.out, HTO2.out]; rfl, L, fun e => absurd (by rw [HTOK.out, HTO2.out] at e; exact e) (show ¬ (17 : Int) = 0 by decide), ?_⟩
        exact (HT3.out.1.re.set4 hgR hgW hgw _ _ _ _).back HKB.out
      · have HTO2 := keepf (HTO1.out.trans (if_neg h127))
        have d1 : decide ((127 : Int) < N) = false := by simp; omega
        have HBU1 := keepf (fun X hX => HBU.out X (out ++ m) L hX HMB.out (by rw [HNN.out]; omega))
        obtain ⟨u, hu⟩ : ∃ u, sb (out ++ m) = u := ⟨_, rfl⟩
        have HU := keepf hu
        rw [hu] at HBU1
        clear hu
        go_wp2_with first
          | (go_at_call 52; refine (HCT1.out _).mono ?_; rintro e w2 ⟨rfl, hc2⟩; have HT2 := keepf (HT1.out.call hc2); clear hc2)
          | (go_at_call 53; refine (HWS1.out _ HT2.out.1.here).mono ?_; rintro e w3 ⟨rfl, h3⟩; have HT3 := keepf (HTR.out _ _ _ _ _ 0 _ _ HT2.out h3 HMB.out); clear h3)
          | (go_at_call 55; refine (HLE1.out _ HT3.out.1.here).mono ?_; rintro e w4 ⟨rfl, rfl⟩)
          | (go_at_call 46; refine (HBU1.out _ HT3.out.1.here).mono ?_; rintro e w5 ⟨rfl, h5⟩; obtain ⟨r0, r1, r2, r3, z0, z1, z2, z3⟩ := (h5.kb _ _ _ hgR (by decide) HT3.out.2.1).cl4; have HRE := keepf (h5.back HT3.out.1.kb); clear h5)
        all_goals (try simp only [hops])
        refine bodyPost_ret (v := .tuple #[.agg #[.int .i64 5, .int .i64 0, .string u, .slice none 0 0], .int .i64 0]) (by simp [results, Try.results38, go_sem, r0, r1, r2, r3]) rfl ?_
        refine ⟨by rw [HTOK.out, HTO2.out, ← HU.out]; rfl, L, fun e => by rw [HTOK.out], ?_⟩
        exact (HRE.out.set4 hgR hgW hgw _ _ _ _).back HKB.out
    | true =>
      have hcb := cutB_yes hf
      have hnm := cutB_nomem (c := 35) (m := m)
      rw [hf] at HCT1
      obtain ⟨a, ha⟩ : ∃ a, (cutB 35 m).1 = a := ⟨_, rfl⟩
      obtain ⟨d, hd⟩ : ∃ d, (cutB 35 m).2.1 = d := ⟨_, rfl⟩
      rw [ha, hd] at HCT1 hcb
      rw [ha] at hnm
      have hml : m.length = a.length + (d.length + 1) := by rw [hcb, List.length_append, List.length_cons]
      have hab : ∀ y ∈ a, y < 256 := fun y hy => HX.out.2.2.2 y (by rw [hcb]; exact List.mem_append.2 (.inl hy))
      have hdb : ∀ y ∈ d, y < 256 := fun y hy => HX.out.2.2.2 y (by rw [hcb]; exact List.mem_append.2 (.inr (List.mem_cons_of_mem _ hy)))
      have ha0 : 0 ∉ a := fun hy => HX.out.2.2.1 (by rw [hcb]; exact List.mem_append.2 (.inl hy))
      have hd0 : 0 ∉ d := fun hy => HX.out.2.2.1 (by rw [hcb]; exact List.mem_append.2 (.inr (List.mem_cons_of_mem _ hy)))
      have HWS1 := keepf (fun X hX => HWS.out X out L a hX hab (by omega) (by omega))
      have HCO1 := keepf (fun X => HCO.out d hdb (by omega) X)
      have HOB := keepf (show ∀ y ∈ out ++ a, y < 256 from fun y hy => by rcases List.mem_append.1 hy with h9 | h9; exact HT1.out.2.2 y h9; exact hab y h9)
      have HDB := keepf hdb
      have HML := keepf hml
      have hol : (out ++ a).length = out.length + a.length := List.length_append
      have HWBo := keepf (fun X y hX => HWB.out X (out ++ a) L y hX (by omega))
      have HOL := keepf hol
      obtain ⟨u, hu⟩ : ∃ u, sb a = u := ⟨_, rfl⟩
      have hsd := sb_size d
      have hdrop := cutB_drop (l := d) 2 d.length rfl
      obtain ⟨v, hv⟩ : ∃ v, sb d = v := ⟨_, rfl⟩
      rw [hu, hv] at HCT1
      rw [hu] at HWS1
      rw [hv] at HCO1 hsd hdrop
      have HC0 := keepf hcb
      have hm3 : out.length + a.length + d.length + 1 ≤ 100000 := by omega
      cases hcB : codeB d with
      | false =>
        have HTO2 := keepf (show nmR [] ws = (17, []) from by rw [HX.out.1, HC0.out, nmR_bad hnm hcB])
        rw [hcB] at HCO1
        obtain ⟨y, hy⟩ : ∃ y, codeV d = y := ⟨_, rfl⟩
        rw [hy] at HCO1
        clear hcb hnm ha hd hml hab hdb ha0 hd0 hu hv hf hol hsd hdrop hcB hy
        go_wp2_with first
          | (go_at_call 52; refine (HCT1.out _).mono ?_; rintro e w2 ⟨rfl, hc2⟩; have HT2 := keepf (HT1.out.call hc2); clear hc2)
          | (go_at_call 53; refine (HWS1.out _ HT2.out.1.here).mono ?_; rintro e w3 ⟨rfl, h3⟩; have HT3 := keepf (HTR.out _ _ _ _ _ 0 _ _ HT2.out h3 HOB.out); clear h3; obtain ⟨r0, r1, r2, r3, z0, z1, z2, z3⟩ := HT3.out.2.1.cl4)
          | (go_at_call 54; refine (HCO1.out _).mono ?_; rintro e w4 ⟨rfl, rfl⟩)
        all_goals (try simp only [hops])
        refine bodyPost_ret (v := .tuple #[.agg #[.int .i64 0, .int .i64 0, .string ⟨#[]⟩, .slice none 0 0], .int .i64 17]) (by simp [results, Try.results38, go_sem, r0, r1, r2, r3]) rfl ?_
        refine ⟨by rw [HTOK.out, HTO2.out]; rfl, L, fun e => absurd (by rw [HTOK.out, HTO2.out] at e; exact e) (show ¬ (17 : Int) = 0 by decide), ?_⟩
        exact (HT3.out.1.re.set4 hgR hgW hgw _ _ _ _).back HKB.out
      | true =>
        obtain ⟨k2, k0, kE⟩ := nmR_good (out := out) hnm hcB
        have HTO2 := keepf (show nmR [] ws = nmR (out ++ a ++ [codeV d]) (d.drop 2) from by rw [HX.out.1, HC0.out, kE])
        rw [hcB] at HCO1
        have hy256 := codeV_lt d
        obtain ⟨y, hy⟩ : ∃ y, codeV d = y := ⟨_, rfl⟩
        rw [hy] at HCO1 hy256 k0 HTO2
        have HN0 := keepf (show 0 ∉ out ++ a ++ [y] from fun h9 => by
          rcases List.mem_append.1 h9 with h9 | h9
          · rcases List.mem_append.1 h9 with h9 | h9
            · exact HX.out.2.1 h9
            · exact ha0 h9
          · exact k0 (List.mem_singleton.1 h9).symm)
        have HD0 := keepf (show 0 ∉ d.drop 2 from fun h9 => hd0 (List.mem_of_mem_drop h9))
        have HDB2 := keepf (show ∀ z ∈ d.drop 2, z < 256 from fun z hz => HDB.out z (List.mem_of_mem_drop hz))
        obtain ⟨b, hb2⟩ : ∃ b, sb (d.drop 2) = b := ⟨_, rfl⟩
        rw [hb2] at hdrop
        have HB2 := keepf hb2
        obtain ⟨D, hD⟩ : ∃ D, d.length = D := ⟨_, rfl⟩
        have HDL := keepf hD
        have HD2 := keepf (show (d.drop 2).length = D - 2 from by rw [List.length_drop, hD])
        have HMM := keepf (show m.length = a.length + (D + 1) from by rw [hml, hD])
        rw [hD] at hsd hdrop k2 hm3
        have i2 : (2 : Int) ≤ D := by omega
        clear hcb hnm ha hd hml hab hdb ha0 hd0 hu hv hf hol hcB hy k0 kE hb2 hD
        go_wp2_with first
          | (go_at_call 52; refine (HCT1.out _).mono ?_; rintro e w2 ⟨rfl, hc2⟩; have HT2 := keepf (HT1.out.call hc2); clear hc2)
          | (go_at_call 53; refine (HWS1.out _ HT2.out.1.here).mono ?_; rintro e w3 ⟨rfl, h3⟩; have HT3 := keepf (HTR.out _ _ _ _ _ 0 _ _ HT2.out h3 HOB.out); clear h3)
          | (go_at_call 54; refine (HCO1.out _).mono ?_; rintro e w4 ⟨rfl, rfl⟩)
          | (go_at_call 47; refine (HWBo.out _ y HT3.out.1.here).mono ?_; rintro e w5 ⟨rfl, h5⟩; have HT5 := keepf (HTR.out _ _ _ _ _ 0 _ _ HT3.out h5 (mem_snoc HOB.out hy256)); clear h5)
        go_step3
        exact ⟨(d.drop 2).length + 1, by rw [HMM.out, HD2.out]; omega, rfl, rfl, rfl, rfl, rfl, d.drop 2, out ++ a ++ [y], by rw [HB2.out]; rfl, rfl, by rw [HD2.out, List.length_append, HOL.out]; simp only [List.length_cons, List.length_nil]; omega, keepf ⟨HT5.out, HTO2.out, HN0.out, HD0.out, HDB2.out⟩⟩

end Go.Proofs.Ytaababegolfjeaa

/- strings.ContainsRune at the bytes that a number may begin with. -/
namespace Go.Proofs.Ytaababegolfjeaa
open Go.RowKit
set_option linter.unusedVariables false
set_option linter.unusedSimpArgs false

def numStr : ByteArray := ⟨#[48, 49, 50, 51, 52, 53, 54, 55, 56, 57, 43, 45, 46]⟩

theorem enc_val (x : Nat) (h2 : x < 256) : Utf8.valid (x : Int) = true := by
  have h1 : (x : Int) < 55296 := by omega
  have h0 : (0 : Int) ≤ x := by omega
  unfold Utf8.valid
  have e1 : decide ((0 : Int) ≤ x) = true := decide_eq_true h0
  have e2 : decide ((x : Int) < 55296) = true := decide_eq_true h1
  simp [e1, e2, h0, h1]
  try omega

theorem enc_eq (x : Nat) (h : 128 ≤ x) (h2 : x < 256) : Utf8.encode (x : Int) = ⟨#[UInt8.ofNat (192 + x / 64), UInt8.ofNat (128 + x % 64)]⟩ := by
  have hc : ¬ (x : Int).toNat < 128 := by omega
  have hd : (x : Int).toNat < 2048 := by omega
  unfold Utf8.encode
  simp only [enc_val x h2, if_true, hc, hd, if_false]
  rfl

theorem enc_two (x : Nat) (h : 128 ≤ x) (h2 : x < 256) : ∃ (t : ByteArray) (y : Nat), Utf8.encode (x : Int) = t ∧ t.size = 2 ∧ 128 ≤ y ∧ y < 256 ∧ ∀ k : 1 < t.size, (t[1]'k).toNat = y := by
  refine ⟨_, 128 + x % 64, enc_eq x h h2, rfl, by omega, by omega, fun k => ?_⟩
  show (UInt8.ofNat (128 + x % 64)).toNat = _
  simp
  omega

theorem idx_none (l : List UInt8) (y : Nat) (hy : 128 ≤ y) (hy2 : y < 256) (h : ∀ b ∈ l, b.toNat < 128) : Lib.indexByte l (y : Int).toNat.toUInt8 = -1 := by
  induction l with
  | nil => rfl
  | cons x l ih =>
    have hx := h x (List.mem_cons_self ..)
    have h3 : (x == (y : Int).toNat.toUInt8) = false := by
      rw [beq_eq_false_iff_ne]
      rintro rfl
      simp at hx
      omega
    rw [Lib.indexByte]
    rw [ih (fun b hb => h b (List.mem_cons_of_mem _ hb))]
    have h4 : ¬ x = UInt8.ofNat y := by simpa using h3
    simp [h3, h4]

set_option maxRecDepth 100000 in
theorem num_ascii : ∀ x : Fin 128, decide (0 ≤ Lib.indexByte numStr.data.toList ((x.val : Int).toNat.toUInt8)) = isNm x.val := by decide

set_option maxHeartbeats 2000000 in
set_option maxRecDepth 100000 in
theorem idxrune_gen (s s2 : ByteArray) (n : Nat) (hs : s.size = n) (hn : 2 < n) (hn2 : n ≤ 1000) (hs1 : ∀ k : 1 < s.size, (s[1]'k).toNat = 49) (hs2 : s.extract 2 n = s2) (hs3 : ∀ b ∈ s2.data.toList, b.toNat < 128) (x : Nat) (h : 128 ≤ x) (h2 : x < 256) (w : World) : Calls Try.prog 66 #[.string s, .int .i32 (x : Nat)] w fun e w' => e = .returned (.int .i64 (-1)) ∧ Chg NoS w w' := by
  obtain ⟨t, y, ht, hsz, hy1, hy2, g1⟩ := enc_two x h h2
  have hcv : ∀ W, (convert 21 9 (.int .i32 (x : Nat))).run Try.prog W = .ok (.string t) W := fun W => by
    rw [← ht]
    exact run_convert_int_string W _ _ _ _ (by kernel_rfl) Try.underlying9
  clear ht
  have HVR := keepf (fun W => Try.utf8_ValidRune (x : Int) W)
  rw [show Lib.validRune (x : Int) = true from by unfold Lib.validRune; simp; omega] at HVR
  have HIB := keepf (fun W => (show Calls Try.prog 77 #[.string s2, .int .u8 (y : Nat)] W fun e w' => e = .returned (.int .i64 (-1)) ∧ W = w' from by
    have := Try.strings_IndexByte s2 (y : Int) W
    rw [idx_none _ y hy1 hy2 hs3] at this
    exact this.mono fun _ _ ⟨he, hm⟩ => ⟨he, hm.symm⟩))
  have e1 : ((49 : Int) != (y : Int)) = true := by simp; omega
  have e2 : (49 != y) = true := by simp; omega
  have d1 : decide ((x : Int) < 128) = false := by simp; omega
  have d2 : ((x : Int) == 65533) = false := by simp; omega
  have i1 : (2 : Int) ≤ n := by omega
  have i2 : (1 : Int) < n := by omega
  have hw2 : IntKind.i64.wrap 2 = 2 := by decide
  have HHS := keepf hs3
  clear hs3
  go_enter Try.func66, Try.ntmps66
  go_wp2_with (go_at_call 78; refine (HVR.out _).mono ?_; rintro e w2 ⟨rfl, hw⟩; rw [hw]; clear hw)
  go_step3
  go_upto_region 5 with fail
  go_loopw [9] (fun vi wr => vi = .int .i64 1 ∧ wr = w) (fun _ _ => 0)
  case atStart => exact ⟨rfl, rfl⟩
  case round =>
    obtain ⟨rfl, rfl⟩ := hrel
    go_upto_region 6 with fail
    (try go_step3)
    go_upto_region 6 with fail
    go_quiet (fail)
    go_upto_region 7 with fail
    go_quiet ((go_at_call 77; first | exact quiet_left_add (HIB.out _) | exact quiet_left (HIB.out _)))
    go_wp2_with fail
    simp only [Exit.noGoto_ret, Exit.inBlock]
    change bodyPost Try.prog _ (fun e w2 => e = .returned (.int .i64 (-1)) ∧ Chg NoS wr w2) Exit.ret _ _
    go_ret
    exact ⟨rfl, (Chg.refl _ _).drewN _⟩

set_option maxHeartbeats 2000000 in
set_option maxRecDepth 100000 in
/-- Is it a byte that a number may begin with? -/
theorem crune_any (x : Nat) (h2 : x < 256) (w : World) : Calls Try.prog 56 #[.string ⟨#[48, 49, 50, 51, 52, 53, 54, 55, 56, 57, 43, 45, 46]⟩, .int .i32 (x : Nat)] w fun e w' => e = .returned (.bool (isNm x)) ∧ Chg NoS w w' := by
  by_cases h : x < 128
  · have H := Try.strings_ContainsRune_ascii numStr (x : Int) w (by omega) (by omega)
    rw [num_ascii ⟨x, h⟩] at H
    exact H.mono fun _ _ ⟨he, hm⟩ => ⟨he, by rw [hm]; exact Chg.refl _ _⟩
  · have HI := keepf (fun W => idxrune_gen ⟨#[48, 49, 50, 51, 52, 53, 54, 55, 56, 57, 43, 45, 46]⟩ ⟨#[50, 51, 52, 53, 54, 55, 56, 57, 43, 45, 46]⟩ 13 rfl (by decide) (by decide) (fun _ => rfl) (by decide) (by decide) x (by omega) h2 W)
    have HN := keepf (show isNm x = false from by simp [isNm]; omega)
    obtain ⟨s, hs⟩ : ∃ s, (⟨#[48, 49, 50, 51, 52, 53, 54, 55, 56, 57, 43, 45, 46]⟩ : ByteArray) = s := ⟨_, rfl⟩
    rw [hs] at HI ⊢
    clear hs
    go_enter Try.func56, Try.ntmps56
    go_wp2_with (go_at_call 66; refine (HI.out _).mono ?_; rintro e w2 ⟨rfl, hc2⟩; have HC2 := keepf hc2; clear hc2)
    go_ret
    exact ⟨by rw [HN.out]; rfl, HC2.out⟩

end Go.Proofs.Ytaababegolfjeaa

/- The document's own Print of a number. -/
namespace Go.Proofs.Ytaababegolfjeaa
open Go.RowKit
set_option linter.unusedVariables false
set_option linter.unusedSimpArgs false

/-- A number's text, and the error. -/
def prOf (k n : Int) (sz len : Nat) : List Nat × Int := if chkOf k n sz len = 0 then (if k = 2 then intTxt n else realTxt n, 0) else ([], 2)

theorem sb_at {l : List Nat} (hb : ∀ d ∈ l, d < 256) (k : Nat) (h : k < (sb l).size) : ((sb l)[k]'h).toNat = l.getD k 0 := by
  rw [sl_at, sl_sb l hb]

theorem sb_take (l : List Nat) (m : Nat) : (sb l).extract 0 m = sb (l.take m) := by
  unfold sb
  apply ByteArray.ext
  rw [ByteArray.data_extract]
  simp [List.map_take]

theorem last_at {l : List Nat} {n x : Nat} (hn : l.length = n + 1) (hx : l.getD n 0 = x) : l.getLast? = some x := by
  rw [List.getLast?_eq_getElem?, hn, Nat.add_sub_cancel]
  rw [List.getD_eq_getElem?_getD, List.getElem?_eq_getElem (by omega)] at hx
  rw [List.getElem?_eq_getElem (by omega)]
  exact congrArg some hx

theorem trimZ_yes {k n : Nat} {l : List Nat} (hn : l.length = n + 1) (hx : l.getD n 0 = 48) : trimZ (k + 1) l = trimZ k (l.take n) := by
  rw [trimZ, if_pos (last_at hn hx), List.dropLast_eq_take, hn, Nat.add_sub_cancel]

theorem trimZ_no {k n : Nat} {l : List Nat} (hn : l.length = n + 1) (hx : l.getD n 0 ≠ 48) : trimZ k l = l := by
  rcases k with _ | k
  · rfl
  · rw [trimZ, if_neg]
    intro h
    have h2 := last_at hn rfl
    rw [h] at h2
    injection h2 with h2
    exact hx h2.symm

theorem dig_lt {l : List Nat} (h : ∀ d ∈ l, isD d) : ∀ d ∈ l, d < 256 := fun d hd => by
  have := h d hd
  unfold isD at this
  omega

/-- Behind Print. -/
def PrTo (w : World) (k n : Int) (sz len : Nat) (e : Ending) (w' : World) : Prop := e = .returned (.tuple #[.string (sb (prOf k n sz len).1), .int .i64 (prOf k n sz len).2]) ∧ Chg NoS w w'

theorem PrTo.of {w w' : World} {k n : Int} {sz len : Nat} {l : List Nat} {z : Int} {t : ByteArray} (h : prOf k n sz len = (l, z)) (ht : t = sb l) (hc : Chg NoS w w') : PrTo w k n sz len (.returned (.tuple #[.string t, .int .i64 z])) w' := by
  unfold PrTo
  rw [h, ht]
  exact ⟨rfl, hc⟩

end Go.Proofs.Ytaababegolfjeaa

/- The document's own Parse of a number. -/
namespace Go.Proofs.Ytaababegolfjeaa
open Go.RowKit
set_option linter.unusedVariables false
set_option linter.unusedSimpArgs false

/-- Behind Parse. -/
def PaTo (w : World) (l : List Nat) (e : Ending) (w' : World) : Prop := e = .returned (.tuple #[.agg #[.int .i64 (numOf l).2.1, .int .i64 (numOf l).2.2, .string ⟨#[]⟩, .slice none 0 0], .int .i64 (numOf l).1]) ∧ Chg NoS w w'

/-- Where what is behind the sign begins. -/
structure AtIs (l : List Nat) (a : Nat) : Prop where
  le : a ≤ 1
  in_ : a ≤ l.length
  eq : signed l = (decide (a = 1 ∧ l.getD 0 0 = 45), l.drop a)

theorem at_nil {l : List Nat} (h : l.length = 0) : AtIs l 0 := by
  obtain rfl := List.eq_nil_of_length_eq_zero h
  exact ⟨by omega, by omega, by simp [signed]⟩

theorem at_sign {l : List Nat} (h : 0 < l.length) (hx : l.getD 0 0 = 43 ∨ l.getD 0 0 = 45) : AtIs l 1 := by
  rcases l with _ | ⟨c, l⟩
  · simp at h
  · refine ⟨by omega, by simp, ?_⟩
    have hx : c = 43 ∨ c = 45 := hx
    rcases hx with rfl | rfl
    · simp [signed]
    · simp [signed]

theorem at_none {l : List Nat} (h : 0 < l.length) (h1 : l.getD 0 0 ≠ 43) (h2 : l.getD 0 0 ≠ 45) : AtIs l 0 := by
  rcases l with _ | ⟨c, l⟩
  · simp at h
  · have h1 : c ≠ 43 := h1
    have h2 : c ≠ 45 := h2
    exact ⟨by omega, by simp, by simp [signed, h1, h2]⟩

/-- In the loop: what was read. -/
structure PIn (l : List Nat) (a k : Nat) (st : Ns) (pt : Int) : Prop where
  ak : a ≤ k
  rd : nsAll ns0 ((l.drop a).take (k - a)) = some st
  pt_none : st.fr = none → pt = -1
  pt_some : ∀ j, st.fr = some j → ∃ p : Nat, pt = (p : Nat) ∧ k = p + 1 + j
  nb : st.n ≤ 21474836479
  db : st.digits ≤ k

section
variable {l : List Nat} {a k c : Nat} {st t : Ns} {pt : Int}
theorem PIn.start (l : List Nat) (a : Nat) : PIn l a a ns0 (-1) := ⟨Nat.le_refl _, by rw [Nat.sub_self]; rfl, fun _ => rfl, fun j h => (by cases h), by decide, by show 0 ≤ a; omega⟩
theorem PIn.good (h : PIn l a k st pt) : NsIn st := ns0_in.all _ h.rd
theorem PIn.take (h : PIn l a k st pt) (hc : l[k]? = some c) : (l.drop a).take (k + 1 - a) = (l.drop a).take (k - a) ++ [c] := by
  have ha := h.ak
  rw [show k + 1 - a = (k - a) + 1 from by omega, take_snoc (by rw [List.getElem?_drop, show a + (k - a) = k from by omega]; exact hc)]
theorem PIn.next (h : PIn l a k st pt) (hc : l[k]? = some c) (hs : nsStep st c = some t) {pt' : Int} (h1 : t.fr = none → pt' = -1) (h2 : ∀ j, t.fr = some j → ∃ p : Nat, pt' = (p : Nat) ∧ k + 1 = p + 1 + j) (h3 : t.n ≤ 21474836479) (h4 : t.digits ≤ k + 1) : PIn l a (k + 1) t pt' :=
  ⟨by have := h.ak; omega, by rw [h.take hc, nsAll_app, h.rd]; show nsAll st [c] = some t; rw [nsAll, hs]; rfl, h1, h2, h3, h4⟩
theorem PIn.bad (h : PIn l a k st pt) (hc : l[k]? = some c) (hs : nsStep st c = none) (ha : AtIs l a) : numOf l = (11, 0, 0) := by
  have e : l.drop a = (l.drop a).take (k - a) ++ (c :: l.drop (k + 1)) := by
    have h1 := List.take_append_drop (k + 1 - a) (l.drop a)
    rw [h.take hc, List.drop_drop, show a + (k + 1 - a) = k + 1 from by have := h.ak; omega, List.append_assoc] at h1
    exact h1.symm
  have hn : nsAll ns0 (l.drop a) = none := by
    rw [e, nsAll_app, h.rd]
    show nsAll st (c :: l.drop (k + 1)) = none
    rw [nsAll, hs]
  unfold numOf
  rw [ha.eq]
  simp only [hn]
theorem PIn.end_ (h : PIn l a k st pt) (hk : k = l.length) (ha : AtIs l a) : nsAll ns0 (signed l).2 = some st := by
  rw [ha.eq]
  have h1 := h.rd
  rwa [List.take_of_length_le (by rw [List.length_drop]; omega)] at h1
theorem PIn.nod (h : PIn l a k st pt) (hk : k = l.length) (ha : AtIs l a) (hd : st.digits = 0) : numOf l = (11, 0, 0) := by
  have h1 := h.end_ hk ha
  unfold numOf
  simp only [h1, if_pos hd]
theorem PIn.rng (h : PIn l a k st pt) (hk : k = l.length) (ha : AtIs l a) (hd : st.digits ≠ 0) (hr : st.over = true ∨ (st.fr ≠ none ∧ st.n = 2147483647 ∧ 0 < st.parts)) : numOf l = (5, 0, 0) := by
  have h1 := h.end_ hk ha
  unfold numOf
  simp only [h1, if_neg hd, if_pos hr]
theorem PIn.ok (h : PIn l a k st pt) (hk : k = l.length) (ha : AtIs l a) (hd : st.digits ≠ 0) (hr : ¬ (st.over = true ∨ (st.fr ≠ none ∧ st.n = 2147483647 ∧ 0 < st.parts))) {K : Nat} {v X : Int} (hK : K = if st.fr = none then 2 else 3) (hv : v = if st.fr = none then (st.n : Int) else ((1000000 * st.n + st.parts : Nat) : Int)) (hX : X = if a = 1 ∧ l.getD 0 0 = 45 then 0 - v else v) : numOf l = (0, K, X) := by
  have h1 := h.end_ hk ha
  have h2 : (signed l).1 = decide (a = 1 ∧ l.getD 0 0 = 45) := by rw [ha.eq]
  unfold numOf
  simp only [h1, if_neg hd, if_neg hr, h2, decide_eq_true_eq]
  rw [← hv, hX, hK]
end

theorem PaTo.of {w w' : World} {l : List Nat} {e x : Int} {k : Nat} (h : numOf l = (e, k, x)) (hc : Chg NoS w w') : PaTo w l (.returned (.tuple #[.agg #[.int .i64 (k : Nat), .int .i64 x, .string ⟨#[]⟩, .slice none 0 0], .int .i64 e])) w' := by
  unfold PaTo
  rw [h]
  exact ⟨rfl, hc⟩

theorem by_end {b i j : Nat} (hi1 : 1 ≤ i) (hi : i ≤ j + 1) (hi7 : i ≤ 7) (he : ¬ (i < j + 1 ∧ i < 7)) (hb : b = 100000 / 10 ^ (i - 1)) : b = 100000 / 10 ^ min j 6 := by
  rw [hb, show i - 1 = min j 6 from by omega]

theorem by_next {b i : Nat} (hi1 : 1 ≤ i) (hb : b = 100000 / 10 ^ (i - 1)) : b / 10 = 100000 / 10 ^ (i + 1 - 1) := by
  rw [hb, Nat.div_div_eq_div_mul, ← Nat.pow_succ, show (i - 1).succ = i + 1 - 1 from by omega]

theorem step_none_fr {st : Ns} {c : Nat} (h46 : ¬ (c = 46 ∧ st.fr = none)) (hd : ¬ isD c) : nsStep st c = none := by
  unfold nsStep
  rw [if_neg h46, if_neg hd]

end Go.Proofs.Ytaababegolfjeaa

/- The reader's tokens without their places: a value as a token, the end of a dictionary, a number or a word (written by mkptok.py). -/
namespace Go.Proofs.Ytaababegolfjeaa
open Go.RowKit
set_option linter.unusedVariables false
set_option linter.unusedSimpArgs false

set_option maxHeartbeats 1000000 in
theorem pvalued_any (k : Nat) (n er : Int) (s : ByteArray) (w : World) : Calls Try.prog 33 #[.agg #[.int .i64 (k : Nat), .int .i64 n, .string s, .slice none 0 0], .int .i64 er] w
    fun e w' => e = .returned (.tuple #[.agg #[.int .i64 1, .int .i64 0, .int .i64 0, .int .i64 (k : Nat), .int .i64 n, .string s, .slice none 0 0, .string ⟨#[]⟩], .int .i64 er]) ∧ Chg NoS w w' := by
  go_enter Try.func33, Try.ntmps33
  go_wp2_with fail
  refine bodyPost_ret (v := .tuple #[.agg #[.int .i64 1, .int .i64 0, .int .i64 0, .int .i64 (k : Nat), .int .i64 n, .string s, .slice none 0 0, .string ⟨#[]⟩], .int .i64 er]) (by simp [results, Try.results33, go_sem]) rfl ?_
  exact ⟨rfl, ((Chg.refl _ _).alloc _).alloc _⟩

/-- Behind the reading of a token: the token without its places and the error; the reader stands at its end, if there is no error. -/
def PTk (V w : World) (R : Nat) (r : Int × Tkn) (e : Ending) (W : World) : Prop :=
  ∃ (t : Tkn) (p : Nat), e = .returned (.tuple #[tknV t, .int .i64 r.1]) ∧ (r.1 = 0 → t = ⟨r.2.kind, 0, 0, r.2.vk, r.2.vn, r.2.vs, r.2.s⟩ ∧ p = r.2.to) ∧ RE V w W R p

def noK : Tkn := ⟨0, 0, 0, 0, 0, [], []⟩

theorem noK_V : tknV noK = .agg #[.int .i64 0, .int .i64 0, .int .i64 0, .int .i64 0, .int .i64 0, .string ⟨#[]⟩, .slice none 0 0, .string ⟨#[]⟩] := rfl

theorem PTk.err {V w : World} {R p : Nat} {r : Int × Tkn} {er : Int} {W : World} (h : r.1 = er) (he : er ≠ 0) (hR : RE V w W R p) : PTk V w R r (.returned (.tuple #[.agg #[.int .i64 0, .int .i64 0, .int .i64 0, .int .i64 0, .int .i64 0, .string ⟨#[]⟩, .slice none 0 0, .string ⟨#[]⟩], .int .i64 er])) W :=
  ⟨noK, p, by rw [h, noK_V], fun e => absurd (h.symm.trans e) he, hR⟩

def dictR (last : Bool) (f p : Nat) (l : List Nat) : Int × Tkn := if l.head? = some 62 then (0, ⟨5, f, p + 1, 0, 0, [], []⟩) else if l = [] ∧ last = false then (6, noT f) else (11, noT f)

set_option maxHeartbeats 1000000 in
theorem pclosed_any {V w W : World} {A : Option Addr} {bs : List Nat} {c R p : Nat} {last : Bool} {out : List Nat} (h : RD V w W A bs.length c last R p out) (hS : Src w 1 A bs.length c (lcells bs)) (hl : bs.length ≤ 1000000) (hc : bs.length ≤ c) (hp : p ≤ bs.length) (f : Nat) :
    Calls Try.prog 37 #[.pointer (some ⟨R, 0, none⟩)] W (PTk V w R (dictR last f p (bs.drop p))) := by
  have HKB := keepf h.kb
  have HR0 := keepf h.here
  have hRW := h.lt
  have hwW := h.chg.size
  obtain ⟨g, hg⟩ : ∃ g, g = W.heap.size := ⟨_, rfl⟩
  have HG := keepf hg
  have hgR : g ≠ R := by omega
  have hgW : W.heap.size ≤ g := by omega
  have hgw : w.heap.size ≤ g := by omega
  have HBW := keepf (show Blk (W.alloc (.cells #[.int .i64 0, .int .i64 0, .int .i64 0, .int .i64 0, .int .i64 0, .string ⟨#[]⟩, .slice none 0 0, .string ⟨#[]⟩] 37)) g 37 #[.int .i64 0, .int .i64 0, .int .i64 0, .int .i64 0, .int .i64 0, .string ⟨#[]⟩, .slice none 0 0, .string ⟨#[]⟩] from by rw [hg]; exact Blk.new _ _ _)
  have HPE := keepf (fun X (hX : RD X w X A bs.length c last R bs.length out) => ppass_end hX 62)
  have HPN := keepf (fun X x (hX : RD X w X A bs.length c last R p out) (hx : bs[p]? = some x) (hy : x ≠ 62) => ppass_no hX hS hl hc hx 62 hy)
  have HPA := keepf (fun X (hX : RD X w X A bs.length c last R p out) (hx : bs[p]? = some 62) => ppass_at hX hS hl hc hx)
  have HCU := keepf (fun X k (hX : RD X w X A bs.length c last R k out) => pcut_any hX 11)
  have HW1 := keepf (HR0.out.alloc (.cells #[.int .i64 0, .int .i64 0, .int .i64 0, .int .i64 0, .int .i64 0, .string ⟨#[]⟩, .slice none 0 0, .string ⟨#[]⟩] 37))
  obtain ⟨W1, hW1⟩ : ∃ W1, W1 = W.alloc (.cells #[.int .i64 0, .int .i64 0, .int .i64 0, .int .i64 0, .int .i64 0, .string ⟨#[]⟩, .slice none 0 0, .string ⟨#[]⟩] 37) := ⟨_, rfl⟩
  rw [← hW1] at HW1 HBW
  have HWW := keepf hW1
  clear h hS hg hwW hRW hW1
  by_cases hpn : p = bs.length
  · have HD := keepf (show dictR last f p (bs.drop p) = if last = false then (6, noT f) else (11, noT f) from by
      rw [hpn, List.drop_of_length_le (Nat.le_refl _)]; unfold dictR
      rw [if_neg (by simp)]
      cases last <;> simp)
    have HCU1 := keepf (fun X hX => HCU.out X p hX)
    have HPE1 := keepf (show ∀ X, RD X w X A bs.length c last R p out → Calls Try.prog 35 #[.pointer (some ⟨R, 0, none⟩), .int .u8 (62 : Nat)] X fun e W' => e = .returned (.bool false) ∧ RD X w W' A bs.length c last R p out from fun X hX => by rw [hpn] at hX ⊢; exact HPE.out X hX)
    have k2 : ((p : Int) == bs.length) = true := by simp; omega
    have k3 : (p == bs.length) = true := by simp; omega
    obtain ⟨er, her⟩ : ∃ er, er = (if last then (11 : Int) else 6) := ⟨_, rfl⟩
    have HER := keepf (show (dictR last f p (bs.drop p)).1 = er ∧ er ≠ 0 from by rw [HD.out, her]; cases last <;> exact ⟨rfl, by decide⟩)
    rw [← her] at HCU1
    clear hpn her
    go_enter Try.func37, Try.ntmps37
    go_upto_region 1 with fail
    rw [← HWW.out, ← HG.out]
    go_upto_region 3 with (go_at_call 35; refine (HPE1.out _ HW1.out.here).mono ?_; rintro e w3 ⟨rfl, h3⟩; obtain ⟨c2, c3, c4, f3⟩ := h3.cells; have HB3 := keepf (h3.kb _ _ _ hgR (by decide) HBW.out); have HR3 := keepf (h3.base (HW1.out.kb.trans h3.kb)); clear h3)
    go_quiet (fail)
    obtain ⟨r0, r1, r2, r3, r4, r5, r6, r7, z0, z1, z2, z3, z4, z5, z6, z7⟩ := (HB3.out.drewN nq).cl8
    go_wp2_with (go_at_call 32; refine (HCU1.out _ (HR3.out.drewN nq).here).mono ?_; rintro e w4 ⟨rfl, rfl⟩)
    refine bodyPost_ret (v := .tuple #[.agg #[.int .i64 0, .int .i64 0, .int .i64 0, .int .i64 0, .int .i64 0, .string ⟨#[]⟩, .slice none 0 0, .string ⟨#[]⟩], .int .i64 er]) (by simp [results, Try.results37, go_sem, r0, r1, r2, r3, r4, r5, r6, r7]) rfl ?_
    exact PTk.err HER.out.1 HER.out.2 (((HR3.out.drewN nq).re.set8 hgR hgW hgw _ _ _ _ _ _ _ _).back HKB.out)
  obtain ⟨x, hx, hd⟩ := drop_at (bs := bs) (k := p) (by omega)
  by_cases h62 : x = 62
  · subst h62
    have HD := keepf (show dictR last f p (bs.drop p) = (0, ⟨5, f, p + 1, 0, 0, [], []⟩) from by rw [hd]; exact if_pos rfl)
    have HPA1 := keepf (fun X hX => HPA.out X hX hx)
    clear hx hd hpn
    go_enter Try.func37, Try.ntmps37
    go_upto_region 1 with fail
    rw [← HWW.out, ← HG.out]
    go_wp2_with (go_at_call 35; refine (HPA1.out _ HW1.out.here).mono ?_; rintro e w3 ⟨rfl, h3⟩; have HB3 := keepf (h3.kb _ _ _ hgR (by decide) HBW.out); have HR3 := keepf (h3.base (HW1.out.kb.trans h3.kb)); clear h3; obtain ⟨r0, r1, r2, r3, r4, r5, r6, r7, z0, z1, z2, z3, z4, z5, z6, z7⟩ := HB3.out.cl8)
    refine bodyPost_ret (v := .tuple #[.agg #[.int .i64 5, .int .i64 0, .int .i64 0, .int .i64 0, .int .i64 0, .string ⟨#[]⟩, .slice none 0 0, .string ⟨#[]⟩], .int .i64 0]) (by simp [results, Try.results37, go_sem, r0, r1, r2, r3, r4, r5, r6, r7]) rfl ?_
    exact ⟨⟨5, 0, 0, 0, 0, [], []⟩, p + 1, by rw [HD.out]; rfl, fun _ => by rw [HD.out]; exact ⟨rfl, rfl⟩, (HR3.out.re.set8 hgR hgW hgw _ _ _ _ _ _ _ _).back HKB.out⟩
  · have HD := keepf (show (dictR last f p (bs.drop p)).1 = 11 from by rw [hd]; unfold dictR; rw [if_neg (by simpa using h62), if_neg (by simp)])
    have HPN1 := keepf (fun X hX => HPN.out X x hX hx h62)
    have k2 : ((p : Int) == bs.length) = false := by simp; omega
    have k3 : (p == bs.length) = false := by simp; omega
    clear hx hd hpn
    go_enter Try.func37, Try.ntmps37
    go_upto_region 1 with fail
    rw [← HWW.out, ← HG.out]
    go_upto_region 3 with (go_at_call 35; refine (HPN1.out _ HW1.out.here).mono ?_; rintro e w3 ⟨rfl, h3⟩; obtain ⟨c2, c3, c4, f3⟩ := h3.cells; have HB3 := keepf (h3.kb _ _ _ hgR (by decide) HBW.out); have HR3 := keepf (h3.base (HW1.out.kb.trans h3.kb)); clear h3)
    go_quiet (fail)
    obtain ⟨r0, r1, r2, r3, r4, r5, r6, r7, z0, z1, z2, z3, z4, z5, z6, z7⟩ := (HB3.out.drewN nq).cl8
    go_wp2_with fail
    refine bodyPost_ret (v := .tuple #[.agg #[.int .i64 0, .int .i64 0, .int .i64 0, .int .i64 0, .int .i64 0, .string ⟨#[]⟩, .slice none 0 0, .string ⟨#[]⟩], .int .i64 11]) (by simp [results, Try.results37, go_sem, r0, r1, r2, r3, r4, r5, r6, r7]) rfl ?_
    exact PTk.err HD.out (by decide) (((HR3.out.drewN nq).re.set8 hgR hgW hgw _ _ _ _ _ _ _ _).back HKB.out)

end Go.Proofs.Ytaababegolfjeaa

/- The document's own Digits. -/
namespace Go.Proofs.Ytaababegolfjeaa
open Go.RowKit
set_option linter.unusedVariables false
set_option linter.unusedSimpArgs false

/-- What digits tell: the number, and the error. -/
def dgOf (l : List Nat) : Int × Int := if l = [] ∨ ∃ d ∈ l, ¬ isD d then (0, 11) else if 2147483647 < valF 0 l then (0, 5) else (((valF 0 l : Nat) : Int), 0)

theorem valF_ge (l : List Nat) : ∀ a, a ≤ valF a l := by
  induction l with
  | nil => intro a; exact Nat.le_refl _
  | cons x l ih =>
    intro a
    have := ih (10 * a + (x - 48))
    show a ≤ valF (10 * a + (x - 48)) l
    omega

theorem valF_part (l : List Nat) (k : Nat) : valF 0 (l.take k) ≤ valF 0 l := by
  have h := valF_app 0 (l.take k) (l.drop k)
  rw [List.take_append_drop] at h
  rw [h]
  exact valF_ge _ _

theorem dg_bad {l : List Nat} (h : l = [] ∨ ∃ d ∈ l, ¬ isD d) : dgOf l = (0, 11) := if_pos h

theorem dg_big {l : List Nat} (h0 : l ≠ []) (h1 : ∀ d ∈ l, isD d) (h : 2147483647 < valF 0 l) : dgOf l = (0, 5) := by
  unfold dgOf
  rw [if_neg (by rintro (h | ⟨d, hd, h⟩); exact h0 h; exact h (h1 d hd)), if_pos h]

theorem dg_ok {l : List Nat} (h0 : l ≠ []) (h1 : ∀ d ∈ l, isD d) (h : ¬ 2147483647 < valF 0 l) : dgOf l = (((valF 0 l : Nat) : Int), 0) := by
  unfold dgOf
  rw [if_neg (by rintro (h | ⟨d, hd, h⟩); exact h0 h; exact h (h1 d hd)), if_neg h]

end Go.Proofs.Ytaababegolfjeaa

