/- Merged by program: FShow FNT ShX VDi3 Wks13 Small13 R13N. -/
import Derived.Test.YtcehpobjnbgpdaaGreatDoorG03
import Derived.Test.YtcehpobjnbgpdaaGreatDoorG08
import Derived.Test.YtcehpobjnbgpdaaGreatDoorG09
import Derived.Test.YtcehpobjnbgpdaaGreatDoorG12
import Derived.Test.YtcehpobjnbgpdaaGreatDoorG13
import Derived.Test.YtcehpobjnbgpdaaGreatDoorG14
import Derived.Test.YtcehpobjnbgpdaaGreatDoorG15
import Derived.BigQuiet
import Derived.Laws.DeepStrings4
/- What show tells: Value, Length, Name, Text. -/
namespace Go.Proofs.YtcehpobjnbgpdaaGreatDoor
open Go.RowKit
set_option linter.unusedVariables false
set_option linter.unusedSimpArgs false

theorem nmF_lt {s : List Nat} (h : ∀ c ∈ s, c < 256) : ∀ d ∈ nmF s, d < 256 := by
  intro d hd
  rw [nmF] at hd
  rcases List.mem_cons.1 hd with rfl | hd
  · decide
  induction s with
  | nil => cases hd
  | cons c s ih =>
    rw [nmL] at hd
    rcases List.mem_append.1 hd with h1 | h1
    · have hc := h c (List.mem_cons_self ..)
      unfold nmC at h1
      split at h1
      · rw [List.mem_singleton] at h1; omega
      · rcases List.mem_cons.1 h1 with rfl | h1
        · decide
        · exact hex2_lt hc d h1
    · exact ih (fun x hx => h x (List.mem_cons_of_mem _ hx)) (List.mem_cons_of_mem _ h1) h1

theorem esL_lt {s : List Nat} (h : ∀ c ∈ s, c < 256) : ∀ d ∈ esL s, d < 256 := by
  intro d hd
  induction s with
  | nil => cases hd
  | cons c s ih =>
    rw [esL] at hd
    rcases List.mem_append.1 hd with h1 | h1
    · exact esC_lt (h c (List.mem_cons_self ..)) d h1
    · exact ih (fun x hx => h x (List.mem_cons_of_mem _ hx)) h1

theorem hxL_lt {s : List Nat} (h : ∀ c ∈ s, c < 256) : ∀ d ∈ hxL s, d < 256 := by
  intro d hd
  induction s with
  | nil => cases hd
  | cons c s ih =>
    rw [hxL] at hd
    rcases List.mem_append.1 hd with h1 | h1
    · exact hex2_lt (h c (List.mem_cons_self ..)) d h1
    · exact ih (fun x hx => h x (List.mem_cons_of_mem _ hx)) h1

theorem txF_lt {s : List Nat} (h : ∀ c ∈ s, c < 256) : ∀ d ∈ txF s, d < 256 := by
  intro d hd
  unfold txF at hd
  split at hd
  · rcases List.mem_cons.1 hd with rfl | hd
    · decide
    rcases List.mem_append.1 hd with h1 | h1
    · exact esL_lt h d h1
    · rw [List.mem_singleton] at h1; omega
  · rcases List.mem_cons.1 hd with rfl | hd
    · decide
    rcases List.mem_append.1 hd with h1 | h1
    · exact hxL_lt h d h1
    · rw [List.mem_singleton] at h1; omega

mutual
theorem form_lt : ∀ (t : VT), ∀ d ∈ formT t, d < 256
  | .mk k n s l => by
    intro d hd
    have h32 : ∀ (x : List Nat), (∀ y ∈ x, y < 256) → d ∈ x → d < 256 := fun x hx hd => hx d hd
    rw [formT] at hd
    split at hd
    · exact h32 _ (by decide) hd
    split at hd
    · split at hd
      · exact h32 _ (by decide) hd
      · exact h32 _ (by decide) hd
    split at hd
    · exact isd_lt (int_b n) d hd
    split at hd
    · exact isd_lt (real_b n) d hd
    split at hd
    · exact txF_lt (sl_lt s) d hd
    split at hd
    · exact nmF_lt (sl_lt s) d hd
    split at hd
    · rcases List.mem_append.1 hd with hd | hd
      · exact isd_lt (int_b n) d hd
      · exact h32 _ (by decide) hd
    split at hd
    · rcases List.mem_cons.1 hd with rfl | hd
      · decide
      rcases List.mem_append.1 hd with hd | hd
      · exact formL_lt 0 l d hd
      · exact h32 _ (by decide) hd
    · rcases List.mem_cons.1 hd with rfl | hd
      · decide
      rcases List.mem_cons.1 hd with rfl | hd
      · decide
      rcases List.mem_append.1 hd with hd | hd
      · exact formL_lt 0 l d hd
      · exact h32 _ (by decide) hd
theorem formL_lt : ∀ (j : Nat) (l : List VT), ∀ d ∈ formL j l, d < 256
  | j, [] => fun d hd => by rw [formL_nil] at hd; cases hd
  | j, t :: l => fun d hd => by
    rw [formL_cons] at hd
    rcases List.mem_append.1 hd with hd | hd
    · have := List.eq_of_mem_replicate hd; omega
    rcases List.mem_append.1 hd with hd | hd
    · exact form_lt t d hd
    · exact formL_lt 1 l d hd
end

/-- What is told of a value: its form, if it may be. -/
noncomputable def showO (t : VT) : List Nat := if checkT t = 0 then formT t else []

theorem first_of {t : VT} (h : checkT t = 0) : firstT t = 0 := by
  unfold checkT at h
  split at h
  · cases h
  · exact h

set_option maxHeartbeats 4000000 in
set_option maxRecDepth 100000 in
theorem show_any (t : VT) (c : VC) (w : World) (hL : LibOk w) (hv : ValIs w t c) (hs : sizT t ≤ 1000000) (hl : checkT t = 0 → (formT t).length ≤ 400000) :
    Calls Tryz.prog 9 #[c.val] w fun e w' => e = .returned (.tuple #[.string (sb (showO t)), .int .i64 (checkT t)]) ∧ Chg NoS w w' := by
  have HLib := keepf hL
  have HV := keepf hv
  have HCK := keepf (fun X (hX : Chg NoS w X) => check_any t c X (hv.chg hX) hs)
  have HFV := keepf (fun (hf : firstT t = 0) X R (hX : FB w w X R []) (h2 : ([] : List Nat).length + (formT t).length ≤ 400000) => pv_any _ t (Nat.le_refl _) hf c w w X R [] hL hv hX h2)
  have HSH := keepf (show showO t = if checkT t = 0 then formT t else [] from rfl)
  obtain ⟨ck, cn, cs, A, len, cap⟩ := c
  unfold VC.val at HCK HFV ⊢
  simp only [] at HCK HFV ⊢
  have HB := keepf (Blk.new w 24 #[.int .i64 ck, .int .i64 cn, .string cs, .slice A len cap])
  have HC0 := keepf ((Chg.refl NoS w).alloc (.cells #[.int .i64 ck, .int .i64 cn, .string cs, .slice A len cap] 24))
  obtain ⟨W1, hW1⟩ : ∃ W1, W1 = w.alloc (.cells #[.int .i64 ck, .int .i64 cn, .string cs, .slice A len cap] 24) := ⟨_, rfl⟩
  obtain ⟨g, hg⟩ : ∃ g, g = w.heap.size := ⟨_, rfl⟩
  rw [← hW1] at HB HC0
  rw [← hg] at HB
  obtain ⟨z, hz⟩ : ∃ z, z = checkT t := ⟨_, rfl⟩
  rw [← hz] at HCK HSH hl ⊢
  have HZ := keepf hz
  clear hL hv hz
  by_cases h0 : z = 0
  · subst h0
    have hlen := hl rfl
    have HE := keepf (show showO t = formT t from by rw [HSH.out, if_pos rfl])
    have hf := first_of HZ.out.symm
    have HFF := keepf (HFV.out hf)
    have HLT := keepf (form_lt t)
    clear hl hf HSH
    go_enter Tryz.func9, Tryz.ntmps9
    go_upto_region 1 with fail
    rw [← hg, ← hW1]
    clear hg hW1
    have q0 := HB.out.cell 0
    have q1 := HB.out.cell 1
    have q2 := HB.out.cell 2
    have q3 := HB.out.cell 3
    simp at q0 q1 q2 q3
    go_upto_region 4 with (go_at_call 25; refine (HCK.out _ HC0.out).mono ?_; rintro e w2 ⟨rfl, h2⟩; have HC2 := keepf (HC0.out.trans h2 (fun _ _ e => e)); have HB2 := keepf (HB.out.chg h2 (fun h => h)); clear h2)
    have HST := keepf (FB.start w w2 HC2.out)
    have HB3 := keepf (HB2.out.alloc (.cells #[.pointer none, .slice none 0 0] 52))
    obtain ⟨W3, hW3⟩ : ∃ W3, W3 = w2.alloc (.cells #[.pointer none, .slice none 0 0] 52) := ⟨_, rfl⟩
    obtain ⟨R, hR⟩ : ∃ R, R = w2.heap.size := ⟨_, rfl⟩
    rw [← hW3] at HST HB3
    rw [← hR] at HST
    clear q0 q1 q2 q3
    go_upto_region 5 with fail
    rw [← hW3, ← hR]
    clear hW3 hR
    have q0 := HB3.out.cell 0
    have q1 := HB3.out.cell 1
    have q2 := HB3.out.cell 2
    have q3 := HB3.out.cell 3
    simp at q0 q1 q2 q3
    go_wp2_with first
      | (go_at_call 26; refine (HFF.out _ _ HST.out (by simpa using hlen)).mono ?_; rintro e w4 ⟨rfl, h4⟩; have HF4 := keepf h4; clear h4)
      | (go_at_call 27; refine (fpstring_any HF4.out (by rw [List.nil_append]; exact HLT.out) (by rw [List.nil_append]; omega)).mono ?_; rintro e w5 ⟨rfl, h5⟩; have HC5 := keepf h5; clear h5)
    go_ret2
    exact ⟨by rw [HE.out]; rfl, HC5.out⟩
  · have HE := keepf (show showO t = [] from by rw [HSH.out, if_neg h0])
    have d0 : (z == 0) = false := by simpa using h0
    have d0' : (z != 0) = true := by simpa using h0
    clear hl h0 HSH HFV
    go_enter Tryz.func9, Tryz.ntmps9
    go_upto_region 1 with fail
    rw [← hg, ← hW1]
    clear hg hW1
    have q0 := HB.out.cell 0
    have q1 := HB.out.cell 1
    have q2 := HB.out.cell 2
    have q3 := HB.out.cell 3
    simp at q0 q1 q2 q3
    go_wp2_with (go_at_call 25; refine (HCK.out _ HC0.out).mono ?_; rintro e w2 ⟨rfl, h2⟩; have HC2 := keepf (HC0.out.trans h2 (fun _ _ e => e)); clear h2)
    go_ret2
    exact ⟨by rw [HE.out]; rfl, HC2.out⟩

end Go.Proofs.YtcehpobjnbgpdaaGreatDoor

/- What show tells: Length, Name, Text. -/
namespace Go.Proofs.YtcehpobjnbgpdaaGreatDoor
open Go.RowKit
set_option linter.unusedVariables false
set_option linter.unusedSimpArgs false

set_option maxHeartbeats 4000000 in
set_option maxRecDepth 100000 in
theorem slen_any (t : VT) (c : VC) (w : World) (hL : LibOk w) (hv : ValIs w t c) (hs : sizT t ≤ 1000000) (hl : checkT t = 0 → (formT t).length ≤ 400000) :
    Calls Tryz.prog 11 #[c.val] w fun e w' => e = .returned (.int .i64 ((showO t).length : Nat)) ∧ Chg NoS w w' := by
  have HSH := keepf (fun X (hX : Chg NoS w X) => show_any t c X (hL.chg hX) (hv.chg hX) hs hl)
  obtain ⟨ck, cn, cs, A, len, cap⟩ := c
  unfold VC.val at HSH ⊢
  simp only [] at HSH ⊢
  have HB := keepf (Blk.new w 24 #[.int .i64 ck, .int .i64 cn, .string cs, .slice A len cap])
  have HC0 := keepf ((Chg.refl NoS w).alloc (.cells #[.int .i64 ck, .int .i64 cn, .string cs, .slice A len cap] 24))
  obtain ⟨W1, hW1⟩ : ∃ W1, W1 = w.alloc (.cells #[.int .i64 ck, .int .i64 cn, .string cs, .slice A len cap] 24) := ⟨_, rfl⟩
  obtain ⟨g, hg⟩ : ∃ g, g = w.heap.size := ⟨_, rfl⟩
  rw [← hW1] at HB HC0
  rw [← hg] at HB
  obtain ⟨z, hz⟩ : ∃ z, z = checkT t := ⟨_, rfl⟩
  obtain ⟨S, hS⟩ : ∃ S, S = sb (showO t) := ⟨_, rfl⟩
  have HLE := keepf (show S.size = (showO t).length from by rw [hS, sb_size])
  rw [← hz, ← hS] at HSH
  obtain ⟨m, hm⟩ : ∃ m, m = (showO t).length := ⟨_, rfl⟩
  rw [← hm] at HLE ⊢
  have hle := HLE.out
  clear hL hv hl hz hS hm HLE
  go_enter Tryz.func11, Tryz.ntmps11
  go_upto_region 1 with fail
  rw [← hg, ← hW1]
  clear hg hW1
  have q0 := HB.out.cell 0
  have q1 := HB.out.cell 1
  have q2 := HB.out.cell 2
  have q3 := HB.out.cell 3
  simp at q0 q1 q2 q3
  go_wp2_with (go_at_call 9; refine (HSH.out _ HC0.out).mono ?_; rintro e w2 ⟨rfl, h2⟩; have HC2 := keepf (HC0.out.trans h2 (fun _ _ e => e)); clear h2)
  go_ret
  exact ⟨rfl, HC2.out⟩

theorem nmV_is (w : World) (s : ByteArray) (hs : s.size ≤ maxLen) : ValIs w (nmT s) ⟨5, 0, s, none, 0, 0⟩ :=
  .mk ⟨5, 0, s, none, 0, 0⟩ [] ⟨show (-9223372036854775808 : Int) ≤ 5 ∧ (5 : Int) ≤ 9223372036854775807 from by decide, show (-9223372036854775808 : Int) ≤ 0 ∧ (0 : Int) ≤ 9223372036854775807 from by decide, hs, fun _ => ⟨rfl, rfl⟩, Nat.le_refl _, Nat.zero_le _⟩ rfl (.nil _ _)

theorem check_nm (s : ByteArray) : checkT (nmT s) = if textO s then 0 else 17 := by
  have ho : ownO 5 0 s [] = if textO s then 0 else 17 := by
    rw [own_5]
    by_cases h : textO s
    · rw [if_neg (fun e => e h), if_pos h, if_pos ⟨rfl, rfl⟩]
    · rw [if_pos h, if_neg h]
  unfold checkT
  rw [depth_nm, if_neg (by decide), nmT, firstT_mk, ho]
  by_cases h : textO s
  · rw [if_pos h, if_neg (fun e => e rfl), if_neg (by decide)]
  · rw [if_neg h, if_pos (by decide)]

theorem siz_nm (s : ByteArray) : sizT (nmT s) ≤ 1000000 := by
  rw [nmT, sizT_mk]
  show 1 + 0 ≤ _
  omega

/-- What is told of a name. -/
noncomputable def nameT (s : ByteArray) : List Nat × Int := if textO s then (nmF (sl s), 0) else ([], 17)

theorem show_nm (s : ByteArray) : (showO (nmT s), checkT (nmT s)) = nameT s := by
  unfold showO nameT
  rw [check_nm]
  by_cases h : textO s
  · rw [if_pos h, if_pos h, if_pos rfl, nmT, form_5]
  · rw [if_neg h, if_neg h, if_neg (by decide)]

set_option maxHeartbeats 4000000 in
set_option maxRecDepth 100000 in
theorem sname_any (s : ByteArray) (w : World) (hL : LibOk w) (hs : s.size ≤ 100000) :
    Calls Tryz.prog 12 #[.string s] w fun e w' => e = .returned (.tuple #[.string (sb (nameT s).1), .int .i64 (nameT s).2]) ∧ Chg NoS w w' := by
  have HN := keepf (fun X => nameOf_any s X)
  have HSH := keepf (fun X (hX : Chg NoS w X) => show_any (nmT s) ⟨5, 0, s, none, 0, 0⟩ X (hL.chg hX) (nmV_is X s (by unfold maxLen; omega)) (siz_nm s) (fun _ => by
    rw [nmT, form_5, nmF, List.length_cons]
    have := nmL_le (sl s)
    rw [sl_len] at this
    omega))
  unfold VC.val at HSH
  simp only [] at HSH
  have e1 := congrArg Prod.fst (show_nm s)
  have e2 := congrArg Prod.snd (show_nm s)
  simp only [] at e1 e2
  rw [e1, e2] at HSH
  obtain ⟨S, hS⟩ : ∃ S, S = sb (nameT s).1 := ⟨_, rfl⟩
  obtain ⟨z, hz⟩ : ∃ z, z = (nameT s).2 := ⟨_, rfl⟩
  rw [← hS, ← hz] at HSH ⊢
  clear hL e1 e2 hS hz hs
  go_enter Tryz.func12, Tryz.ntmps12
  go_wp2_with first
    | (go_at_call 22; refine (HN.out _).mono ?_; rintro e w2 ⟨rfl, h2⟩; have HC2 := keepf h2; clear h2)
    | (go_at_call 9; refine (HSH.out _ HC2.out).mono ?_; rintro e w3 ⟨rfl, h3⟩; have HC3 := keepf (HC2.out.trans h3 (fun _ _ e => e)); clear h3)
  go_ret2
  exact ⟨rfl, HC3.out⟩

set_option maxHeartbeats 4000000 in
set_option maxRecDepth 100000 in
theorem stext_any (s : ByteArray) (w : World) (hs : s.size ≤ 100000) :
    Calls Tryz.prog 14 #[.string s] w fun e w' => e = .returned (.string (sb (txF (sl s)))) ∧ Chg NoS w w' := by
  have hlen : (txF (sl s)).length ≤ 400000 := by
    unfold txF
    split
    · have := esL_le2 (sl s)
      rw [sl_len] at this
      simp only [List.length_cons, List.length_append, List.length_nil]
      omega
    · have := hxL_two (sl s)
      rw [sl_len] at this
      simp only [List.length_cons, List.length_append, List.length_nil]
      omega
  have HST := keepf (FB.start w w (Chg.refl NoS w))
  have HT := keepf (fun X R (hX : FB w w X R []) => ftext_any hX s (by simpa using hlen))
  have HLT := keepf (txF_lt (sl_lt s))
  obtain ⟨W1, hW1⟩ : ∃ W1, W1 = w.alloc (.cells #[.pointer none, .slice none 0 0] 52) := ⟨_, rfl⟩
  obtain ⟨R, hR⟩ : ∃ R, R = w.heap.size := ⟨_, rfl⟩
  rw [← hW1] at HST
  rw [← hR] at HST
  go_enter Tryz.func14, Tryz.ntmps14
  go_upto_region 2 with fail
  rw [← hW1, ← hR]
  clear hW1 hR
  go_wp2_with first
    | (go_at_call 33; refine (HT.out _ _ HST.out).mono ?_; rintro e w4 ⟨rfl, h4⟩; have HF4 := keepf h4; clear h4)
    | (go_at_call 27; refine (fpstring_any HF4.out (by rw [List.nil_append]; exact HLT.out) (by rw [List.nil_append]; omega)).mono ?_; rintro e w5 ⟨rfl, h5⟩; have HC5 := keepf h5; clear h5)
  go_ret
  exact ⟨rfl, HC5.out⟩

end Go.Proofs.YtcehpobjnbgpdaaGreatDoor

/- Forms of values: how long they are, and that they are alike only if the values are. -/
namespace Go.Proofs.YtcehpobjnbgpdaaGreatDoor
set_option linter.unusedVariables false
set_option linter.unusedSimpArgs false

/-- Forms are alike only if the values are. -/
theorem form_inj {t u : VT} (ht : checkT t = 0) (hu : checkT u = 0) (h : formT t = formT u) : t = u := by
  have h1 := (form_back ht).1
  have h2 := (form_back hu).1
  rw [h, h2] at h1
  exact (congrArg (fun x => x.2.1) h1).symm

mutual
/-- Texts of at most 300 bytes. -/
def txtsT : VT → Prop
  | .mk _ _ s l => s.size ≤ 300 ∧ txtsL l
def txtsL : List VT → Prop
  | [] => True
  | t :: l => txtsT t ∧ txtsL l
end

theorem txtsT_mk (k n : Int) (s : ByteArray) (l : List VT) : txtsT (.mk k n s l) ↔ s.size ≤ 300 ∧ txtsL l := by rw [txtsT]

theorem txtsL_mem : ∀ {l : List VT}, txtsL l ↔ ∀ t ∈ l, txtsT t
  | [] => ⟨fun _ t h => (by cases h), fun _ => (by rw [txtsL]; trivial)⟩
  | t :: l => by
    rw [txtsL, txtsL_mem (l := l)]
    exact ⟨fun h x hx => by rcases List.mem_cons.1 hx with rfl | hx; exact h.1; exact h.2 x hx, fun h => ⟨h t (List.mem_cons_self ..), fun x hx => h x (List.mem_cons_of_mem _ hx)⟩⟩

theorem nmL_len : ∀ s : List Nat, (nmL s).length ≤ 3 * s.length := by
  intro s
  induction s with
  | nil => exact Nat.le_refl _
  | cons c s ih =>
    rw [nmL, List.length_append, List.length_cons]
    have : (nmC c).length ≤ 3 := by unfold nmC; split <;> simp [hex2]
    omega

theorem esL_len : ∀ s : List Nat, (esL s).length ≤ 2 * s.length := by
  intro s
  induction s with
  | nil => exact Nat.le_refl _
  | cons c s ih =>
    rw [esL, List.length_append, List.length_cons]
    have : (esC c).length ≤ 2 := by unfold esC; split <;> simp
    omega

theorem hxL_len : ∀ s : List Nat, (hxL s).length = 2 * s.length := by
  intro s
  induction s with
  | nil => rfl
  | cons c s ih =>
    rw [hxL, List.length_append, List.length_cons, ih]
    simp only [hex2, List.length_cons, List.length_nil]
    omega

theorem txF_len (s : List Nat) : (txF s).length ≤ 2 * s.length + 2 := by
  unfold txF
  split
  · have := esL_len s
    simp only [List.length_cons, List.length_append, List.length_nil]
    omega
  · have := hxL_len s
    simp only [List.length_cons, List.length_append, List.length_nil]
    omega

theorem sign_len (x : Int) : (signL x).length ≤ 1 := by unfold signL; split <;> simp

theorem int_len (x : Int) (h : x.natAbs ≤ 2147483647) : (intTxt x).length ≤ 11 := by
  have h1 := sign_len x
  have h2 := dn_len (n := x.natAbs) (k := 10) (by omega)
  rw [intTxt, List.length_append, txt_len]
  omega

theorem trimZ_len : ∀ (k : Nat) (l : List Nat), (trimZ k l).length ≤ l.length := by
  intro k
  induction k with
  | zero => intro l; exact Nat.le_refl _
  | succ k ih =>
    intro l
    rw [trimZ]
    split
    · have := ih l.dropLast
      rw [List.length_dropLast] at this
      omega
    · exact Nat.le_refl _

theorem real_len (x : Int) (h : x.natAbs ≤ 2147483647 * 1000000) : (realTxt x).length ≤ 18 := by
  have h1 := sign_len x
  have h2 := dn_len (n := x.natAbs / 1000000) (k := 10) (by omega)
  have h3 := trimZ_len 5 (txt (x.natAbs % 1000000) 6)
  have h4 := dn_len (n := x.natAbs % 1000000) (k := 6) (by omega)
  rw [txt_len] at h3
  rw [realTxt, List.length_append, List.length_append, List.length_cons, txt_len]
  omega

theorem formL_len : ∀ (l : List VT), (∀ t ∈ l, (formT t).length + 1 ≤ 1000 * sizT t) → ∀ j, j ≤ 1 → (formL j l).length ≤ 1000 * sizL l := by
  intro l
  induction l with
  | nil => intro _ j _; rw [formL_nil]; exact Nat.zero_le _
  | cons t l ih =>
    intro h j hj
    have h1 := h t (List.mem_cons_self ..)
    have h2 := ih (fun x hx => h x (List.mem_cons_of_mem _ hx)) 1 (Nat.le_refl _)
    rw [formL_cons, sizL_cons]
    simp only [List.length_append, List.length_replicate]
    omega

theorem form_len : ∀ (N : Nat) (t : VT), sizT t ≤ N → firstT t = 0 → txtsT t → (formT t).length + 1 ≤ 1000 * sizT t := by
  intro N
  induction N using Nat.strongRecOn with
  | _ N ih =>
    intro t hN hf ht
    obtain ⟨k, n, s, l⟩ := t
    have hs := (txtsT_mk k n s l).1 ht
    rw [sizT_mk] at hN ⊢
    have ho := own_zero hf
    have hin : k = 6 ∨ k = 7 → ∀ x ∈ l, (formT x).length + 1 ≤ 1000 * sizT x := fun hk x hx => by
      have hfx := first_in hk hf x hx
      have htx := txtsL_mem.1 hs.2 x hx
      obtain ⟨i, hi, rfl⟩ := List.mem_iff_getElem.1 hx
      have := sizL_at (List.getElem?_eq_getElem hi)
      exact ih (N - 1) (by omega) _ (by omega) hfx htx
    have hsl := sl_len s
    rcases kind_of ho with rfl | rfl | rfl | rfl | rfl | rfl | rfl | rfl | rfl
    · rw [form_0]; simp only [List.length_cons, List.length_nil]; omega
    · rw [form_1]; split <;> (simp only [List.length_cons, List.length_nil]; omega)
    · rw [own_2, chkOf] at ho
      split at ho
      · next h =>
        have := int_len n (by have := h.2.2; unfold mayN at this; omega)
        rw [form_2]; omega
      · cases ho
    · rw [own_3, chkOf] at ho
      split at ho
      · next h =>
        have := real_len n (by have := h.2.2; unfold mayN at this; omega)
        rw [form_3]; omega
      · cases ho
    · have := txF_len (sl s)
      rw [form_4]; omega
    · have := nmL_len (sl s)
      rw [form_5, nmF, List.length_cons]; omega
    · have := formL_len l (hin (.inl rfl)) 0 (by omega)
      rw [form_6]; simp only [List.length_cons, List.length_append, List.length_nil]; omega
    · have := formL_len l (hin (.inr rfl)) 0 (by omega)
      rw [form_7]; simp only [List.length_cons, List.length_append, List.length_nil]; omega
    · rw [own_8] at ho
      split at ho
      · next h =>
        have := int_len n (by omega)
        rw [form_8]; simp only [List.length_cons, List.length_append, List.length_nil]; omega
      · cases ho

end Go.Proofs.YtcehpobjnbgpdaaGreatDoor

/- The program's DictOf of less than two values; and of any at most 40. -/
namespace Go.Proofs.YtcehpobjnbgpdaaGreatDoor
open Go.RowKit
set_option linter.unusedVariables false
set_option linter.unusedSimpArgs false

set_option maxHeartbeats 4000000 in
set_option maxRecDepth 100000 in
theorem dictOf_none (A : Option Addr) (len cap : Nat) (w : World) (hA : A = none → len = 0 ∧ cap = 0) (h1 : len ≤ 1) :
    Calls Tryz.prog 21 #[.slice A len cap] w (TreeTo w (.mk 7 0 ⟨#[]⟩ [])) := by
  have t1 : (len : Int).tdiv 2 = 0 := by rw [Int.tdiv_eq_ediv_of_nonneg (by omega)]; omega
  have t2 : (len : Int) / 2 = 0 := by omega
  have j1 : (0 : Int) ≤ cap := by omega
  have HCK := keepf (fun W => chunkV_any W A 0 cap)
  have HSN := keepf (fun (A1 : Option Addr) (c1 : Nat) (W : World) => sortP_none A1 c1 (.func (.func 42) #[] #[]) W)
  have HC1 := keepf ((Chg.refl NoS w).alloc (.cells #[.int .i64 0, .int .i64 0, .string ⟨#[]⟩, .slice none 0 0] 24))
  have HO := keepf (⟨Blk.new w 24 #[.int .i64 0, .int .i64 0, .string ⟨#[]⟩, .slice none 0 0], Nat.le_refl _⟩ : PB w _ _ _)
  have hbs := (Blk.new (w.alloc (.cells #[.int .i64 0, .int .i64 0, .string ⟨#[]⟩, .slice none 0 0] 24)) 22 #[.slice A 0 cap]).alloc (.cells #[.int .i64 2] 3)
  have hbn := Blk.new ((w.alloc (.cells #[.int .i64 0, .int .i64 0, .string ⟨#[]⟩, .slice none 0 0] 24)).alloc (.cells #[.slice A 0 cap] 22)) 3 #[.int .i64 2]
  simp only [World.size_alloc] at hbs hbn
  have HCC := keepf (collect_any 0 _ _ 0 0 cap A _ (by omega) (fun h => absurd h (by omega)) (by omega) (hbs.cell 0) (hbn.cell 0))
  clear hbs hbn
  cases A with
  | none =>
    obtain ⟨rfl, rfl⟩ := hA rfl
    go_enter Tryz.func21, Tryz.ntmps21
    go_upto_region 5 with (first
      | (go_at_call 40; refine (HCK.out _).mono ?_; rintro e w3 ⟨rfl, rfl⟩)
      | (go_at_call 39; refine HCC.out.mono ?_; rintro e w4 ⟨v, rfl, hrow, hb4⟩; obtain ⟨A1, c1, rfl, _⟩ := own_slice hrow; have HC4 := keepf (((HC1.out.alloc _).alloc _).trans (Chg.of_below (S := NoS) hb4) (fun _ _ e => e)); have HO4 := keepf (((HO.out.alloc _).alloc _).call (Chg.of_below (S := NoS) hb4)); clear hrow hb4)
      | (go_at_call 41; refine (HSN.out _ _ _).mono ?_; rintro e w5 ⟨rfl, h5⟩; subst h5))
    have HX : Hid (Bx w (w5.alloc (.cells #[.int .i64 7, .int .i64 0, .string ⟨#[]⟩, .slice none 0 0] 24)) w5.heap.size w.heap.size #[.int .i64 7, .int .i64 0, .string ⟨#[]⟩, .slice none 0 0] #[.int .i64 0, .int .i64 0, .string ⟨#[]⟩, .slice none 0 0] [] [] 0 none 0) :=
      ⟨⟨Blk.new _ _ _, HC4.out.size⟩, ⟨HO4.out.blk.alloc _, HO4.out.new⟩, GV.start (HC4.out.alloc _), fun e => (by cases e), fun e => (by cases e), fun e => by have := HO4.out.blk.lt; omega⟩
    go_loopw [20] (fun v wr => v = .int .i64 0 ∧ wr = w5.alloc (.cells #[.int .i64 7, .int .i64 0, .string ⟨#[]⟩, .slice none 0 0] 24)) (fun _ _ => 0)
    case atStart => exact ⟨rfl, rfl⟩
    case round =>
      obtain ⟨rfl, hwr⟩ := hrel
      rw [← hwr] at HX
      obtain ⟨g4, hg4⟩ : ∃ g, g = w5.heap.size := ⟨_, rfl⟩
      rw [← hg4] at HX ⊢
      clear hwr hg4
      have q0 := HX.out.b.blk.cell 0
      have q1 := HX.out.b.blk.cell 1
      have q2 := HX.out.b.blk.cell 2
      have q3 := HX.out.b.blk.cell 3
      have z0 := HX.out.o.blk.frozen 0
      have z1 := HX.out.o.blk.frozen 1
      have z2 := HX.out.o.blk.frozen 2
      have z3 := HX.out.o.blk.frozen 3
      have y0 := HX.out.o.blk.cell 0
      have y1 := HX.out.o.blk.cell 1
      have y2 := HX.out.o.blk.cell 2
      have y3 := HX.out.o.blk.cell 3
      simp at q0 q1 q2 q3 y0 y1 y2 y3
      go_wp2_with fail
      try simp only [Exit.noGoto_ret]
      clear y0 y1 y2 y3
      obtain ⟨hb, hvv, hcc⟩ := HX.out.fin (k := 7) (n := 0) (s := ⟨#[]⟩) rfl (by unfold maxLen; omega) (by decide) (by decide) (by decide) _ rfl
      have r0 := hb.blk.cell 0
      have r1 := hb.blk.cell 1
      have r2 := hb.blk.cell 2
      have r3 := hb.blk.cell 3
      simp at r0 r1 r2 r3
      refine bodyPost_ret (v := .agg #[.int .i64 7, .int .i64 0, .string ⟨#[]⟩, .slice none 0 0]) (by simp [results, Tryz.results21, go_sem, r0, r1, r2, r3]) rfl ?_
      exact ⟨⟨7, 0, ⟨#[]⟩, none, 0, 0⟩, rfl, hvv, hcc⟩
  | some ad =>
    go_enter Tryz.func21, Tryz.ntmps21
    go_upto_region 5 with (first
      | (go_at_call 40; refine (HCK.out _).mono ?_; rintro e w3 ⟨rfl, rfl⟩)
      | (go_at_call 39; refine HCC.out.mono ?_; rintro e w4 ⟨v, rfl, hrow, hb4⟩; obtain ⟨A1, c1, rfl, _⟩ := own_slice hrow; have HC4 := keepf (((HC1.out.alloc _).alloc _).trans (Chg.of_below (S := NoS) hb4) (fun _ _ e => e)); have HO4 := keepf (((HO.out.alloc _).alloc _).call (Chg.of_below (S := NoS) hb4)); clear hrow hb4)
      | (go_at_call 41; refine (HSN.out _ _ _).mono ?_; rintro e w5 ⟨rfl, h5⟩; subst h5))
    have HX : Hid (Bx w (w5.alloc (.cells #[.int .i64 7, .int .i64 0, .string ⟨#[]⟩, .slice none 0 0] 24)) w5.heap.size w.heap.size #[.int .i64 7, .int .i64 0, .string ⟨#[]⟩, .slice none 0 0] #[.int .i64 0, .int .i64 0, .string ⟨#[]⟩, .slice none 0 0] [] [] 0 none 0) :=
      ⟨⟨Blk.new _ _ _, HC4.out.size⟩, ⟨HO4.out.blk.alloc _, HO4.out.new⟩, GV.start (HC4.out.alloc _), fun e => (by cases e), fun e => (by cases e), fun e => by have := HO4.out.blk.lt; omega⟩
    go_loopw [20] (fun v wr => v = .int .i64 0 ∧ wr = w5.alloc (.cells #[.int .i64 7, .int .i64 0, .string ⟨#[]⟩, .slice none 0 0] 24)) (fun _ _ => 0)
    case atStart => exact ⟨rfl, rfl⟩
    case round =>
      obtain ⟨rfl, hwr⟩ := hrel
      rw [← hwr] at HX
      obtain ⟨g4, hg4⟩ : ∃ g, g = w5.heap.size := ⟨_, rfl⟩
      rw [← hg4] at HX ⊢
      clear hwr hg4
      have q0 := HX.out.b.blk.cell 0
      have q1 := HX.out.b.blk.cell 1
      have q2 := HX.out.b.blk.cell 2
      have q3 := HX.out.b.blk.cell 3
      have z0 := HX.out.o.blk.frozen 0
      have z1 := HX.out.o.blk.frozen 1
      have z2 := HX.out.o.blk.frozen 2
      have z3 := HX.out.o.blk.frozen 3
      have y0 := HX.out.o.blk.cell 0
      have y1 := HX.out.o.blk.cell 1
      have y2 := HX.out.o.blk.cell 2
      have y3 := HX.out.o.blk.cell 3
      simp at q0 q1 q2 q3 y0 y1 y2 y3
      go_wp2_with fail
      try simp only [Exit.noGoto_ret]
      clear y0 y1 y2 y3
      obtain ⟨hb, hvv, hcc⟩ := HX.out.fin (k := 7) (n := 0) (s := ⟨#[]⟩) rfl (by unfold maxLen; omega) (by decide) (by decide) (by decide) _ rfl
      have r0 := hb.blk.cell 0
      have r1 := hb.blk.cell 1
      have r2 := hb.blk.cell 2
      have r3 := hb.blk.cell 3
      simp at r0 r1 r2 r3
      refine bodyPost_ret (v := .agg #[.int .i64 7, .int .i64 0, .string ⟨#[]⟩, .slice none 0 0]) (by simp [results, Tryz.results21, go_sem, r0, r1, r2, r3]) rfl ?_
      exact ⟨⟨7, 0, ⟨#[]⟩, none, 0, 0⟩, rfl, hvv, hcc⟩

theorem dictT_short {l : List VT} (h : l.length ≤ 1) : dictT l = [] := by
  unfold dictT
  rw [show l.length / 2 = 0 by omega]
  rfl

theorem dictOf_any (l : List VT) (A : Option Addr) (len cap : Nat) (w : World) (hl : l.length = len) (hr : RowIs w A 0 l) (hA : A = none → len = 0 ∧ cap = 0) (hcap : len ≤ cap) (h40 : len ≤ 40) (hks : ∀ t ∈ l, t.str.size ≤ maxLen) :
    Calls Tryz.prog 21 #[.slice A len cap] w (TreeTo w (.mk 7 0 ⟨#[]⟩ (dictT l))) := by
  by_cases h : len ≤ 1
  · rw [dictT_short (by omega)]
    exact dictOf_none A len cap w hA h
  · obtain ⟨b, off, rfl⟩ : ∃ b off, A = some ⟨b, off, none⟩ := by
      cases hll : l with
      | nil => rw [hll] at hl; simp at hl; omega
      | cons t0 l0 => rw [hll] at hr; exact hr.start
    exact dictOf_some l b off len cap w hl hr hcap h40 (by omega) hks

end Go.Proofs.YtcehpobjnbgpdaaGreatDoor

/- What every statement of layer 13 asks for: a dictionary, a text, a length. -/
namespace Go.Proofs.YtcehpobjnbgpdaaGreatDoor
open Go.RowKit
set_option linter.unusedVariables false
set_option linter.unusedSimpArgs false

def sA13 : ByteArray := ⟨#[65]⟩

def int713 : VT := .mk 2 7 ⟨#[]⟩ []

def wkD13 : List VT := [nmT sA13, int713]

theorem dict_wk13 : dictT wkD13 = wkD13 := by
  have k0 : keyAt wkD13 0 = sA13 := rfl
  have v0 : valAt wkD13 0 = int713 := rfl
  have h : sortR (keyAt wkD13) (List.range (wkD13.length / 2)) = [0] := by rfl
  unfold dictT
  rw [h]
  show emF (keyAt wkD13) (valAt wkD13) [0] = _
  rw [emF_last, k0, v0]
  rfl

theorem tA13 : textO sA13 := by unfold textO sA13; exact ⟨by intro d hd; simp [sl] at hd; omega, by decide⟩

theorem check_wk13 : checkT (.mk 7 0 ⟨#[]⟩ wkD13) = 0 := by
  have hdp : depthT (.mk 7 0 ⟨#[]⟩ wkD13) = 2 := by unfold wkD13 nmT int713; simp [depthT, depthL]
  unfold checkT
  rw [hdp, if_neg (by decide), firstT_mk]
  have hd : ownO 7 0 ⟨#[]⟩ wkD13 = 0 := by
    rw [own_7]
    refine dict_ok rfl ?_ ?_
    · intro j t h
      match j, h with
      | 0, h => cases h; rfl
      | j + 1, h => rw [show 2 * (j + 1) = 2 * j + 2 by omega] at h; simp [wkD13] at h
    · intro j t u h h2
      rw [show 2 * j + 2 = 2 * j + 2 by omega] at h2
      simp [wkD13] at h2
  rw [hd, if_neg (fun h => h rfl), if_pos (.inr rfl)]
  have fz : ∀ {k n : Int} {s : ByteArray} {l : List VT}, ownO k n s l = 0 → ¬ (k = 6 ∨ k = 7) → firstT (.mk k n s l) = 0 := fun h h6 => by
    rw [firstT_mk, h, if_neg (fun h => h rfl), if_neg h6]
  have e1 : firstT (nmT sA13) = 0 := fz (by rw [own_5, if_neg (fun h => h tA13)]; exact if_pos ⟨rfl, rfl⟩) (by decide)
  have e3 : firstT int713 = 0 := fz (by rw [own_2]; unfold chkOf; exact if_pos ⟨rfl, rfl, by unfold mayN; simp⟩) (by decide)
  unfold wkD13
  rw [firstL_cons, e1, firstL_cons, e3]
  simp [firstL]

theorem int_one (d : Nat) (h : d < 10) : intTxt (d : Int) = [48 + d] := by
  have e : (d : Int).natAbs = d := by omega
  rw [intTxt, signL, if_neg (by omega), e, txt_step d 1 (by omega), show d / 10 = 0 by omega, show d % 10 = d by omega, txt_none]
  rfl

theorem form_wk13 : formT (.mk 7 0 ⟨#[]⟩ wkD13) = [60, 60, 47, 65, 32, 55, 62, 62] := by
  rw [form_7]
  unfold wkD13
  rw [formL_cons, formL_cons, formL_nil, nmT, form_5, int713, form_2, show (7 : Int) = ((7 : Nat) : Int) from rfl, int_one 7 (by decide)]
  have e1 : sl sA13 = [65] := by simp [sl, sA13]
  rw [e1]
  decide

theorem row2_13 {W : World} {B : Nat} {t1 t2 : VT} {e1 e2 : VC} (hb : Blk W B 24 #[.int .i64 e1.k, .int .i64 e1.n, .string e1.s, .slice e1.A e1.len e1.cap, .int .i64 e2.k, .int .i64 e2.n, .string e2.s, .slice e2.A e2.len e2.cap])
    (h1 : ValIs W t1 e1) (h2 : ValIs W t2 e2) : RowIs W (some ⟨B, 0, none⟩) 0 [t1, t2] := by
  have hadd : ∀ j, (⟨B, 0, none⟩ : Addr).add j = ⟨B, j, none⟩ := fun j => by unfold Addr.add; split <;> simp_all
  have go : ∀ (j : Nat) (e : VC), (∀ i, i < 4 → (#[Value.int .i64 e1.k, .int .i64 e1.n, .string e1.s, .slice e1.A e1.len e1.cap, .int .i64 e2.k, .int .i64 e2.n, .string e2.s, .slice e2.A e2.len e2.cap])[j * 4 + i]? = e.cells[i]?) → ∀ i, i < 4 → W.cell? ((⟨B, 0, none⟩ : Addr).add (j * 4 + i)) = e.cells[i]? := by
    intro j e h i hi
    rw [hadd, hb.cell]
    exact h i hi
  refine .cons _ 0 t1 _ e1 (go 0 e1 ?_) h1 (.cons _ 1 t2 _ e2 (go 1 e2 ?_) h2 (.nil _ _))
  all_goals
    intro i hi
    match i, hi with
    | 0, _ => rfl
    | 1, _ => rfl
    | 2, _ => rfl
    | 3, _ => rfl

theorem leaf_is (k n : Int) (hk : -9223372036854775808 ≤ k ∧ k ≤ 9223372036854775807) (hn : -9223372036854775808 ≤ n ∧ n ≤ 9223372036854775807) (W : World) : ValIs W (.mk k n ⟨#[]⟩ []) ⟨k, n, ⟨#[]⟩, none, 0, 0⟩ :=
  .mk ⟨k, n, ⟨#[]⟩, none, 0, 0⟩ [] ⟨hk, hn, Nat.zero_le _, fun _ => ⟨rfl, rfl⟩, Nat.le_refl _, Nat.zero_le _⟩ rfl (.nil _ _)

theorem check_ref13 : checkT (.mk 8 3 ⟨#[]⟩ []) = 0 := by
  have hdp : depthT (.mk 8 3 ⟨#[]⟩ []) = 1 := by simp [depthT]
  unfold checkT
  have ho : ownO 8 3 ⟨#[]⟩ [] = 0 := by rw [own_8]; exact if_pos ⟨rfl, rfl, by decide, by decide⟩
  rw [hdp, if_neg (by decide), firstT_mk, ho, if_neg (fun h => h rfl), if_neg (by decide)]

theorem form_ref13 : formT (.mk 8 3 ⟨#[]⟩ []) = [51, 32, 48, 32, 82] := by
  rw [form_8, show (3 : Int) = ((3 : Nat) : Int) from rfl, int_one 3 (by decide)]
  rfl

/-- The dictionary. -/
theorem wkd13_any (W : World) : Calls Tryz.prog 21 #[.slice (some ⟨W.heap.size, 0, none⟩) 2 2] (W.alloc (.cells #[.int .i64 5, .int .i64 0, .string ⟨#[65]⟩, .slice none 0 0, .int .i64 2, .int .i64 7, .string ⟨#[]⟩, .slice none 0 0] 24)) fun e w' => ∃ (A : Option Addr) (cap : Nat), e = .returned (.agg #[.int .i64 7, .int .i64 0, .string ⟨#[]⟩, .slice A 2 cap]) ∧ ValIs w' (.mk 7 0 ⟨#[]⟩ wkD13) ⟨7, 0, ⟨#[]⟩, A, 2, cap⟩ ∧ Chg NoS (W.alloc (.cells #[.int .i64 5, .int .i64 0, .string ⟨#[65]⟩, .slice none 0 0, .int .i64 2, .int .i64 7, .string ⟨#[]⟩, .slice none 0 0] 24)) w' := by
  have hr := row2_13 (e1 := ⟨5, 0, sA13, none, 0, 0⟩) (e2 := ⟨2, 7, ⟨#[]⟩, none, 0, 0⟩) (Blk.new W 24 #[.int .i64 5, .int .i64 0, .string ⟨#[65]⟩, .slice none 0 0, .int .i64 2, .int .i64 7, .string ⟨#[]⟩, .slice none 0 0])
    (nmV_is _ sA13 (by decide)) (leaf_is 2 7 (by decide) (by decide) _)
  have h := dictOf_any wkD13 _ 2 2 _ rfl hr (fun h => (by cases h)) (Nat.le_refl _) (by decide) (by
    intro t ht
    simp only [wkD13, List.mem_cons, List.not_mem_nil, or_false] at ht
    rcases ht with rfl | rfl <;> decide)
  rw [dict_wk13] at h
  refine h.mono ?_
  rintro e w' ⟨c', rfl, hv, hc⟩
  obtain ⟨r1, r2, r3, rg, rl, rr⟩ := hv.inv
  obtain ⟨ck, cn, cs, cA, clen, ccap⟩ := c'
  simp only [] at r1 r2 r3 rl
  subst r1 r2 r3
  have hcl : clen = 2 := rl.symm
  subst hcl
  exact ⟨cA, ccap, rfl, hv, hc⟩

set_option maxHeartbeats 4000000 in
set_option maxRecDepth 100000 in
theorem works_any13 (w : World) (hL : LibOk w) : Calls Tryz.prog 8 #[] w fun e w' => e = .returned (.bool true) ∧ Chg NoS w w' := by
  have HN := keepf (fun (W : World) (h : Chg NoS w W) => (nameOf_any ⟨#[65]⟩ W).mono (fun e w' k => (⟨k.1, h.trans k.2 (fun _ _ e => e)⟩ : e = _ ∧ Chg NoS w w')))
  have HI := keepf (fun (W : World) (h : Chg NoS w W) => (intOf_any 7 W).mono (fun e w' k => (⟨k.1, h.trans k.2 (fun _ _ e => e)⟩ : e = _ ∧ Chg NoS w w')))
  have HR := keepf (fun (W : World) (h : Chg NoS w W) => (refTo_any 3 W).mono (fun e w' k => (⟨k.1, h.trans k.2 (fun _ _ e => e)⟩ : e = _ ∧ Chg NoS w w')))
  have HD := keepf (fun (W : World) (h : Chg NoS w W) => (show Calls Tryz.prog 21 #[.slice (some ⟨W.heap.size, 0, none⟩) 2 2] (W.alloc (.cells #[.int .i64 5, .int .i64 0, .string ⟨#[65]⟩, .slice none 0 0, .int .i64 2, .int .i64 7, .string ⟨#[]⟩, .slice none 0 0] 24)) fun e w' => ∃ (A : Option Addr) (cap : Nat), e = .returned (.agg #[.int .i64 7, .int .i64 0, .string ⟨#[]⟩, .slice A 2 cap]) ∧ ValIs w' (.mk 7 0 ⟨#[]⟩ wkD13) ⟨7, 0, ⟨#[]⟩, A, 2, cap⟩ ∧ Chg NoS w w' from (wkd13_any W).mono fun e w' ⟨A, cap, k1, k2, k3⟩ => ⟨A, cap, k1, k2, (h.alloc _).trans k3 (fun _ _ e => e)⟩))
  have HS := keepf (fun (A : Option Addr) (cap : Nat) (W : World) (hv : ValIs W (.mk 7 0 ⟨#[]⟩ wkD13) ⟨7, 0, ⟨#[]⟩, A, 2, cap⟩) (h : Chg NoS w W) => (show Calls Tryz.prog 9 #[.agg #[.int .i64 7, .int .i64 0, .string ⟨#[]⟩, .slice A 2 cap]] W fun e w' => e = .returned (.tuple #[.string ⟨#[60, 60, 47, 65, 32, 55, 62, 62]⟩, .int .i64 0]) ∧ Chg NoS w w' from by
    have h1 := show_any _ _ W (hL.chg h) hv (by simp [wkD13, sizL, sizT, nmT, int713]) (fun _ => by rw [form_wk13]; decide)
    unfold showO at h1
    rw [check_wk13, if_pos rfl, form_wk13] at h1
    exact h1.mono fun e w' k => ⟨k.1, h.trans k.2 (fun _ _ e => e)⟩))
  have HT := keepf (fun (W : World) (h : Chg NoS w W) => (show Calls Tryz.prog 14 #[.string ⟨#[97, 40, 98]⟩] W fun e w' => e = .returned (.string ⟨#[40, 97, 92, 40, 98, 41]⟩) ∧ Chg NoS w w' from by
    have h1 := stext_any ⟨#[97, 40, 98]⟩ W (by decide)
    have e1 : txF (sl ⟨#[97, 40, 98]⟩) = [40, 97, 92, 40, 98, 41] := by
      have e2 : sl ⟨#[97, 40, 98]⟩ = [97, 40, 98] := by simp [sl]
      rw [e2]
      decide
    rw [e1] at h1
    exact h1.mono fun e w' k => ⟨k.1, h.trans k.2 (fun _ _ e => e)⟩))
  have HLN := keepf (fun (W : World) (h : Chg NoS w W) => (show Calls Tryz.prog 11 #[.agg #[.int .i64 8, .int .i64 3, .string ⟨#[]⟩, .slice none 0 0]] W fun e w' => e = .returned (.int .i64 5) ∧ Chg NoS w w' from by
    have h1 := slen_any _ _ W (hL.chg h) (leaf_is 8 3 (by decide) (by decide) W) (by simp [sizT, sizL]) (fun _ => by rw [form_ref13]; decide)
    unfold showO at h1
    rw [check_ref13, if_pos rfl, form_ref13] at h1
    exact h1.mono fun e w' k => ⟨k.1, h.trans k.2 (fun _ _ e => e)⟩))
  have hw := Chg.refl NoS w
  go_enter Tryz.func8, Tryz.ntmps8
  go_wp2_with first
    | (go_at_call 22; with_reducible refine (HN.out _ (by assumption)).mono ?_; rintro e w2 ⟨rfl, hc2⟩)
    | (go_at_call 23; with_reducible refine (HI.out _ (by assumption)).mono ?_; rintro e w3 ⟨rfl, hc3⟩)
    | (go_at_call 21; refine (HD.out _ (by assumption)).mono ?_; rintro e w4 ⟨cA, ccap, rfl, hv4, hc4⟩)
    | (go_at_call 9; refine (HS.out _ _ _ (by assumption) (by assumption)).mono ?_; rintro e w5 ⟨rfl, hc5⟩)
    | (go_at_call 14; refine (HT.out _ (by assumption)).mono ?_; rintro e w6 ⟨rfl, hc6⟩)
    | (go_at_call 24; with_reducible refine (HR.out _ (by assumption)).mono ?_; rintro e w7 ⟨rfl, hc7⟩)
    | (go_at_call 11; refine (HLN.out _ (by assumption)).mono ?_; rintro e w8 ⟨rfl, hc8⟩)
  go_ret
  exact ⟨rfl, by assumption⟩

end Go.Proofs.YtcehpobjnbgpdaaGreatDoor

/- What layer 13's statements ask of a value: at most 300 values, with texts of at most 300 bytes. -/
namespace Go.Proofs.YtcehpobjnbgpdaaGreatDoor
open Go.RowKit
set_option linter.unusedVariables false
set_option linter.unusedSimpArgs false

mutual
theorem few_T13 : ∀ (t : VT) (left : Int), 0 ≤ fewT t left → fewT t left = left - sizT t
  | .mk _ _ _ l, left => fun h => by
    rw [fewT] at h ⊢
    rw [few_L13 l (left - 1) h, sizT_mk]
    omega
theorem few_L13 : ∀ (l : List VT) (left : Int), 0 ≤ fewL l left → fewL l left = left - sizL l
  | [], left => fun h => by rw [fewL, sizL]; omega
  | t :: l, left => fun h => by
    rw [fewL_cons] at h ⊢
    by_cases h0 : 0 ≤ left
    · rw [if_pos h0] at h ⊢
      by_cases h1 : 0 ≤ fewT t left
      · rw [few_L13 l _ h, few_T13 t left h1, sizL_cons]
        omega
      · rw [fewL_neg l h1] at h
        exact absurd h h1
    · rw [if_neg h0] at h
      exact absurd h h0
end

/-- Are all texts in a value of at most 300 bytes? -/
noncomputable def txtsB (t : VT) : Bool := @decide (txtsT t) (Classical.propDecidable _)

theorem txtsB_true {t : VT} (h : txtsT t) : txtsB t = true := @decide_eq_true _ (Classical.propDecidable _) h

theorem txtsB_false {t : VT} (h : ¬ txtsT t) : txtsB t = false := @decide_eq_false _ (Classical.propDecidable _) h

theorem txtsB_iff {t : VT} : txtsB t = true ↔ txtsT t := @decide_eq_true_iff _ (Classical.propDecidable _)

set_option maxHeartbeats 4000000 in
set_option maxRecDepth 100000 in
theorem texts_in : ∀ (N : Nat) (t : VT), sizT t ≤ N → ∀ (c : VC) (w : World), ValIs w t c →
    Calls Tryz.prog 20 #[c.val] w fun e w' => e = .returned (.bool (txtsB t)) ∧ Chg NoS w w' := by
  intro N
  induction N using Nat.strongRecOn with
  | _ N ih =>
    intro t hN c w hv
    obtain ⟨k, n, s, l⟩ := t
    rw [sizT_mk] at hN
    obtain ⟨ck, cn, cs, A, len, cap⟩ := c
    obtain ⟨e1, e2, e3, hg, hll, hr⟩ := hv.inv
    simp only [] at e1 e2 e3 hll hr
    subst e1 e2 e3
    have hlm := hg.len
    have hsm := hg.s
    simp only [] at hlm hsm
    unfold maxLen at hlm hsm
    have HP := keepf (fun x (hx : x ∈ l) => (show ∀ (c : VC) (w : World), ValIs w x c → Calls Tryz.prog 20 #[c.val] w fun e w' => e = .returned (.bool (txtsB x)) ∧ Chg NoS w w' from by
      obtain ⟨i, hi, rfl⟩ := List.mem_iff_getElem.1 hx
      have := sizL_at (List.getElem?_eq_getElem hi)
      exact ih (N - 1) (by omega) _ (by omega)))
    have HL := keepf hll
    have HR := keepf hr
    unfold VC.val
    simp only []
    have HB := keepf (Blk.new w 24 #[.int .i64 ck, .int .i64 cn, .string cs, .slice A len cap])
    have HC0 := keepf ((Chg.refl NoS w).alloc (.cells #[.int .i64 ck, .int .i64 cn, .string cs, .slice A len cap] 24))
    obtain ⟨W1, hW1⟩ : ∃ W1, W1 = w.alloc (.cells #[.int .i64 ck, .int .i64 cn, .string cs, .slice A len cap] 24) := ⟨_, rfl⟩
    obtain ⟨g, hg⟩ : ∃ g, g = w.heap.size := ⟨_, rfl⟩
    rw [← hW1] at HB HC0
    rw [← hg] at HB
    obtain ⟨z, hz⟩ : ∃ z, cs.size = z := ⟨_, rfl⟩
    have HZ := keepf hz
    rw [hz] at hsm
    clear hN ih hv hll hr hz
    go_enter Tryz.func20, Tryz.ntmps20
    go_upto_region 2 with fail
    rw [← hg, ← hW1]
    clear hg hW1
    go_loopw [3] (fun vk wr => ∃ k : Nat, k ≤ len ∧ vk = .int .i64 (k : Nat) ∧ Hid (∀ x ∈ l.take k, txtsT x) ∧ Hid (RowIs w A k (l.drop k)) ∧ Hid (Chg NoS W1 wr)) (fun vk _ => len - (intOf vk).toNat)
    case atStart => exact ⟨0, by omega, by go_num, fun x hx => by simp at hx, by rw [List.drop_zero]; exact HR.out, Chg.refl NoS W1⟩
    case round =>
      obtain ⟨k, hk, rfl, HT, HRW, HCW⟩ := hrel
      have hbw := HB.out.chg HCW.out (fun h => h)
      have q2 := hbw.cell 2
      have q3 := hbw.cell 3
      simp at q2 q3
      clear hbw
      by_cases hlt : k < len
      · obtain ⟨t', ht', hdd⟩ := drop_vt (l := l) (k := k) (by rw [HL.out]; exact hlt)
        obtain ⟨b, off, rfl⟩ : ∃ b off, A = some ⟨b, off, none⟩ := by
          have h := HR.out
          cases hll : l with
          | nil => rw [hll] at ht'; simp at ht'
          | cons t0 l0 => rw [hll] at h; exact h.start
        have hrw := HRW.out
        rw [hdd] at hrw
        have hcw := HC0.out.trans HCW.out (fun _ _ e => e)
        obtain ⟨ek, en, es, eA, el, ec, c0, c1, c2, c3, hv', hr'⟩ := hrw.at0 hcw
        have HRN := keepf hr'
        have hmem := List.mem_of_getElem? ht'
        have HX := keepf (HP.out t' hmem ⟨ek, en, es, eA, el, ec⟩ wr (hv'.chg hcw))
        unfold VC.val at HX
        simp only [] at HX
        have i1 : (k : Int) < len := by omega
        have HTK := keepf (show l.take (k + 1) = l.take k ++ [t'] from by rw [List.take_add_one, ht']; rfl)
        have HM := keepf hmem
        by_cases hx : txtsT t'
        · rw [txtsB_true hx] at HX
          have HNX := keepf (show ∀ x ∈ l.take (k + 1), txtsT x from by
            rw [HTK.out]
            intro x hxm
            rcases List.mem_append.1 hxm with h | h
            · exact HT.out x h
            · rw [List.mem_singleton] at h; rw [h]; exact hx)
          clear hrw hv' hr' hdd ht' hcw hmem hx
          go_wp2_with (go_at_call 20; refine HX.out.mono ?_; rintro e w3 ⟨rfl, h3⟩; have HC3 := keepf (HCW.out.trans h3 (fun _ _ e => e)); clear h3)
          go_roundw
          case rel => exact ⟨k + 1, by omega, by go_num, HNX.out, HRN.out, HC3.out⟩
          case measure => simp [intOf]; omega
        · rw [txtsB_false hx] at HX
          have HE := keepf (show txtsB (.mk ck cn cs l) = false from txtsB_false (fun h => hx (txtsL_mem.1 ((txtsT_mk _ _ _ _).1 h).2 t' HM.out)))
          have HCE := keepf hcw
          clear hrw hv' hr' hdd ht' hcw hmem hx
          go_wp2_with (go_at_call 20; refine HX.out.mono ?_; rintro e w3 ⟨rfl, h3⟩; have HC3 := keepf (HCE.out.trans h3 (fun _ _ e => e)); clear h3)
          go_ret
          exact ⟨by rw [HE.out]; rfl, HC3.out⟩
      · obtain rfl : k = len := by omega
        have HCE := keepf (HC0.out.trans HCW.out (fun _ _ e => e))
        have hall : ∀ x ∈ l, txtsT x := fun x hx => HT.out x (by rw [List.take_of_length_le (by rw [HL.out]; exact Nat.le_refl _)]; exact hx)
        by_cases h3 : z ≤ 300
        · have HE := keepf (show txtsB (.mk ck cn cs l) = true from txtsB_true ((txtsT_mk _ _ _ _).2 ⟨by rw [HZ.out]; exact h3, txtsL_mem.2 hall⟩))
          have d1 : decide ((z : Int) ≤ 300) = true := by simp; omega
          have d1' : decide (z ≤ 300) = true := by simp; omega
          have hz := HZ.out
          clear hall h3
          go_wp2_with fail
          go_ret
          exact ⟨by rw [HE.out]; rfl, HCE.out⟩
        · have HE := keepf (show txtsB (.mk ck cn cs l) = false from txtsB_false (fun h => h3 (by have := ((txtsT_mk _ _ _ _).1 h).1; rw [HZ.out] at this; exact this)))
          have d1 : decide ((z : Int) ≤ 300) = false := by simp; omega
          have d1' : decide (z ≤ 300) = false := by simp; omega
          have hz := HZ.out
          clear hall h3
          go_wp2_with fail
          go_ret
          exact ⟨by rw [HE.out]; rfl, HCE.out⟩

/-- At most 300 values, with texts of at most 300 bytes. -/
noncomputable def smallB (t : VT) : Bool := decide (0 ≤ fewT t 300) && txtsB t

theorem smallB_true {t : VT} (h : smallB t = true) : sizT t ≤ 300 ∧ txtsT t := by
  unfold smallB at h
  rw [Bool.and_eq_true] at h
  have h1 := of_decide_eq_true h.1
  have h2 := few_T13 t 300 h1
  exact ⟨by omega, txtsB_iff.1 h.2⟩

set_option maxHeartbeats 2000000 in
set_option maxRecDepth 100000 in
theorem small13_any (t : VT) (c : VC) (w : World) (hv : ValIs w t c) :
    Calls Tryz.prog 7 #[c.val] w fun e w' => e = .returned (.bool (smallB t)) ∧ Chg NoS w w' := by
  have HF := keepf (fun W (h : Chg NoS w W) => rfew_any t c 300 W (hv.chg h) (by decide) (by decide))
  have HT := keepf (fun W (h : Chg NoS w W) => texts_in _ t (Nat.le_refl _) c W (hv.chg h))
  obtain ⟨z, hz⟩ : ∃ z, fewT t 300 = z := ⟨_, rfl⟩
  have hS : smallB t = (decide (0 ≤ z) && txtsB t) := by unfold smallB; rw [hz]
  rw [hz] at HF
  rw [hS]
  obtain ⟨y, hy⟩ : ∃ y, txtsB t = y := ⟨_, rfl⟩
  rw [hy] at HT ⊢
  obtain ⟨k, n, s, A, len, cap⟩ := c
  unfold VC.val at HF HT ⊢
  simp only [] at HF HT ⊢
  have HB := keepf (Blk.new w 24 #[.int .i64 k, .int .i64 n, .string s, .slice A len cap])
  have HC0 := keepf ((Chg.refl NoS w).alloc (.cells #[.int .i64 k, .int .i64 n, .string s, .slice A len cap] 24))
  obtain ⟨W1, hW1⟩ : ∃ W1, W1 = w.alloc (.cells #[.int .i64 k, .int .i64 n, .string s, .slice A len cap] 24) := ⟨_, rfl⟩
  obtain ⟨g, hg⟩ : ∃ g, g = w.heap.size := ⟨_, rfl⟩
  rw [← hW1] at HB HC0
  rw [← hg] at HB
  clear hv hz hS hy
  by_cases h0 : 0 ≤ z
  · have d1 : decide (0 ≤ z) = true := by simpa using h0
    rw [d1, Bool.true_and]
    go_enter Tryz.func7, Tryz.ntmps7
    go_upto_region 1 with fail
    rw [← hg, ← hW1]
    clear hg hW1
    have q0 := HB.out.cell 0
    have q1 := HB.out.cell 1
    have q2 := HB.out.cell 2
    have q3 := HB.out.cell 3
    simp at q0 q1 q2 q3
    go_wp2_with first
      | (go_at_call 19; refine (HF.out _ HC0.out).mono ?_; rintro e w2 ⟨rfl, h2⟩; have HC2 := keepf (HC0.out.trans h2 (fun _ _ e => e)); have hb2 := HB.out.chg h2 (fun h => h); have p0 := hb2.cell 0; have p1 := hb2.cell 1; have p2 := hb2.cell 2; have p3 := hb2.cell 3; simp at p0 p1 p2 p3; clear h2 hb2)
      | (go_at_call 20; refine (HT.out _ HC2.out).mono ?_; rintro e w3 ⟨rfl, h3⟩; have HC3 := keepf (HC2.out.trans h3 (fun _ _ e => e)); clear h3)
    go_ret
    exact ⟨rfl, HC3.out⟩
  · have d1 : decide (0 ≤ z) = false := by simpa using h0
    rw [d1, Bool.false_and]
    go_enter Tryz.func7, Tryz.ntmps7
    go_upto_region 1 with fail
    rw [← hg, ← hW1]
    clear hg hW1
    have q0 := HB.out.cell 0
    have q1 := HB.out.cell 1
    have q2 := HB.out.cell 2
    have q3 := HB.out.cell 3
    simp at q0 q1 q2 q3
    go_wp2_with (go_at_call 19; refine (HF.out _ HC0.out).mono ?_; rintro e w2 ⟨rfl, h2⟩; have HC2 := keepf (HC0.out.trans h2 (fun _ _ e => e)); clear h2)
    go_ret
    exact ⟨rfl, HC2.out⟩

/-- A value's box, whole, and nothing of old changed. -/
structure VBx (w : World) (g : Nat) (cs : Array Value) (W : World) : Prop where
  b : Blk W g 24 cs
  chg : Chg NoS w W

theorem VBx.call {w W W' : World} {g : Nat} {cs : Array Value} (h : VBx w g cs W) (hc : Chg NoS W W') : VBx w g cs W' := ⟨h.b.chg hc (fun e => e), h.chg.trans hc (fun _ _ e => e)⟩

theorem VBx.cells {w W : World} {g : Nat} {a b c d : Value} (h : VBx w g #[a, b, c, d] W) : W.cell? ⟨g, 0, none⟩ = some a ∧ W.cell? ⟨g, 1, none⟩ = some b ∧ W.cell? ⟨g, 2, none⟩ = some c ∧ W.cell? ⟨g, 3, none⟩ = some d := by
  have x0 := h.b.cell 0
  have x1 := h.b.cell 1
  have x2 := h.b.cell 2
  have x3 := h.b.cell 3
  simp at x0 x1 x2 x3
  exact ⟨x0, x1, x2, x3⟩

end Go.Proofs.YtcehpobjnbgpdaaGreatDoor

/- The document's own hex and Name (layer 13). -/
namespace Go.Proofs.YtcehpobjnbgpdaaGreatDoor
open Go.RowKit
set_option linter.unusedVariables false
set_option linter.unusedSimpArgs false

theorem hex_extract : ∀ d, d < 16 → (ByteArray.mk #[48, 49, 50, 51, 52, 53, 54, 55, 56, 57, 97, 98, 99, 100, 101, 102]).extract d (d + 1) = sb [hexC d] := by
  intro d h
  rcases d with _ | _ | _ | _ | _ | _ | _ | _ | _ | _ | _ | _ | _ | _ | _ | _ | d
  all_goals first
    | rfl
    | decide
    | omega

set_option maxHeartbeats 2000000 in
theorem r13hex_any (c : Nat) (hc : c < 256) (w : World) :
    Calls Tryz.prog 32 #[.int .u8 (c : Nat)] w fun e w' => e = .returned (.string (sb (hex2 c))) ∧ Chg NoS w w' := by
  obtain ⟨a, ha⟩ : ∃ a, a = c / 16 := ⟨_, rfl⟩
  obtain ⟨b, hb⟩ : ∃ b, b = c % 16 := ⟨_, rfl⟩
  have ha16 : a < 16 := by omega
  have hb16 : b < 16 := by omega
  have s1 : (c : Int) / 16 = (a : Int) := by omega
  have s2 : (c : Int) % 16 = (b : Int) := by omega
  have x1 := hex_extract a ha16
  have x2 := hex_extract b hb16
  have HE := keepf (show sb [hexC a] ++ sb [hexC b] = sb (hex2 c) from by rw [sb_app, ha, hb]; rfl)
  obtain ⟨y1, hy1⟩ : ∃ y1, y1 = sb [hexC a] := ⟨_, rfl⟩
  obtain ⟨y2, hy2⟩ : ∃ y2, y2 = sb [hexC b] := ⟨_, rfl⟩
  have z1 : y1.size = 1 := by rw [hy1, sb_size]; rfl
  have z2 : y2.size = 1 := by rw [hy2, sb_size]; rfl
  rw [← hy1, ← hy2] at HE
  rw [← hy1] at x1
  rw [← hy2] at x2
  have t1 : (c : Int).tdiv 16 = (a : Int) := by rw [Int.tdiv_eq_ediv_of_nonneg (by omega)]; omega
  have t2 : (c : Int).tmod 16 = (b : Int) := by rw [Int.tmod_eq_emod_of_nonneg (by omega)]; omega
  clear ha hb hy1 hy2
  go_enter Tryz.func32, Tryz.ntmps32
  go_wp2
  go_quiet (fail)
  go_wp2_with fail
  go_ret
  exact ⟨by rw [← HE.out]; rfl, (Chg.refl NoS w).drewN _⟩

theorem ext_one (s : ByteArray) (k : Nat) (h : k < s.size) : s.extract k (k + 1) = sb [(sl s).getD k 0] := by
  have h1 : sl (s.extract k (k + 1)) = [(sl s).getD k 0] := by
    unfold sl
    rw [ByteArray.data_extract, Array.toList_extract]
    simp only [List.extract_eq_take_drop, List.map_take, List.map_drop]
    show ((sl s).drop k).take (k + 1 - k) = _
    rw [drop_cons (by rw [sl_len]; exact h), show k + 1 - k = 1 from by omega]
    rfl
  rw [← sb_sl (s.extract k (k + 1)), h1]

set_option maxHeartbeats 8000000 in
set_option maxRecDepth 100000 in
theorem r13name_any (s : ByteArray) (w : World) (hs : s.size ≤ 100000) :
    Calls Tryz.prog 13 #[.string s] w fun e w' => e = .returned (.tuple #[.string (sb (nameT s).1), .int .i64 (nameT s).2]) ∧ Chg NoS w w' := by
  have HTX := keepf (fun X => rtext11_any s X (by unfold maxLen; omega))
  by_cases hx : textO s
  · have e1 : nameT s = (nmF (sl s), 0) := by unfold nameT; rw [if_pos hx]
    rw [e1]
    simp only []
    rw [decide_eq_true hx] at HTX
    have hn2 := hx.2
    have HDL0 := keepf (fun y X => rdelim_any y X)
    have HHX0 := keepf (fun y (hy : y < 256) X => r13hex_any y hy X)
    have HAT := keepf (fun k (h2 : k < s.size) => sl_at s k h2)
    have HEX := keepf (fun k (h2 : k < s.size) => ext_one s k h2)
    have HGL := keepf (getD_lt s)
    obtain ⟨n, hn⟩ : ∃ n, s.size = n := ⟨_, rfl⟩
    have HN := keepf (show (sl s).length = n from by rw [sl_len, hn])
    have HSN := keepf hn
    have hn127 : n ≤ 127 := by omega
    clear e1 hx hn2
    go_enter Tryz.func13, Tryz.ntmps13
    go_upto_region 5 with (go_at_call 30; refine (HTX.out _).mono ?_; rintro e w1 ⟨rfl, rfl⟩)
    go_loopw [4, 5] (fun vs vk wr => ∃ (k m : Nat) (t : ByteArray), k ≤ n ∧ m ≤ 3 * k + 1 ∧ t.size = m ∧ vs = .string t ∧ vk = .int .i64 (k : Nat) ∧ Hid (t = sb (47 :: nmL ((sl s).take k))) ∧ Hid (m = 1 + (nmL ((sl s).take k)).length) ∧ Hid (Chg NoS w wr)) (fun _ vk _ => n - (intOf vk).toNat)
    case atStart => exact ⟨0, 1, _, by omega, by omega, rfl, rfl, by go_num, rfl, rfl, Chg.refl NoS w⟩
    case round =>
      obtain ⟨k, m, t, hk, hm, hts, rfl, rfl, HTT, HML, HCW⟩ := hrel
      by_cases hlt : k < n
      · have hgt : ∀ h : k < s.size, (s[k]'h).toNat = (sl s).getD k 0 := fun h => HAT.out k h
        have hex := HEX.out k (by rw [HSN.out]; exact hlt)
        have hc256 := HGL.out k
        have HV := keepf (nmL_drop (l := sl s) (k := k) (by rw [HN.out]; exact hlt))
        obtain ⟨c, hc⟩ : ∃ c, c = (sl s).getD k 0 := ⟨_, rfl⟩
        rw [← hc] at hgt hex hc256 HV
        clear hc
        have HDL := keepf (fun X => HDL0.out c X)
        have HHX := keepf (fun X => HHX0.out c hc256 X)
        by_cases hg : 32 < c ∧ c < 127 ∧ c ≠ 35 ∧ isDl c = false
        · have HVE := keepf (show nmC c = [c] from by unfold nmC; rw [if_pos hg])
          obtain ⟨y, hy⟩ : ∃ y, y = sb [c] := ⟨_, rfl⟩
          have hy1 : y.size = 1 := by rw [hy, sb_size]; rfl
          rw [← hy] at hex
          have HNX := keepf (show t ++ y = sb (47 :: nmL ((sl s).take (k + 1))) from by rw [HV.out, HVE.out, HTT.out, hy, sb_app]; rfl)
          have HNL := keepf (show m + 1 = 1 + (nmL ((sl s).take (k + 1))).length from by rw [HV.out, HVE.out, HML.out, List.length_append]; simp only [List.length_cons, List.length_nil]; omega)
          rw [hg.2.2.2] at HDL
          obtain ⟨g1, g2, g3, _⟩ := hg
          have d1 : decide ((32 : Int) < c) = true := by simp; omega
          have d1' : decide (32 < c) = true := by simp; omega
          have d2 : decide ((c : Int) < 127) = true := by simp; omega
          have d2' : decide (c < 127) = true := by simp; omega
          have d3 : ((c : Int) == 35) = false := by simp; omega
          have d3' : (c == 35) = false := by simp; omega
          have d4 : ((c : Int) != 35) = true := by simp; omega
          have d4' : (c != 35) = true := by simp; omega
          have i1 : ¬ 9223372036854775807 < m + 1 := by omega
          clear g1 g2 g3 hy
          go_wp2_with (go_at_call 31; refine (HDL.out _).mono ?_; rintro e w5 ⟨rfl, rfl⟩)
          go_roundw
          case rel => exact ⟨k + 1, m + 1, _, by omega, by omega, by rw [ByteArray.size_append, hts, hy1], rfl, by go_num, HNX.out, HNL.out, HCW.out⟩
          case measure => simp [intOf]; omega
        have HVE := keepf (show nmC c = 35 :: hex2 c from by unfold nmC; rw [if_neg hg])
        obtain ⟨y, hy⟩ : ∃ y, y = sb (hex2 c) := ⟨_, rfl⟩
        have hy2 : y.size = 2 := by rw [hy, sb_size]; rfl
        have HNX := keepf (show t ++ ⟨#[35]⟩ ++ y = sb (47 :: nmL ((sl s).take (k + 1))) from by rw [HV.out, HVE.out, HTT.out, hy, show ByteArray.mk #[35] = sb [35] from rfl, sb_app, sb_app]; simp)
        have HNL := keepf (show m + 1 + 2 = 1 + (nmL ((sl s).take (k + 1))).length from by rw [HV.out, HVE.out, HML.out, List.length_append]; simp [hex2]; omega)
        rw [← hy] at HHX
        have i1 : ¬ 9223372036854775807 < m + 1 := by omega
        have i2 : ¬ 9223372036854775807 < m + 1 + 2 := by omega
        clear hy hex
        by_cases h1 : 32 < c
        · have d1 : decide ((32 : Int) < c) = true := by simp; omega
          have d1' : decide (32 < c) = true := by simp; omega
          by_cases h2 : c < 127
          · have d2 : decide ((c : Int) < 127) = true := by simp; omega
            have d2' : decide (c < 127) = true := by simp; omega
            by_cases h3 : c = 35
            · subst h3
              clear hg h1 h2
              go_wp2_with (go_at_call 32; refine (HHX.out _).mono ?_; rintro e w3 ⟨rfl, h3⟩; have HC3 := keepf (HCW.out.trans h3 (fun _ _ e => e)); clear h3)
              go_roundw
              case rel => exact ⟨k + 1, m + 1 + 2, _, by omega, by omega, by rw [ByteArray.size_append, ByteArray.size_append, hts, hy2]; rfl, rfl, by go_num, HNX.out, HNL.out, HC3.out⟩
              case measure => simp [intOf]; omega
            · have d3 : ((c : Int) == 35) = false := by simp; omega
              have d3' : (c == 35) = false := by simp; omega
              have d4 : ((c : Int) != 35) = true := by simp; omega
              have d4' : (c != 35) = true := by simp; omega
              have hdl : isDl c = true := by
                cases h4 : isDl c with
                | true => rfl
                | false => exact absurd ⟨h1, h2, h3, h4⟩ hg
              rw [hdl] at HDL
              clear hg h1 h2 h3 hdl
              go_wp2_with first
                | (go_at_call 31; refine (HDL.out _).mono ?_; rintro e w5 ⟨rfl, rfl⟩)
                | (go_at_call 32; refine (HHX.out _).mono ?_; rintro e w3 ⟨rfl, h3⟩; have HC3 := keepf (HCW.out.trans h3 (fun _ _ e => e)); clear h3)
              go_roundw
              case rel => exact ⟨k + 1, m + 1 + 2, _, by omega, by omega, by rw [ByteArray.size_append, ByteArray.size_append, hts, hy2]; rfl, rfl, by go_num, HNX.out, HNL.out, HC3.out⟩
              case measure => simp [intOf]; omega
          · have d2 : decide ((c : Int) < 127) = false := by simp; omega
            have d2' : decide (c < 127) = false := by simp; omega
            clear hg h1 h2
            go_wp2_with (go_at_call 32; refine (HHX.out _).mono ?_; rintro e w3 ⟨rfl, h3⟩; have HC3 := keepf (HCW.out.trans h3 (fun _ _ e => e)); clear h3)
            go_roundw
            case rel => exact ⟨k + 1, m + 1 + 2, _, by omega, by omega, by rw [ByteArray.size_append, ByteArray.size_append, hts, hy2]; rfl, rfl, by go_num, HNX.out, HNL.out, HC3.out⟩
            case measure => simp [intOf]; omega
        · have d1 : decide ((32 : Int) < c) = false := by simp; omega
          have d1' : decide (32 < c) = false := by simp; omega
          clear hg h1
          go_wp2_with (go_at_call 32; refine (HHX.out _).mono ?_; rintro e w3 ⟨rfl, h3⟩; have HC3 := keepf (HCW.out.trans h3 (fun _ _ e => e)); clear h3)
          go_roundw
          case rel => exact ⟨k + 1, m + 1 + 2, _, by omega, by omega, by rw [ByteArray.size_append, ByteArray.size_append, hts, hy2]; rfl, rfl, by go_num, HNX.out, HNL.out, HC3.out⟩
          case measure => simp [intOf]; omega
      · obtain rfl : k = n := by omega
        have HE := keepf (show t = sb (nmF (sl s)) from by rw [HTT.out, List.take_of_length_le (by rw [HN.out]; exact Nat.le_refl _)]; rfl)
        go_wp2_with fail
        go_ret2
        exact ⟨by rw [← HE.out]; rfl, HCW.out⟩
  · have e1 : nameT s = ([], 17) := by unfold nameT; rw [if_neg hx]
    rw [e1]
    simp only []
    rw [decide_eq_false hx] at HTX
    clear e1 hx
    go_enter Tryz.func13, Tryz.ntmps13
    go_wp2_with (go_at_call 30; refine (HTX.out _).mono ?_; rintro e w1 ⟨rfl, rfl⟩)
    go_ret2
    exact ⟨rfl, Chg.refl NoS w⟩

end Go.Proofs.YtcehpobjnbgpdaaGreatDoor

