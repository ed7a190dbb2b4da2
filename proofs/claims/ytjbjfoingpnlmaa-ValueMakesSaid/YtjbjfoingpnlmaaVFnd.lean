/- The program's find (with a function value), and place. -/
import Derived.Test.YtjbjfoingpnlmaaVWk
import Derived.Test.YtjbjfoingpnlmaaVPutM
namespace Go.Proofs.Ytjbjfoingpnlmaa
open Go.RowKit
set_option linter.unusedVariables false
set_option linter.unusedSimpArgs false

/-- Where the first name stands, in a name's place, whose text is one that is meant; the row's end, if none is. -/
def posL (p : ByteArray → Bool) : List VT → Nat
  | [] => 0
  | [t] => if t.kind = 5 ∧ p t.str = true then 0 else 1
  | t :: _ :: l => if t.kind = 5 ∧ p t.str = true then 0 else posL p l + 2
theorem posL_hit {p : ByteArray → Bool} {t : VT} {l : List VT} (h : t.kind = 5 ∧ p t.str = true) : posL p (t :: l) = 0 := by
  cases l with
  | nil => rw [posL, if_pos h]
  | cons u l => rw [posL, if_pos h]
theorem posL_one {p : ByteArray → Bool} {t : VT} (h : ¬ (t.kind = 5 ∧ p t.str = true)) : posL p [t] = 1 := by rw [posL, if_neg h]
theorem posL_two {p : ByteArray → Bool} {t u : VT} {l : List VT} (h : ¬ (t.kind = 5 ∧ p t.str = true)) : posL p (t :: u :: l) = posL p l + 2 := by rw [posL, if_neg h]
theorem posL_le (p : ByteArray → Bool) : ∀ l : List VT, posL p l ≤ l.length
  | [] => Nat.le_refl _
  | [t] => by rw [posL]; split <;> simp
  | t :: u :: l => by
    have := posL_le p l
    rw [posL]
    split
    · simp
    · simp only [List.length_cons]; omega
def pEq (key s : ByteArray) : Bool := s.toList == key.toList
def pGt (key s : ByteArray) : Bool := Op.bytesLess key.toList s.toList
theorem pEq_iff {key : ByteArray} {t : VT} : (t.kind = 5 ∧ pEq key t.str = true) ↔ hitT key t := by
  unfold pEq hitT
  constructor
  · rintro ⟨h1, h2⟩
    exact ⟨h1, toList_inj (by simpa using h2)⟩
  · rintro ⟨h1, h2⟩
    exact ⟨h1, by rw [h2]; simp⟩
theorem pos_find (key : ByteArray) : ∀ l : List VT, (∃ j, findL key l = some j ∧ posL (pEq key) l = 2 * j ∧ 2 * j < l.length) ∨ (findL key l = none ∧ posL (pEq key) l = l.length)
  | [] => .inr ⟨findL_nil key, rfl⟩
  | [t] => by
    by_cases h : hitT key t
    · exact .inl ⟨0, findL_hit h, posL_hit (pEq_iff.2 h), by simp⟩
    · exact .inr ⟨by rw [findL_no h]; rfl, posL_one (fun e => h (pEq_iff.1 e))⟩
  | t :: u :: l => by
    by_cases h : hitT key t
    · exact .inl ⟨0, findL_hit h, posL_hit (pEq_iff.2 h), by simp⟩
    · have h2 := posL_two (l := l) (u := u) (fun e => h (pEq_iff.1 e))
      have h3 := findL_no (l := u :: l) h
      rw [List.drop_succ_cons, List.drop_zero] at h3
      rcases pos_find key l with ⟨j, e1, e2, e3⟩ | ⟨e1, e2⟩
      · exact .inl ⟨j + 1, by rw [h3, e1]; rfl, by rw [h2, e2]; omega, by simp only [List.length_cons]; omega⟩
      · exact .inr ⟨by rw [h3, e1]; rfl, by rw [h2, e2]; simp only [List.length_cons]⟩
theorem pGt_iff {key : ByteArray} {t : VT} : (t.kind = 5 ∧ pGt key t.str = true) ↔ gtT key t := Iff.rfl
theorem ins_pos (key : ByteArray) (x : VT) : ∀ l : List VT, insL key x l = l.take (posL (pGt key) l) ++ nmT key :: x :: l.drop (posL (pGt key) l)
  | [] => by rw [insL, posL]; rfl
  | [t] => by
    by_cases h : gtT key t
    · rw [insL, if_pos h, posL_hit (pGt_iff.2 h)]; rfl
    · rw [insL, if_neg h, posL_one (fun e => h (pGt_iff.1 e))]; rfl
  | t :: u :: l => by
    by_cases h : gtT key t
    · rw [ins_gt h, posL_hit (pGt_iff.2 h)]; rfl
    · rw [ins_le h, posL_two (fun e => h (pGt_iff.1 e)), ins_pos key x l]
      rfl
theorem posL_drop {p : ByteArray → Bool} {l : List VT} {q : Nat} {t : VT} (hd : l.drop q = t :: l.drop (q + 1)) (h : ¬ (t.kind = 5 ∧ p t.str = true)) (he : posL p l = q + posL p (l.drop q)) (hq : q < l.length) :
    (posL p l = (q + 2) + posL p (l.drop (q + 2)) ∧ q + 2 ≤ l.length) ∨ (q + 2 = l.length + 1 ∧ posL p l = l.length) := by
  by_cases h1 : q + 1 < l.length
  · have h2 : l.drop (q + 1) = l[q + 1] :: l.drop (q + 2) := List.drop_eq_getElem_cons h1
    rw [he, hd, h2, posL_two h]
    exact .inl ⟨by omega, by omega⟩
  · have h2 : l.drop (q + 1) = [] := List.drop_of_length_le (by omega)
    rw [he, hd, h2, posL_one h]
    exact .inr ⟨by omega, by omega⟩

set_option maxHeartbeats 2000000 in
set_option maxRecDepth 100000 in
theorem find_any (p : ByteArray → Bool) (g : Nat) (lb : Array Value) (eg : ∀ args w, (callFunc g args).run Try.prog w = .ok (.enter g args) w) (l : List VT) (A : Option Addr) (len cap : Nat) (w0 w : World) (hl : l.length = len) (hlm : len ≤ 1000000000) (hr : RowIs w0 A 0 l) (hc : Chg NoS w0 w)
    (hp : ∀ s : ByteArray, Calls Try.prog g (#[.string s] ++ lb) w fun e w' => e = .returned (.bool (p s)) ∧ w = w') :
    Calls Try.prog 45 #[.slice A len cap, .func (.func g) #[] lb] w fun e w' => e = .returned (.int .i64 ((posL p l : Nat) : Int)) ∧ w = w' := by
  have HL := keepf hl
  have HR := keepf hr
  have HC := keepf hc
  have HP := keepf hp
  have HQL := keepf (posL_le p l)
  clear hl hr hc hp
  go_enter Try.func45, Try.ntmps45
  go_upto_region 2 with fail
  go_loop [5] (fun va => ∃ q : Nat, q ≤ len + 1 ∧ va = .int .i64 (q : Nat) ∧ Hid ((posL p l = q + posL p (l.drop q) ∧ q ≤ len) ∨ (q = len + 1 ∧ posL p l = len))) (fun va => len + 1 - (intOf va).toNat)
  case atStart => exact ⟨0, by omega, rfl, .inl ⟨by rw [List.drop_zero, Nat.zero_add], by omega⟩⟩
  case round =>
    obtain ⟨q, hq, rfl, HQ⟩ := hrel
    by_cases h1 : q < len
    · obtain ⟨t, ht, hd⟩ := drop_vt (l := l) (k := q) (by rw [HL.out]; exact h1)
      obtain ⟨b, off, rfl⟩ : ∃ b off, A = some ⟨b, off, none⟩ := by
        have h := HR.out
        cases hll : l with
        | nil => rw [hll] at ht; simp at ht
        | cons t0 l0 => rw [hll] at h; exact h.start
      obtain ⟨eA, el, ec, c0, _, c2, _, _⟩ := HR.out.nth HC.out ht
      have i1 : (q : Int) < len := by omega
      have he : posL p l = q + posL p (l.drop q) := by
        rcases HQ.out with h | h
        · exact h.1
        · omega
      have HE := keepf he
      have HD := keepf hd
      obtain ⟨tk, htk⟩ : ∃ tk, t.kind = tk := ⟨_, rfl⟩
      obtain ⟨ts, hts⟩ : ∃ ts, t.str = ts := ⟨_, rfl⟩
      rw [htk] at c0
      rw [hts] at c2
      have HTK := keepf htk
      have HTS := keepf hts
      have hcl := HP.out ts
      clear htk hts he hd ht
      by_cases h5 : tk = 5
      · subst h5
        cases hpb : p ts with
        | true =>
          rw [hpb] at hcl
          have HF := keepf (show posL p l = q from by rw [HE.out, HD.out, posL_hit ⟨HTK.out, by rw [HTS.out]; exact hpb⟩, Nat.add_zero])
          clear hpb
          go_wp2_with (go_at_fn g; refine hcl.mono ?_; rintro e w' ⟨rfl, rfl⟩)
          go_ret
          exact ⟨ret_v64 (by rw [HF.out]), rfl⟩
        | false =>
          rw [hpb] at hcl
          have HF := keepf (posL_drop HD.out (fun h => by rw [HTS.out, hpb] at h; exact absurd h.2 (by decide)) HE.out (by rw [HL.out]; exact h1))
          rw [HL.out] at HF
          clear hpb
          go_wp2_with (go_at_fn g; refine hcl.mono ?_; rintro e w' ⟨rfl, rfl⟩)
          go_round
          case rel => exact ⟨q + 2, by omega, by go_num, HF⟩
          case measure => simp [intOf]; omega
      · have e5 : (tk == 5) = false := by simpa using h5
        have HF := keepf (posL_drop HD.out (fun h => h5 (by rw [← HTK.out]; exact h.1)) HE.out (by rw [HL.out]; exact h1))
        rw [HL.out] at HF
        clear h5 hcl
        go_wp2_with fail
        go_round
        case rel => exact ⟨q + 2, by omega, by go_num, HF⟩
        case measure => simp [intOf]; omega
    · have HF : Hid (posL p l = len) := by
        show _ = _
        rcases HQ.out with h | h
        · rw [h.1, List.drop_of_length_le (by rw [HL.out]; omega), posL]
          omega
        · exact h.2
      have d1 : decide ((q : Int) < len) = false := by simp; omega
      have d1' : decide (q < len) = false := by simp; omega
      go_wp2_with fail
      go_ret
      exact ⟨ret_v64 (by rw [HF.out]), rfl⟩
theorem pl1_any (key s : ByteArray) (g : Nat) (w : World) (h : w.cell? ⟨g, 0, none⟩ = some (.string key)) :
    Calls Try.prog 58 #[.string s, .pointer (some ⟨g, 0, none⟩)] w fun e w' => e = .returned (.bool (pEq key s)) ∧ w = w' := by
  unfold pEq
  go_enter Try.func58, Try.ntmps58
  go_wp2_with fail
  go_ret
  exact ⟨rfl, rfl⟩

/-- What place tells. -/
def PlaceTo (w : World) (k : Int) (l : List VT) (key : ByteArray) (e : Ending) (w' : World) : Prop :=
  ∃ (q : Nat) (b : Bool), e = .returned (.tuple #[.int .i64 (q : Nat), .bool b]) ∧ Chg NoS w w' ∧ ((b = false ∧ (k ≠ 7 ∨ k = 7 ∧ findL key l = none)) ∨ (b = true ∧ k = 7 ∧ ∃ j, findL key l = some j ∧ q = 2 * j ∧ q < l.length))
set_option maxHeartbeats 2000000 in
theorem place_any (c : VC) (l : List VT) (key : ByteArray) (w : World) (hv : ValIs w (.mk c.k c.n c.s l) c) (hsz : sizL l ≤ 1000000000) :
    Calls Try.prog 41 #[c.val, .string key] w (PlaceTo w c.k l key) := by
  obtain ⟨_, _, _, hg, hl, hr⟩ := hv.inv
  obtain ⟨k, n, s, A, len, cap⟩ := c
  simp only [] at hl hr
  have hl9 : len ≤ 1000000000 := by have := sizL_len l; omega
  unfold VC.val
  simp only []
  have HC0 := keepf (((Chg.refl NoS w).alloc (.cells #[.int .i64 k, .int .i64 n, .string s, .slice A len cap] 24)).alloc (.cells #[.string key] 9))
  have hb := ((Blk.new w 24 #[.int .i64 k, .int .i64 n, .string s, .slice A len cap]).alloc (.cells #[.string key] 9))
  have p0 := hb.cell 0
  have p3 := hb.cell 3
  simp at p0 p3
  have hk1 := (Blk.new (w.alloc (.cells #[.int .i64 k, .int .i64 n, .string s, .slice A len cap] 24)) 9 #[.string key]).cell 0
  rw [World.size_alloc, show (#[Value.string key] : Array Value)[0]? = some (.string key) from rfl] at hk1
  have HF := keepf (find_any (pEq key) 58 #[.pointer (some ⟨w.heap.size + 1, 0, none⟩)] (fun args w => rfl) l A len cap w _ hl hl9 hr HC0.out (fun s => pl1_any key s _ _ hk1))
  have HP := keepf (pos_find key l)
  have HL := keepf hl
  obtain ⟨q, hq⟩ : ∃ q, posL (pEq key) l = q := ⟨_, rfl⟩
  rw [hq] at HF HP
  clear hb hk1 hv hg hr hl hsz hq
  by_cases h7 : k = 7
  · subst h7
    by_cases hlt : q < len
    · have HE : Hid (∃ j, findL key l = some j ∧ q = 2 * j ∧ q < l.length) := by
        show ∃ _, _
        rcases HP.out with ⟨j, h1, h2, h3⟩ | ⟨h1, h2⟩
        · exact ⟨j, h1, h2, by rw [HL.out]; exact hlt⟩
        · rw [HL.out] at h2; omega
      have d1 : decide ((q : Int) < len) = true := by simp; omega
      have d1' : decide (q < len) = true := by simp; omega
      clear hlt
      go_enter Try.func41, Try.ntmps41
      go_upto_region 4 with (go_at_call 45; refine HF.out.mono ?_; rintro e w3 ⟨rfl, rfl⟩)
      go_quiet (fail)
      go_wp2_with fail
      go_ret2
      exact ⟨q, true, rfl, HC0.out.drewN _, .inr ⟨rfl, rfl, HE.out⟩⟩
    · have HE : Hid (findL key l = none) := by
        show _ = _
        rcases HP.out with ⟨j, h1, h2, h3⟩ | ⟨h1, h2⟩
        · rw [HL.out] at h3; omega
        · exact h1
      have d1 : decide ((q : Int) < len) = false := by simp; omega
      have d1' : decide (q < len) = false := by simp; omega
      clear hlt
      go_enter Try.func41, Try.ntmps41
      go_upto_region 4 with (go_at_call 45; refine HF.out.mono ?_; rintro e w3 ⟨rfl, rfl⟩)
      go_quiet (fail)
      go_wp2_with fail
      go_ret2
      exact ⟨q, false, rfl, HC0.out.drewN _, .inl ⟨rfl, .inr ⟨rfl, HE.out⟩⟩⟩
  · have e7 : (k == 7) = false := by simpa using h7
    have e7' : (k != 7) = true := by simpa using h7
    have HK := keepf h7
    clear h7
    go_enter Try.func41, Try.ntmps41
    go_wp2_with fail
    go_ret2
    exact ⟨0, false, rfl, HC0.out, .inl ⟨rfl, .inl HK.out⟩⟩
end Go.Proofs.Ytjbjfoingpnlmaa
