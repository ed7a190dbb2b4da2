/- 'LexAll': for every input the statement's function returns true: all tokens of any bytes are those that stand behind one another, up to the end, or the first error. Conditions: none. -/
import Derived.Test.YtmmehaghcfdjdaaLWorks
import Derived.Test.YtmmehaghcfdjdaaRLx7
import Derived.Deep.RegionHeld3
import Derived.BigRegion
import Derived.Test.YtmmehaghcfdjdaaLexIn
import Derived.Test.YtmmehaghcfdjdaaLOk
import Derived.Test.YtmmehaghcfdjdaaRows
import Derived.OpenShut
import Derived.ChangeOld
import Derived.Lib.SmallJoins
namespace Go.Proofs.Ytmmehaghcfdjdaa
open Go.RowKit
set_option linter.unusedVariables false
set_option linter.unusedSimpArgs false

def tkRow (t : Tkn) : List Value := [.int .i64 (t.kind : Nat), .int .i64 (t.from_ : Nat), .int .i64 (t.to : Nat), .int .i64 (t.vk : Nat), .int .i64 t.vn, .string (sb t.vs), .slice none 0 0, .string (sb t.s)]
theorem tkcells_cons (t : Tkn) (ts : List Tkn) : tkcells (t :: ts) = tkRow t ++ tkcells ts := by unfold tkcells; rw [List.flatMap_cons]; rfl
theorem tkcells_len (ts : List Tkn) : (tkcells ts).length = ts.length * 8 := by
  induction ts with
  | nil => rfl
  | cons t ts ih => rw [tkcells_cons, List.length_append, ih, List.length_cons]; show 8 + _ = _; omega
theorem tkcells_at {ts : List Tkn} {k : Nat} {t : Tkn} (h : ts[k]? = some t) (i : Nat) (hi : i < 8) : (tkcells ts)[k * 8 + i]? = (tkRow t)[i]? := by
  induction ts generalizing k with
  | nil => simp at h
  | cons x ts ih =>
    rw [tkcells_cons]
    cases k with
    | zero =>
      simp at h
      subst h
      rw [List.getElem?_append_left (by show 0 * 8 + i < 8; omega), Nat.zero_mul, Nat.zero_add]
    | succ k =>
      rw [List.getElem?_append_right (by show 8 ≤ _; omega)]
      have e : (k + 1) * 8 + i - (tkRow x).length = k * 8 + i := by show (k + 1) * 8 + i - 8 = _; omega
      rw [e]
      exact ih (by simpa using h)
structure LAl (w : World) (b2 off2 k g : Nat) (k0 k1 k2 k3 : Nat) (k4 : Int) (S5 S7 : ByteArray) (W : World) : Prop where
  e0 : W.cell? ⟨b2, off2 + k * 8, none⟩ = some (.int .i64 (k0 : Nat))
  e1 : W.cell? ⟨b2, off2 + k * 8 + 1, none⟩ = some (.int .i64 (k1 : Nat))
  e2 : W.cell? ⟨b2, off2 + k * 8 + 2, none⟩ = some (.int .i64 (k2 : Nat))
  e3 : W.cell? ⟨b2, off2 + k * 8 + 3, none⟩ = some (.int .i64 (k3 : Nat))
  e4 : W.cell? ⟨b2, off2 + k * 8 + 4, none⟩ = some (.int .i64 k4)
  e5 : W.cell? ⟨b2, off2 + k * 8 + 5, none⟩ = some (.string S5)
  e6 : W.cell? ⟨b2, off2 + k * 8 + 6, none⟩ = some (.slice none 0 0)
  e7 : W.cell? ⟨b2, off2 + k * 8 + 7, none⟩ = some (.string S7)
  b : Blk W g 32 #[.int .i64 (k0 : Nat), .int .i64 (k1 : Nat), .int .i64 (k2 : Nat), .int .i64 (k3 : Nat), .int .i64 k4, .string S5, .slice none 0 0, .string S7]
  chg : Chg NoS w W
section
variable {w W W' : World} {b2 off2 k g k0 k1 k2 k3 : Nat} {k4 : Int} {S5 S7 : ByteArray}
theorem LAl.call (h : LAl w b2 off2 k g k0 k1 k2 k3 k4 S5 S7 W) (hc : Chg NoS W W') : LAl w b2 off2 k g k0 k1 k2 k3 k4 S5 S7 W' :=
  ⟨(hc.cell (p := ⟨b2, off2 + k * 8, none⟩) (by exact cell_lt h.e0) (fun e => e)).trans h.e0, (hc.cell (p := ⟨b2, off2 + k * 8 + 1, none⟩) (by exact cell_lt h.e1) (fun e => e)).trans h.e1, (hc.cell (p := ⟨b2, off2 + k * 8 + 2, none⟩) (by exact cell_lt h.e2) (fun e => e)).trans h.e2, (hc.cell (p := ⟨b2, off2 + k * 8 + 3, none⟩) (by exact cell_lt h.e3) (fun e => e)).trans h.e3, (hc.cell (p := ⟨b2, off2 + k * 8 + 4, none⟩) (by exact cell_lt h.e4) (fun e => e)).trans h.e4, (hc.cell (p := ⟨b2, off2 + k * 8 + 5, none⟩) (by exact cell_lt h.e5) (fun e => e)).trans h.e5, (hc.cell (p := ⟨b2, off2 + k * 8 + 6, none⟩) (by exact cell_lt h.e6) (fun e => e)).trans h.e6, (hc.cell (p := ⟨b2, off2 + k * 8 + 7, none⟩) (by exact cell_lt h.e7) (fun e => e)).trans h.e7, h.b.chg hc (fun e => e), h.chg.trans hc (fun _ _ e => e)⟩
theorem LAl.drew (h : LAl w b2 off2 k g k0 k1 k2 k3 k4 S5 S7 W) : LAl w b2 off2 k g k0 k1 k2 k3 k4 S5 S7 W.drew := h.call (Chg.refl NoS W).drew
theorem LAl.cells (h : LAl w b2 off2 k g k0 k1 k2 k3 k4 S5 S7 W) : W.cell? ⟨b2, off2 + k * 8, none⟩ = some (.int .i64 (k0 : Nat)) ∧ W.cell? ⟨b2, off2 + k * 8 + 1, none⟩ = some (.int .i64 (k1 : Nat)) ∧ W.cell? ⟨b2, off2 + k * 8 + 2, none⟩ = some (.int .i64 (k2 : Nat)) ∧ W.cell? ⟨b2, off2 + k * 8 + 3, none⟩ = some (.int .i64 (k3 : Nat)) ∧ W.cell? ⟨b2, off2 + k * 8 + 4, none⟩ = some (.int .i64 k4) ∧ W.cell? ⟨b2, off2 + k * 8 + 5, none⟩ = some (.string S5) ∧ W.cell? ⟨b2, off2 + k * 8 + 6, none⟩ = some (.slice none 0 0) ∧ W.cell? ⟨b2, off2 + k * 8 + 7, none⟩ = some (.string S7) ∧ W.cell? ⟨g, 0, none⟩ = some (.int .i64 (k0 : Nat)) ∧ W.cell? ⟨g, 1, none⟩ = some (.int .i64 (k1 : Nat)) ∧ W.cell? ⟨g, 2, none⟩ = some (.int .i64 (k2 : Nat)) ∧ W.cell? ⟨g, 3, none⟩ = some (.int .i64 (k3 : Nat)) ∧ W.cell? ⟨g, 4, none⟩ = some (.int .i64 k4) ∧ W.cell? ⟨g, 5, none⟩ = some (.string S5) ∧ W.cell? ⟨g, 6, none⟩ = some (.slice none 0 0) ∧ W.cell? ⟨g, 7, none⟩ = some (.string S7) := by
  have y0 := h.b.cell 0
  have y1 := h.b.cell 1
  have y2 := h.b.cell 2
  have y3 := h.b.cell 3
  have y4 := h.b.cell 4
  have y5 := h.b.cell 5
  have y6 := h.b.cell 6
  have y7 := h.b.cell 7
  simp at y0 y1 y2 y3 y4 y5 y6 y7
  exact ⟨h.e0, h.e1, h.e2, h.e3, h.e4, h.e5, h.e6, h.e7, y0, y1, y2, y3, y4, y5, y6, y7⟩
theorem LAl.of_ {f : FuncId} {args : Array Value} {v : Value} (H : ∀ W, Calls Try.prog f args W fun e w' => e = .returned v ∧ Chg NoS W w') (W : World) (h : LAl w b2 off2 k g k0 k1 k2 k3 k4 S5 S7 W) : Calls Try.prog f args W fun e w' => e = .returned v ∧ LAl w b2 off2 k g k0 k1 k2 k3 k4 S5 S7 w' :=
  (H W).mono fun _ _ ⟨he, hc⟩ => ⟨he, h.call hc⟩
end
theorem allIs_tok {bs : List Nat} {P q : Nat} {er : Int} {t : Tkn} {ts : List Tkn} (h : AllIs bs P (t :: ts) q er) : nextO bs P true = (0, t) ∧ t.kind ≠ 0 ∧ t.to ≤ bs.length ∧ AllIs bs t.to ts q er := by
  cases h with
  | tok h hk hp h2 => exact ⟨h, hk, hp, h2⟩
theorem allIs_len {bs : List Nat} {P q : Nat} {er : Int} {ts : List Tkn} (h : AllIs bs P ts q er) : P ≤ bs.length → P + ts.length ≤ bs.length := by
  induction h with
  | done h => intro hP; simpa using hP
  | err h he => intro hP; simpa using hP
  | tok h hk hp h2 ih =>
    intro hP
    have h5 := ih hp
    rcases nextO_place bs _ true hP with ⟨p', _, _, ht, _⟩ | ⟨_, _, h3, h4, _, _⟩
    · rw [h] at ht
      simp only [] at ht
      rw [ht] at hk
      exact absurd rfl hk
    · rw [h] at h3 h4
      simp only [] at h3 h4
      rw [List.length_cons]
      omega
theorem allIs_end {bs : List Nat} {P q : Nat} {er : Int} (h : AllIs bs P [] q er) : (nextO bs P true = (0, noT bs.length) ∧ q = P ∧ er = 0) ∨ (nextO bs P true = (er, noT q) ∧ er ≠ 0) := by
  cases h with
  | done h => exact .inl ⟨h, rfl, rfl⟩
  | err h he => exact .inr ⟨h, he⟩
set_option maxHeartbeats 8000000 in
set_option maxRecDepth 100000 in
theorem allW (H : LexOk) (bs : List Nat) (A : Option Addr) (c : Nat) (w : World) (hS : Src w 1 A bs.length c (lcells bs)) (hm : bs.length ≤ maxLen) (hb : ∀ x ∈ bs, x < 256) (hc : bs.length ≤ c) :
    Calls Try.prog 5 #[.slice A bs.length c] w fun e w' => e = .returned (.bool true) ∧ Chg NoS w w' := by
  have HW := keepf (fun W => works_any10 H W)
  unfold maxLen at hm
  by_cases h4 : bs.length ≤ 400
  · have HA := keepf (H.all bs A c w hS (by omega) hc hb)
    have HNR := keepf (fun (W : World) (h : Chg NoS w W) (P : Nat) (hP : P ≤ bs.length) => (rnext_in bs A c P true W (Src.below (w0 := w) hS h) (by omega) hc hP hb : Calls Try.prog 10 #[.slice A bs.length c, .int .i64 (P : Nat), .bool true] W fun e w' => e = .returned (.tuple #[tknV (nextO bs P true).2, .int .i64 (nextO bs P true).1]) ∧ Chg NoS W w'))
    obtain ⟨n, hn⟩ : ∃ n, n = bs.length := ⟨_, rfl⟩
    have HN := keepf hn
    rw [← hn] at HA HNR h4 hm hc ⊢
    have d4 : decide ((400 : Int) < n) = false := by simp; omega
    have d4' : decide (400 < n) = false := by simp; omega
    clear H hS hb hn
    go_enter Try.func5, Try.ntmps5
    go_upto_region 6 with (go_at_call 19; refine HA.out.mono ?_; rintro e w2 ⟨A2, c2, m, q, er, ts, hm2, rfl, hS2, hal, hc2⟩; have HM := keepf hm2; have HS2 := keepf hS2; have HAL := keepf hal; have HC2 := keepf hc2; clear hm2 hS2 hal hc2)
    have hm9 : m ≤ n := by
      have h := allIs_len HAL.out (Nat.zero_le _)
      rw [← HM.out, ← HN.out] at h
      omega
    go_loopw [6, 7] (fun va vk wr => ∃ P k : Nat, k ≤ m ∧ P ≤ n ∧ va = .int .i64 (P : Nat) ∧ vk = .int .i64 (k : Nat) ∧ Hid (Chg NoS w2 wr) ∧ Hid (AllIs bs P (ts.drop k) q er)) (fun _ vk _ => m - (intOf vk).toNat)
    case atStart => exact ⟨0, 0, by omega, by omega, rfl, rfl, Chg.refl _ _, by rw [List.drop_zero]; exact HAL.out⟩
    case round =>
      obtain ⟨P, k, hk, hPn, rfl, rfl, HCW, HI⟩ := hrel
      have HCR := keepf (HC2.out.trans HCW.out (fun _ _ e => e))
      by_cases h1 : k < m
      · obtain ⟨t, ht⟩ : ∃ t, ts[k]? = some t := ⟨_, List.getElem?_eq_getElem (by rw [← HM.out]; exact h1)⟩
        have hdr : ts.drop k = t :: ts.drop (k + 1) := by
          obtain ⟨hlt, he⟩ := List.getElem?_eq_some_iff.1 ht
          rw [List.drop_eq_getElem_cons hlt, he]
        have hi := HI.out
        rw [hdr] at hi
        obtain ⟨hres, hkd, hto, hnx⟩ := allIs_tok hi
        obtain ⟨b2, off2, rfl, hcell⟩ := HS2.out.plain (by rw [tkcells_len, ← HM.out]; omega)
        have hce : ∀ i u, i < 8 → (tkRow t)[i]? = some u → w2.cell? ⟨b2, off2 + (k * 8 + i), none⟩ = some u := fun i u h8 hu => hcell (k * 8 + i) u (by rw [tkcells_at ht i h8]; exact hu)
        have HOF0 := fun W => of10_any t W
        have HSM0 := fun W => same10_eq t W
        have hR1 := HNR.out wr HCR.out P hPn
        rw [hres] at hR1
        rw [← HN.out] at hto
        have HNEXT := keepf hnx
        obtain ⟨k0, k1, k2, k3, k4, vs, s⟩ := t
        unfold NxTo at hR1
        simp only [tknV] at HOF0 HSM0 hR1
        simp only [] at hkd hto
        simp only [tkRow] at hce
        obtain ⟨S5, h5⟩ : ∃ S5, S5 = sb vs := ⟨_, rfl⟩
        obtain ⟨S7, h7⟩ : ∃ S7, S7 = sb s := ⟨_, rfl⟩
        rw [← h5, ← h7] at HOF0 HSM0 hR1 hce
        have HX := keepf hR1
        have HCE := keepf hce
        have kk : ((k0 : Int) == 0) = false := by simp; omega
        have i1 : (k : Int) < m := by omega
        clear hR1 hce hcell hres hnx hi hdr ht h5 h7 hkd HNR HA
        go_upto_region 9 with (go_at_call 10; refine HX.out.mono ?_; rintro e w3 ⟨rfl, hc3⟩; have HC3 := keepf hc3; clear hc3)
        have hE : ∀ i u, i < 8 → [.int .i64 (k0 : Nat), .int .i64 (k1 : Nat), .int .i64 (k2 : Nat), .int .i64 (k3 : Nat), .int .i64 k4, .string S5, .slice none 0 0, .string S7][i]? = some u → (w3.alloc (.cells #[.int .i64 (k0 : Nat), .int .i64 (k1 : Nat), .int .i64 (k2 : Nat), .int .i64 (k3 : Nat), .int .i64 k4, .string S5, .slice none 0 0, .string S7] 32)).cell? ⟨b2, off2 + (k * 8 + i), none⟩ = some u := fun i u h8 hu => by
          have h := HCE.out i u h8 hu
          have hch : Chg NoS w2 (w3.alloc (.cells #[.int .i64 (k0 : Nat), .int .i64 (k1 : Nat), .int .i64 (k2 : Nat), .int .i64 (k3 : Nat), .int .i64 k4, .string S5, .slice none 0 0, .string S7] 32)) := (HCW.out.trans HC3.out (fun _ _ e => e)).alloc _
          exact (hch.cell (p := ⟨b2, _, none⟩) (by exact cell_lt h) (fun e => e)).trans h
        have hst : LAl w b2 off2 k w3.heap.size k0 k1 k2 k3 k4 S5 S7 (w3.alloc (.cells #[.int .i64 (k0 : Nat), .int .i64 (k1 : Nat), .int .i64 (k2 : Nat), .int .i64 (k3 : Nat), .int .i64 k4, .string S5, .slice none 0 0, .string S7] 32)) := ⟨hE 0 _ (by decide) rfl, hE 1 _ (by decide) rfl, hE 2 _ (by decide) rfl, hE 3 _ (by decide) rfl, hE 4 _ (by decide) rfl, hE 5 _ (by decide) rfl, hE 6 _ (by decide) rfl, hE 7 _ (by decide) rfl, Blk.new w3 32 #[.int .i64 (k0 : Nat), .int .i64 (k1 : Nat), .int .i64 (k2 : Nat), .int .i64 (k3 : Nat), .int .i64 k4, .string S5, .slice none 0 0, .string S7], (HCR.out.trans HC3.out (fun _ _ e => e)).alloc _⟩
        have HCZ := keepf ((HCW.out.trans HC3.out (fun _ _ e => e)).alloc (.cells #[.int .i64 (k0 : Nat), .int .i64 (k1 : Nat), .int .i64 (k2 : Nat), .int .i64 (k3 : Nat), .int .i64 k4, .string S5, .slice none 0 0, .string S7] 32))
        obtain ⟨W4, hW⟩ : ∃ W4, W4 = w3.alloc (.cells #[.int .i64 (k0 : Nat), .int .i64 (k1 : Nat), .int .i64 (k2 : Nat), .int .i64 (k3 : Nat), .int .i64 k4, .string S5, .slice none 0 0, .string S7] 32) := ⟨_, rfl⟩
        obtain ⟨g, hg⟩ : ∃ g, g = w3.heap.size := ⟨_, rfl⟩
        rw [← hW, ← hg] at hst
        rw [← hW] at HCZ
        rw [← hW, ← hg]
        clear hW hg hE
        have hst2 : LAl w2 b2 off2 k g k0 k1 k2 k3 k4 S5 S7 W4 := ⟨hst.e0, hst.e1, hst.e2, hst.e3, hst.e4, hst.e5, hst.e6, hst.e7, hst.b, HCZ.out⟩
        have hsd := hst2.drew
        have hq := hst2
        obtain ⟨_, _, _, _, _, _, _, _, _, _, _, _, _, _, _, _⟩ := hq.cells
        have HOF := keepf (LAl.of_ (w := w2) (b2 := b2) (off2 := off2) (k := k) (g := g) (k0 := k0) (k1 := k1) (k2 := k2) (k3 := k3) (k4 := k4) (S5 := S5) (S7 := S7) HOF0)
        have HSM := keepf (LAl.of_ (w := w2) (b2 := b2) (off2 := off2) (k := k) (g := g) (k0 := k0) (k1 := k1) (k2 := k2) (k3 := k3) (k4 := k4) (S5 := S5) (S7 := S7) HSM0)
        clear hq hst hst2 HOF0 HSM0
        first
          | (go_loud (go_region_held3 (fun w' => w'.cell? ⟨b2, off2 + k * 8, none⟩ = some (.int .i64 (k0 : Nat)) ∧ w'.cell? ⟨b2, off2 + k * 8 + 1, none⟩ = some (.int .i64 (k1 : Nat)) ∧ w'.cell? ⟨b2, off2 + k * 8 + 2, none⟩ = some (.int .i64 (k2 : Nat)) ∧ w'.cell? ⟨b2, off2 + k * 8 + 3, none⟩ = some (.int .i64 (k3 : Nat)) ∧ w'.cell? ⟨b2, off2 + k * 8 + 4, none⟩ = some (.int .i64 k4) ∧ w'.cell? ⟨b2, off2 + k * 8 + 5, none⟩ = some (.string S5) ∧ w'.cell? ⟨b2, off2 + k * 8 + 6, none⟩ = some (.slice none 0 0) ∧ w'.cell? ⟨b2, off2 + k * 8 + 7, none⟩ = some (.string S7) ∧ w'.cell? ⟨g, 0, none⟩ = some (.int .i64 (k0 : Nat)) ∧ w'.cell? ⟨g, 1, none⟩ = some (.int .i64 (k1 : Nat)) ∧ w'.cell? ⟨g, 2, none⟩ = some (.int .i64 (k2 : Nat)) ∧ w'.cell? ⟨g, 3, none⟩ = some (.int .i64 (k3 : Nat)) ∧ w'.cell? ⟨g, 4, none⟩ = some (.int .i64 k4) ∧ w'.cell? ⟨g, 5, none⟩ = some (.string S5) ∧ w'.cell? ⟨g, 6, none⟩ = some (.slice none 0 0) ∧ w'.cell? ⟨g, 7, none⟩ = some (.string S7))
              (first | (go_keep; done) | (go_split_ands; exact ⟨by assumption, by assumption, by assumption, by assumption, by assumption, by assumption, by assumption, by assumption, by assumption, by assumption, by assumption, by assumption, by assumption, by assumption, by assumption, by assumption⟩))
              (first
                | (go_at_call 12; refine (HOF.out _ (by assumption)).mono ?_; rintro e wq ⟨rfl, hq⟩; obtain ⟨_, _, _, _, _, _, _, _, _, _, _, _, _, _, _, _⟩ := hq.cells)
                | (go_at_call 11; refine (HSM.out _ (by assumption)).mono ?_; rintro e wq ⟨rfl, hq⟩; obtain ⟨_, _, _, _, _, _, _, _, _, _, _, _, _, _, _, _⟩ := hq.cells))))
          | fail "region"
        go_wp2_with fail
        go_roundw
        case rel => exact ⟨k2, k + 1, by omega, hto, rfl, by go_num, keepf (by assumption : LAl w2 b2 off2 k g k0 k1 k2 k3 k4 S5 S7 _).chg, HNEXT⟩
        case measure => simp [intOf]; omega
      · obtain rfl : k = m := by omega
        have hi := HI.out
        rw [List.drop_of_length_le (by rw [← HM.out]; exact Nat.le_refl _)] at hi
        rcases allIs_end hi with ⟨hres, rfl, rfl⟩ | ⟨hres, hne⟩
        · have hR1 := HNR.out wr HCR.out q hPn
          rw [hres] at hR1
          rw [← HN.out] at hR1
          have hR2 : Calls Try.prog 10 #[.slice A n c, .int .i64 (q : Nat), .bool true] wr fun e w' => e = .returned (.tuple #[.agg #[.int .i64 0, .int .i64 (n : Nat), .int .i64 (n : Nat), .int .i64 0, .int .i64 0, .string ⟨#[]⟩, .slice none 0 0, .string ⟨#[]⟩], .int .i64 0]) ∧ Chg NoS wr w' := hR1
          have HX := keepf hR2
          clear hR1 hR2 hres hi HNR HA
          go_upto_region 13 with (go_at_call 10; refine HX.out.mono ?_; rintro e w3 ⟨rfl, hc3⟩; have HC3 := keepf (HCR.out.trans hc3 (fun _ _ e => e)); clear hc3)
          have HB5 := keepf (Blk.new w3 32 #[.int .i64 0, .int .i64 (n : Nat), .int .i64 (n : Nat), .int .i64 0, .int .i64 0, .string ⟨#[]⟩, .slice none 0 0, .string ⟨#[]⟩])
          have HC6 := keepf (HC3.out.alloc (.cells #[.int .i64 0, .int .i64 (n : Nat), .int .i64 (n : Nat), .int .i64 0, .int .i64 0, .string ⟨#[]⟩, .slice none 0 0, .string ⟨#[]⟩] 32))
          obtain ⟨W, hW⟩ : ∃ W, W = w3.alloc (.cells #[.int .i64 0, .int .i64 (n : Nat), .int .i64 (n : Nat), .int .i64 0, .int .i64 0, .string ⟨#[]⟩, .slice none 0 0, .string ⟨#[]⟩] 32) := ⟨_, rfl⟩
          obtain ⟨g, hg⟩ : ∃ g, g = w3.heap.size := ⟨_, rfl⟩
          rw [← hW] at HB5 HC6
          rw [← hg] at HB5
          rw [← hW, ← hg]
          clear hW hg
          have q0 := HB5.out.cell 0
          have q1 := HB5.out.cell 1
          have q2 := HB5.out.cell 2
          have q3 := HB5.out.cell 3
          have q4 := HB5.out.cell 4
          have q5 := HB5.out.cell 5
          have q6 := HB5.out.cell 6
          have q7 := HB5.out.cell 7
          simp at q0 q1 q2 q3 q4 q5 q6 q7
          go_wp2_with (go_at_call 8; refine (HW.out _).mono ?_; rintro e wx ⟨rfl, hcx⟩; have HCx := keepf hcx; clear hcx)
          go_ret
          exact ⟨rfl, HC6.out.trans HCx.out (fun _ _ e => e)⟩
        · have hR1 := HNR.out wr HCR.out P hPn
          rw [hres] at hR1
          have hR2 : Calls Try.prog 10 #[.slice A n c, .int .i64 (P : Nat), .bool true] wr fun e w' => e = .returned (.tuple #[.agg #[.int .i64 0, .int .i64 (q : Nat), .int .i64 (q : Nat), .int .i64 0, .int .i64 0, .string ⟨#[]⟩, .slice none 0 0, .string ⟨#[]⟩], .int .i64 er]) ∧ Chg NoS wr w' := hR1
          have HX := keepf hR2
          have v2 : (er != 0) = true := by simpa using hne
          have v3 : (er == 0) = false := by simpa using hne
          clear hR1 hR2 hres hi HNR HA hne
          go_upto_region 13 with (go_at_call 10; refine HX.out.mono ?_; rintro e w3 ⟨rfl, hc3⟩; have HC3 := keepf (HCR.out.trans hc3 (fun _ _ e => e)); clear hc3)
          have HB5 := keepf (Blk.new w3 32 #[.int .i64 0, .int .i64 (q : Nat), .int .i64 (q : Nat), .int .i64 0, .int .i64 0, .string ⟨#[]⟩, .slice none 0 0, .string ⟨#[]⟩])
          have HC6 := keepf (HC3.out.alloc (.cells #[.int .i64 0, .int .i64 (q : Nat), .int .i64 (q : Nat), .int .i64 0, .int .i64 0, .string ⟨#[]⟩, .slice none 0 0, .string ⟨#[]⟩] 32))
          obtain ⟨W, hW⟩ : ∃ W, W = w3.alloc (.cells #[.int .i64 0, .int .i64 (q : Nat), .int .i64 (q : Nat), .int .i64 0, .int .i64 0, .string ⟨#[]⟩, .slice none 0 0, .string ⟨#[]⟩] 32) := ⟨_, rfl⟩
          obtain ⟨g, hg⟩ : ∃ g, g = w3.heap.size := ⟨_, rfl⟩
          rw [← hW] at HB5 HC6
          rw [← hg] at HB5
          rw [← hW, ← hg]
          clear hW hg
          have q0 := HB5.out.cell 0
          have q1 := HB5.out.cell 1
          have q2 := HB5.out.cell 2
          have q3 := HB5.out.cell 3
          have q4 := HB5.out.cell 4
          have q5 := HB5.out.cell 5
          have q6 := HB5.out.cell 6
          have q7 := HB5.out.cell 7
          simp at q0 q1 q2 q3 q4 q5 q6 q7
          go_wp2_with (go_at_call 8; refine (HW.out _).mono ?_; rintro e wx ⟨rfl, hcx⟩; have HCx := keepf hcx; clear hcx)
          go_ret
          exact ⟨rfl, HC6.out.trans HCx.out (fun _ _ e => e)⟩
  · have d4 : decide ((400 : Int) < bs.length) = true := by simp; omega
    have d4' : decide (400 < bs.length) = true := by simp; omega
    obtain ⟨n, hn⟩ : ∃ n, n = bs.length := ⟨_, rfl⟩
    rw [← hn] at hm d4 d4' ⊢
    clear H hS hb hc h4 hn
    go_enter Try.func5, Try.ntmps5
    go_wp2_with (go_at_call 8; refine (HW.out _).mono ?_; rintro e wx ⟨rfl, hcx⟩; have HCx := keepf hcx; clear hcx)
    go_ret
    exact ⟨rfl, HCx.out⟩
end Go.Proofs.Ytmmehaghcfdjdaa
namespace Go.Proofs.Ytmmehaghcfdjdaa.lall
open Go.RowKit Go.ChangeShapes Go.WideShapes Go.ChangeAt
set_option linter.unusedVariables false

theorem own : ownKnob Try.prog.godebug = none := by kernel_rfl
theorem laidOut : laidOutB Try.prog = true := by kernel_rfl
theorem walk (A : Option Addr) (len cap : Nat) (bs : List Nat) (w : World) (hl : bs.length = len) (hm : len ≤ maxLen) (hS : Src w 1 A len cap (bs.flatMap encL)) (hg : ∀ b ∈ bs, b < 256) (hc : len ≤ cap) :
    Calls Try.prog 5 #[.slice A len cap] w fun e w' => e = .returned (.bool true) ∧ Below w.heap.size w w' := by
  rw [flat_bytesL] at hS
  subst hl
  exact (allW lex_ok bs A cap w hS hm hg hc).mono fun e w' h => ⟨h.1, h.2.no_below⟩


set_option maxRecDepth 100000 in
theorem lifted (os : Os) (started : os.Started) (H : Type) (enc : TypeId × Value → H) :
    ReturnsInHanded {} Try.checked os 5 .any (Rows.lexAllSpec.pre6 enc Try.prog Try.f5 Rows.lexAllRow.domain false) (Rows.lexAllSpec.post enc Try.prog Try.f5 false true false false) := by
  refine returnsInHanded_of_change (C := Try.checked) own started (by kernel_rfl) Try.func5
    (ChangeSpec.witness6 (enc := enc) (C := Try.checked) false ⟨#[], #[.slice none 0 0], []⟩ 8 (by kernel_rfl) (by kernel_rfl) (by kernel_rfl) (by kernel_rfl)) ?_
  intro W base args ds gs before hval0 hW hcnd _
  have hval : ∀ (j : Nat) t v, Try.f5.params[j]? = some t → args[j]? = some v → Value.okWide Try.prog W .any base t v := hval0
  have hW' := hW
  obtain ⟨p, q, hA0, hV, rfl, hfz, hnd⟩ := hW
  have hA : DataW.TrodAll enc Try.prog W 0 (fun _ => true) true Try.f5.params.toList args.toList ds p := hA0
  rw [Try.params5] at hA hval
  obtain ⟨v0, vs0, d0, ds0, p0, q0, hargs, rfl, rfl, h0, r0⟩ := trodAll_cons hA
  obtain ⟨rfl, rfl, rfl⟩ := trodAll_nil r0
  obtain rfl : args = #[v0] := by cases args; simp_all
  obtain ⟨rfl, rfl⟩ := trodVars_none hV
  obtain ⟨a0, len0, cap0, rfl⟩ := okWide_slice Try.underlying22 (hval 0 22 v0 rfl rfl)
  have k0 := h0
  have lt0 : ∀ x ∈ p0, x.block < W.heap.size := by obtain ⟨m, hm⟩ := k0; exact DataW.trod_lt m _ _ _ hm
  obtain ⟨hm0, xs0, hl0, hS0, hg0⟩ : len0 ≤ maxLen ∧ ∃ xs : List Nat, xs.length = len0 ∧ Src W 1 a0 len0 cap0 (xs.flatMap encL) ∧ ∀ b ∈ xs, (fun p : Nat => p < 256) b := by
    obtain ⟨fuel, hf⟩ := h0
    exact open_rows encL (fun p : Nat => p < 256) 1 Try.underlying22 (by kernel_rfl) (fun _ => rfl) (fun n cs y h _ => byte_elL h) (by simpa [Value.cells] using hf)
  have hc0 : len0 ≤ cap0 := by
    obtain ⟨fuel, hf⟩ := h0
    exact open_capL Try.underlying22 (by simpa [Value.cells] using hf)
  clear hA0 hval0
  refine (walk a0 len0 cap0 xs0 W hl0 hm0 hS0 hg0 hc0).mono fun e W' ⟨he, bel⟩ => ?_
  subst he
  exact ⟨_, rfl, _, _, _, [], _, [], hW', trodAll_mk1 (shut_bool Try.underlying4 _), (trodAll_cons_mk (Below.trod laidOut (by kernel_rfl) (of_decide_eq_true (by kernel_rfl)) k0 bel lt0) trodAll_mk0), rfl, bel.frame _, fun h => by cases h⟩

theorem over : Rows.lexAllRow.holds Try.pinned (OpenSpec.ofChange Rows.lexAllSpec) :=
  OpenClaim.holds_of_wide 5 Try.f5 rfl rfl rfl rfl rfl rfl rfl ⟨rfl, rfl, rfl, rfl, rfl⟩ rfl rfl rfl rfl rfl (by kernel_rfl) Try.func5 (by kernel_rfl)
    (of_decide_eq_true (by kernel_rfl)) (by unfold Func.isWrapper; first | (rw [if_pos (by decide +kernel)]; kernel_rfl) | (rw [if_neg (by decide +kernel)]; exact ⟨rfl, rfl⟩))
    (fun os started H enc _ => lifted os started H enc)

theorem proved : Rows.LexAllSaid := over
#print axioms proved
end Go.Proofs.Ytmmehaghcfdjdaa.lall
