/- What is read, and the bytes that came of it: its blocks; bits, and numbers with bits, that are read. -/
import Derived.Test.YtbdnhhhagpgibaaMachine
namespace Go.Proofs.Ytbdnhhhagpgibaa
open Go.RowKit
set_option linter.unusedVariables false
set_option linter.unusedSimpArgs false

/-- Codes of a block: two tables. -/
def Cd (w : World) (c : Nat) (ls ds : List Int) : Prop :=
  ∃ gs gd, Blk w c 88 #[.pointer (some ⟨gs, 0, none⟩), .pointer (some ⟨gd, 0, none⟩)] ∧ Tb w gs ls ∧ Tb w gd ds ∧ May ls ∧ May ds

/-- The struct in block g, its reader in block gr at the place a, the bytes so far in the slice So. -/
structure Pk (w : World) (g gr : Nat) (bs : List Nat) (a : Nat) (S : Value) (most : Nat) (out : List Nat) (So fx : Value) : Prop where
  blk : Blk w g 46 #[.pointer (some ⟨gr, 0, none⟩), .int .i64 most, So, fx]
  rd : Rd w gr false bs a S
  own : w.ownsRow 0 5 1 So out.length (ucells out)
  sep : ∀ i, S.ownBlock = some i → So.ownBlock ≠ some i
  fix : fx = .pointer none ∨ ∃ c, fx = .pointer (some ⟨c, 0, none⟩) ∧ Cd w c fixS fixD
  le : a ≤ 8 * bs.length
  len : bs.length ≤ 100000
  byt : ∀ b ∈ bs, b < 256
  mst : most ≤ 16777216
  ole : out.length ≤ most

/-- The blocks that reading may change. -/
def KP (g gr : Nat) (So : Value) : Nat → Prop := fun i => i = g ∨ i = gr ∨ So.ownBlock = some i
/-- Reading changes those blocks, and others that are new. -/
def Mv (g gr : Nat) (w : World) (So : Value) (w' : World) (So' : Value) : Prop :=
  Chg (KP g gr So) w w' ∧ ∀ i, i < w.heap.size → So'.ownBlock = some i → So.ownBlock = some i
theorem Mv.refl (g gr : Nat) (w : World) (So : Value) : Mv g gr w So w So := ⟨Chg.refl _ _, fun _ _ h => h⟩
theorem Mv.trans {g gr : Nat} {w w' w2 : World} {So So' So2 : Value} (h : Mv g gr w So w' So') (k : Mv g gr w' So' w2 So2) : Mv g gr w So w2 So2 := by
  refine ⟨h.1.trans k.1 ?_, fun i hi e => h.2 i hi (k.2 i (by have := h.1.size; omega) e)⟩
  rintro i hi (rfl | rfl | e)
  · exact .inl rfl
  · exact .inr (.inl rfl)
  · exact .inr (.inr (h.2 i hi e))
theorem Mv.of {g gr : Nat} {w w' : World} {So : Value} (h : Chg (KP g gr So) w w') : Mv g gr w So w' So := ⟨h, fun _ _ h => h⟩
theorem Mv.news {g gr : Nat} {w w' w2 : World} {So So' : Value} (h : Mv g gr w So w' So') (k : Chg NoS w' w2) : Mv g gr w So w2 So' := h.trans (Mv.of (k.mono (fun _ _ e => e.elim)))
theorem Mv.drewN {g gr : Nat} {w w' : World} {So So' : Value} (h : Mv g gr w So w' So') (n : Nat) : Mv g gr w So (w'.drewN n) So' := ⟨h.1.drewN n, h.2⟩

theorem Tb.ne_blk {w : World} {c g : Nat} {ls : List Int} {t : TypeId} {cs : Array Value} (h : Tb w c ls) (hg : Blk w g t cs) (ht : 110 ≠ t) : c ≠ g := by
  obtain ⟨T, _, h1, _⟩ := h
  exact Blk.ne_ h1 hg ht
theorem Tb.ne_own {w : World} {c n base size : Nat} {ls : List Int} {v : Value} {e : TypeId} {xs : List Value} (h : Tb w c ls) (ho : w.ownsRow base e size v n xs) (ht : e ≠ 110) : v.ownBlock ≠ some c := by
  obtain ⟨T, _, h1, _⟩ := h
  exact own_ne_blk ho h1 ht

section
variable {w w' : World} {g gr a most : Nat} {bs out : List Nat} {S So fx : Value}
theorem Pk.no_tb (h : Pk w g gr bs a S most out So fx) {c : Nat} {ls : List Int} (hT : Tb w c ls) : ¬ KP g gr So c := by
  rintro (e | e | e)
  · exact hT.ne_blk h.blk (by decide) e
  · exact hT.ne_blk h.rd.1 (by decide) e
  · exact hT.ne_own h.own (by decide) e
theorem Pk.no_blk (h : Pk w g gr bs a S most out So fx) {c : Nat} {t : TypeId} {cs : Array Value} (hB : Blk w c t cs) (h1 : t ≠ 46) (h2 : t ≠ 62) (h3 : 5 ≠ t) : ¬ KP g gr So c := by
  rintro (e | e | e)
  · exact Blk.ne_ hB h.blk h1 e
  · exact Blk.ne_ hB h.rd.1 h2 e
  · exact own_ne_blk h.own hB h3 e
theorem Pk.no_own (h : Pk w g gr bs a S most out So fx) {base size n : Nat} {v : Value} {e : TypeId} {xs : List Value} (ho : w.ownsRow base e size v n xs) (h1 : e ≠ 46) (h2 : e ≠ 62) (h3 : 5 ≠ e) : ∀ i, v.ownBlock = some i → ¬ KP g gr So i := by
  intro i hi
  rcases ho.2 with ⟨rfl, _⟩ | ⟨g', cap, cur, rfl, hb, hh, _⟩
  · simp [Value.ownBlock] at hi
  · have e1 : g' = i := by simpa [Value.ownBlock] using hi
    subst e1
    exact h.no_blk (t := e) hh h1 h2 h3
theorem Pk.tb (h : Pk w g gr bs a S most out So fx) {c : Nat} {ls : List Int} (hT : Tb w c ls) (hc : Chg (KP g gr So) w w') : Tb w' c ls := hT.chg hc (h.no_tb hT)
theorem Pk.cd (h : Pk w g gr bs a S most out So fx) {c : Nat} {ls ds : List Int} (hT : Cd w c ls ds) (hc : Chg (KP g gr So) w w') : Cd w' c ls ds := by
  obtain ⟨gs, gd, h1, h2, h3, h4, h5⟩ := hT
  exact ⟨gs, gd, h1.chg hc (h.no_blk h1 (by decide) (by decide) (by decide)), h.tb h2 hc, h.tb h3 hc, h4, h5⟩
theorem Pk.row (h : Pk w g gr bs a S most out So fx) {base size n : Nat} {v : Value} {e : TypeId} {xs : List Value} (ho : w.ownsRow base e size v n xs) (h1 : e ≠ 46) (h2 : e ≠ 62) (h3 : 5 ≠ e) (hc : Chg (KP g gr So) w w') : w'.ownsRow base e size v n xs :=
  own_chg ho hc (h.no_own ho h1 h2 h3)
theorem Cd.news {c : Nat} {ls ds : List Int} (hT : Cd w c ls ds) (hc : Chg NoS w w') : Cd w' c ls ds := by
  obtain ⟨gs, gd, h1, h2, h3, h4, h5⟩ := hT
  exact ⟨gs, gd, h1.chg hc (fun h => h), h2.chg hc (fun h => h), h3.chg hc (fun h => h), h4, h5⟩
/-- Nothing of it has changed. -/
theorem Pk.news (h : Pk w g gr bs a S most out So fx) (hc : Chg NoS w w') : Pk w' g gr bs a S most out So fx where
  blk := h.blk.chg hc (fun h => h)
  rd := ⟨h.rd.1.chg hc (fun h => h), own_chg h.rd.2 hc (fun _ _ h => h)⟩
  own := own_chg h.own hc (fun _ _ h => h)
  sep := h.sep
  fix := h.fix.imp id (fun ⟨c, h1, h2⟩ => ⟨c, h1, h2.news hc⟩)
  le := h.le
  len := h.len
  byt := h.byt
  mst := h.mst
  ole := h.ole
theorem Pk.drewN (h : Pk w g gr bs a S most out So fx) (n : Nat) : Pk (w.drewN n) g gr bs a S most out So fx := h.news ((Chg.refl _ _).drewN n)
theorem Pk.ne (h : Pk w g gr bs a S most out So fx) : g ≠ gr := Blk.ne_ h.blk h.rd.1 (by decide)
theorem Pk.c0 (h : Pk w g gr bs a S most out So fx) : w.cell? ⟨g, 0, none⟩ = some (.pointer (some ⟨gr, 0, none⟩)) := h.blk.cell 0
theorem Pk.c1 (h : Pk w g gr bs a S most out So fx) : w.cell? ⟨g, 1, none⟩ = some (.int .i64 most) := h.blk.cell 1
theorem Pk.c2 (h : Pk w g gr bs a S most out So fx) : w.cell? ⟨g, 2, none⟩ = some So := h.blk.cell 2
theorem Pk.c3 (h : Pk w g gr bs a S most out So fx) : w.cell? ⟨g, 3, none⟩ = some fx := h.blk.cell 3
/-- Only the reader has gone on. -/
theorem Pk.go (h : Pk w g gr bs a S most out So fx) {b : Nat} (hb : b ≤ 8 * bs.length) (hr : Rd w' gr false bs b S) (hc : Chg (fun i => i = gr) w w') : Pk w' g gr bs b S most out So fx where
  blk := h.blk.chg hc (fun e => h.ne e)
  rd := hr
  own := own_chg h.own hc (fun i hi e => own_ne_blk h.own h.rd.1 (by decide) (by rw [hi, e]))
  sep := h.sep
  fix := h.fix.imp id (fun ⟨c, h1, h2⟩ => ⟨c, h1, h.cd h2 (hc.mono (fun _ _ e => .inr (.inl e)))⟩)
  le := hb
  len := h.len
  byt := h.byt
  mst := h.mst
  ole := h.ole
theorem mv_gr {g gr : Nat} {So : Value} (hc : Chg (fun i => i = gr) w w') : Chg (KP g gr So) w w' := hc.mono (fun _ _ e => .inr (.inl e))
end

/-- Behind the reading of n bits: their number, or that there are not so many. -/
def GotN (w : World) (g gr : Nat) (bs : List Nat) (a : Nat) (S : Value) (most : Nat) (out : List Nat) (So fx : Value) (n : Nat) (e : Ending) (w' : World) : Prop :=
  ∃ (x b : Nat) (k : Int), e = .returned (.tuple #[.int .u32 (x : Nat), .int .i64 k]) ∧ Pk w' g gr bs b S most out So fx ∧ Mv g gr w So w' So ∧ x < 2 ^ n ∧
    ((k = 0 ∧ b = a + n ∧ a + n ≤ 8 * bs.length ∧ x = numAt false bs a n) ∨ (k = 10 ∧ b = a ∧ x = 0 ∧ 8 * bs.length < a + n))

theorem pget (w : World) (g gr a n most : Nat) (bs out : List Nat) (S So fx : Value) (hP : Pk w g gr bs a S most out So fx) (hn : n ≤ 32) :
    Calls Try.prog 31 #[.pointer (some ⟨gr, 0, none⟩), .int .i64 n] w (GotN w g gr bs a S most out So fx n) := by
  by_cases h : a + n ≤ 8 * bs.length
  · refine (get_ok gr a n false bs S w hP.rd (by have := hP.len; omega) hP.byt hn h).mono ?_
    rintro e w' ⟨rfl, h1, h2⟩
    exact ⟨_, _, 0, rfl, hP.go h h1 h2, Mv.of (mv_gr h2), obf_lt _ _, .inl ⟨rfl, rfl, h, rfl⟩⟩
  · refine (get_cut gr a n false bs S w hP.rd (by have := hP.len; omega) hP.le hn (by have := hP.le; omega)).mono ?_
    rintro e w' ⟨rfl, m, rfl⟩
    exact ⟨0, a, 10, rfl, hP.drewN m, (Mv.refl _ _ _ _).drewN m, Nat.two_pow_pos n, .inr ⟨rfl, rfl, rfl, by omega⟩⟩

/-- Behind the reading of a symbol. -/
def GotS (w : World) (g gr : Nat) (bs : List Nat) (a : Nat) (S : Value) (most : Nat) (out : List Nat) (So fx : Value) (ls : List Int) (e : Ending) (w' : World) : Prop :=
  ∃ (s m : Nat) (k : Int), e = .returned (.tuple #[.int .i64 s, .int .i64 k]) ∧ Out ls (leftBits false bs a) s m k ∧ Pk w' g gr bs (a + m) S most out So fx ∧ Mv g gr w So w' So ∧ s < 320 ∧ (k = 0 → 0 < m ∧ s < ls.length)

theorem psym (w : World) (g gr a most t : Nat) (bs out : List Nat) (ls : List Int) (S So fx : Value) (hP : Pk w g gr bs a S most out So fx) (hM : May ls) (hT : Tb w t ls) :
    Calls Try.prog 55 #[.pointer (some ⟨t, 0, none⟩), .pointer (some ⟨gr, 0, none⟩)] w (GotS w g gr bs a S most out So fx ls) := by
  refine (tget_any t gr a false bs ls S w hM hT hP.rd (by have := hP.len; omega) hP.byt hP.le (hT.ne_blk hP.rd.1 (by decide)) (hT.ne_own hP.rd.2 (by decide)) (own_ne_blk hP.rd.2 hP.rd.1 (by decide))).mono ?_
  rintro e w' ⟨s, m, k, rfl, ho, hr, hc⟩
  have hle := ho.le
  rw [leftBits_len] at hle
  have hs : (k = 0 → 0 < m ∧ s < ls.length) ∧ s < 320 := by
    cases ho with
    | ok _ _ h h0 =>
      have h1 := (List.getElem?_eq_some_iff.1 h.2.2.1).1
      have h2 := hM.2.1
      exact ⟨fun _ => ⟨Nat.pos_of_ne_zero h.1, h1⟩, by omega⟩
    | cut _ _ => exact ⟨fun h => (by cases h), by omega⟩
    | code _ _ => exact ⟨fun h => (by cases h), by omega⟩
  exact ⟨s, m, k, rfl, ho, hP.go (by have := hP.le; omega) hr hc, Mv.of (mv_gr hc), hs.2, hs.1⟩

/-- Behind a symbol's number with its bits. -/
def GotM (w : World) (g gr : Nat) (bs : List Nat) (a : Nat) (S : Value) (most : Nat) (out : List Nat) (So fx : Value) (number n : Nat) (e : Ending) (w' : World) : Prop :=
  ∃ (y b : Nat) (k : Int), e = .returned (.tuple #[.int .i64 y, .int .i64 k]) ∧ Pk w' g gr bs b S most out So fx ∧ Mv g gr w So w' So ∧ y < number + 2 ^ n ∧
    ((k = 0 ∧ b = a + n ∧ a + n ≤ 8 * bs.length ∧ y = number + numAt false bs a n) ∨ (k = 10 ∧ b = a ∧ 8 * bs.length < a + n))

theorem pmore (w : World) (g gr a n number most : Nat) (bs out : List Nat) (S So fx : Value) (hP : Pk w g gr bs a S most out So fx) (hn : n ≤ 16) (hu : number ≤ 100000) :
    Calls Try.prog 52 #[.pointer (some ⟨g, 0, none⟩), .int .i64 number, .int .i64 n, .bool true] w (GotM w g gr bs a S most out So fx number n) := by
  have c0 := hP.c0
  have HG := keepf (pget w g gr a n most bs out S So fx hP (by omega))
  have hp : 2 ^ n ≤ 2 ^ 16 := Nat.pow_le_pow_right (by decide) hn
  have HPP := keepf hp
  clear hP hp
  go_enter Try.func52, Try.ntmps52
  go_wp2_with (go_at_call 31; refine HG.out.mono ?_; rintro e w1 ⟨x, b, k, rfl, hP1, hm1, hx, hk⟩; have hx2 : x < 65536 := (by have := HPP.out; omega); have HX := keepf hx; have HP1 := keepf hP1; have HM1 := keepf hm1; have HK := keepf hk; clear hx hP1 hm1 hk)
  go_ret2
  refine ⟨number + x, b, k, by congr 1, HP1.out, HM1.out, by have := HX.out; omega, ?_⟩
  rcases HK.out with ⟨h1, h2, h3, h4⟩ | ⟨h1, h2, h3, h4⟩
  · exact .inl ⟨h1, h2, h3, by rw [h4]⟩
  · exact .inr ⟨h1, h2, h4⟩

theorem pmore_no (g : Nat) (number n : Int) (w : World) :
    Calls Try.prog 52 #[.pointer (some ⟨g, 0, none⟩), .int .i64 number, .int .i64 n, .bool false] w fun e w' => e = .returned (.tuple #[.int .i64 0, .int .i64 11]) ∧ w = w' := by
  go_enter Try.func52, Try.ntmps52
  go_wp2_with fail
  go_ret2
  exact ⟨rfl, rfl⟩
end Go.Proofs.Ytbdnhhhagpgibaa
