/- Merged by program: Pd StoredP Tell Putter. -/
import Derived.Test.YtmmilchmnimjoaaGreatN02
import Derived.Test.YtmmilchmnimjoaaGreatN07
import Derived.Test.YtmmilchmnimjoaaGreatN12
import Derived.Test.YtmmilchmnimjoaaGreatN13
import Derived.Shelf.Small.Bits
import Derived.Laws.BitsAllLaws
import Derived.Deep.RegionHeld3
/- What is packed so far: its blocks; numbers that are put. -/
namespace Go.Proofs.YtmmilchmnimjoaaGreat
open Go.RowKit
set_option linter.unusedVariables false
set_option linter.unusedSimpArgs false
def FixOk (w : World) (fs fd : Value) : Prop :=
  (fs = .pointer none ∧ fd = .pointer none) ∨ ∃ a b, fs = .pointer (some ⟨a, 0, none⟩) ∧ fd = .pointer (some ⟨b, 0, none⟩) ∧ Tb w a fixS ∧ Tb w b fixD
theorem FixOk.chg {w w' : World} {fs fd : Value} {T : Nat → Prop} (h : FixOk w fs fd) (hc : Chg T w w') (hT : ∀ k ls, Tb w k ls → ¬ T k) : FixOk w' fs fd := by
  rcases h with h | ⟨a, b, h1, h2, h3, h4⟩
  · exact .inl h
  · exact .inr ⟨a, b, h1, h2, h3.chg hc (hT a _ h3), h4.chg hc (hT b _ h4)⟩
structure PdF (w : World) (B g gw : Nat) (L : List Bool) (S fs fd : Value) : Prop where
  blk : Blk w g 107 #[.pointer (some ⟨gw, 0, none⟩), .int .i64 0, fs, fd]
  wr : Wr w gw false L S
  fix : FixOk w fs fd
  bg : B ≤ g
  bw : B ≤ gw
  bs : ∀ i, S.ownBlock = some i → B ≤ i
def Pd (w : World) (B g gw : Nat) (L : List Bool) (S : Value) : Prop := ∃ fs fd, PdF w B g gw L S fs fd
def PS (g gw : Nat) (S : Value) : Nat → Prop := fun i => i = g ∨ WS gw S i
structure PMv (g gw : Nat) (w : World) (S : Value) (w' : World) (S' : Value) : Prop where
  c : Chg (PS g gw S) w w'
  f : ∀ i, WS gw S' i → WS gw S i ∨ w.heap.size ≤ i
theorem PMv.refl (g gw : Nat) (w : World) (S : Value) : PMv g gw w S w S := ⟨Chg.refl _ _, fun i h => .inl h⟩
theorem PMv.trans {g gw : Nat} {w w1 w2 : World} {S S1 S2 : Value} (h : PMv g gw w S w1 S1) (k : PMv g gw w1 S1 w2 S2) : PMv g gw w S w2 S2 := by
  refine ⟨h.c.trans k.c (fun i hi hT => ?_), fun i hi => ?_⟩
  · rcases hT with e | e
    · exact .inl e
    · rcases h.f i e with h1 | h1
      · exact .inr h1
      · omega
  · rcases k.f i hi with h1 | h1
    · exact h.f i h1
    · exact .inr (Nat.le_trans h.c.size h1)
theorem PMv.drewN {g gw : Nat} {w w1 : World} {S S1 : Value} (h : PMv g gw w S w1 S1) (n : Nat) : PMv g gw w S (w1.drewN n) S1 := ⟨h.c.drewN n, h.f⟩
theorem PMv.news {g gw : Nat} {w w1 : World} {S : Value} (h : Chg NoS w w1) : PMv g gw w S w1 S := ⟨h.mono (fun _ _ e => e.elim), fun i e => .inl e⟩
section
variable {w w' : World} {B g gw : Nat} {L : List Bool} {S S' fs fd : Value}
theorem PdF.pd (h : PdF w B g gw L S fs fd) : Pd w B g gw L S := ⟨fs, fd, h⟩
theorem PdF.ne (h : PdF w B g gw L S fs fd) {k : Nat} {t : TypeId} {cs : Array Value} (hb : Blk w k t cs) (h1 : t ≠ 107) (h2 : t ≠ 131) (h3 : t ≠ 5) : ¬ PS g gw S k := by
  rintro (e | e | e)
  · subst e; exact Blk.ne_ hb h.blk h1 rfl
  · subst e; exact Blk.ne_ hb h.wr.1 h2 rfl
  · exact own_ne_blk h.wr.2 hb (fun e => h3 e.symm) e
theorem PdF.ne_tb (h : PdF w B g gw L S fs fd) {k : Nat} {ls : List Int} (hb : Tb w k ls) : ¬ PS g gw S k := by
  obtain ⟨T, Sy, hB, _⟩ := hb
  exact h.ne hB (by decide) (by decide) (by decide)
theorem PdF.no (h : PdF w B g gw L S fs fd) (hc : Chg NoS w w') : PdF w' B g gw L S fs fd :=
  ⟨h.blk.chg hc (fun e => e), h.wr.chg hc (fun _ _ e => e), h.fix.chg hc (fun _ _ _ e => e), h.bg, h.bw, h.bs⟩
theorem Pd.no (h : Pd w B g gw L S) (hc : Chg NoS w w') : Pd w' B g gw L S := by
  obtain ⟨fs, fd, h⟩ := h
  exact (h.no hc).pd
theorem Pd.drewN (h : Pd w B g gw L S) (n : Nat) : Pd (w.drewN n) B g gw L S := h.no ((Chg.refl _ _).drewN n)
theorem PMv.blk (hp : Pd w B g gw L S) (hm : PMv g gw w S w' S') {k : Nat} {t : TypeId} {cs : Array Value} (hb : Blk w k t cs) (h1 : t ≠ 107) (h2 : t ≠ 131) (h3 : t ≠ 5) : Blk w' k t cs := by
  obtain ⟨fs, fd, hp⟩ := hp
  exact hb.chg hm.c (hp.ne hb h1 h2 h3)
theorem PMv.tb (hp : Pd w B g gw L S) (hm : PMv g gw w S w' S') {k : Nat} {ls : List Int} (hb : Tb w k ls) : Tb w' k ls := by
  obtain ⟨fs, fd, hp⟩ := hp
  exact hb.chg hm.c (hp.ne_tb hb)
theorem PMv.own (hp : Pd w B g gw L S) (hm : PMv g gw w S w' S') {base : Nat} {e : TypeId} {size n : Nat} {v : Value} {xs : List Value} (ho : w.ownsRow base e size v n xs) (h1 : e ≠ 107) (h2 : e ≠ 131) (h3 : e ≠ 5) : w'.ownsRow base e size v n xs := by
  obtain ⟨fs, fd, hp⟩ := hp
  refine own_chg ho hm.c (fun k hk => ?_)
  rintro (e1 | e1 | e1)
  · subst e1; exact own_ne_blk ho hp.blk h1 hk
  · subst e1; exact own_ne_blk ho hp.wr.1 h2 hk
  · rcases ho.2 with ⟨rfl, _⟩ | ⟨g', cap, cur, rfl, _, hh, _⟩
    · simp [Value.ownBlock] at hk
    · have e2 : g' = k := by simpa [Value.ownBlock] using hk
      subst e2
      exact own_ne_blk hp.wr.2 (t := e) hh (fun e => h3 e.symm) e1
theorem PMv.src (hp : Pd w B g gw L S) (hm : PMv g gw w S w' S') {size n c : Nat} {A : Option Addr} {xs : List Value} (hs : Src w size A n c xs) (hA : ∀ ad, A = some ad → xs ≠ [] → ad.block < B) : Src w' size A n c xs := by
  obtain ⟨fs, fd, hp⟩ := hp
  refine ⟨hs.1, hs.2.1, fun ad hA' j u hu => ?_⟩
  have h1 := hs.2.2 ad hA' j u hu
  have hb : (ad.add j).block = ad.block := by unfold Addr.add; split <;> rfl
  rw [hm.c.cell (cell_lt h1) (by
    have := hA ad hA' (fun e => by subst e; simp at hu)
    rw [hb]
    rintro (e | e | e)
    · have := hp.bg; omega
    · have := hp.bw; omega
    · have := hp.bs _ e; omega)]
  exact h1
theorem Pd.bs_new (hp : Pd w B g gw L S) (hf : ∀ i, WS gw S' i → WS gw S i ∨ w.heap.size ≤ i) : ∀ i, S'.ownBlock = some i → B ≤ i := by
  obtain ⟨fs, fd, hp⟩ := hp
  intro i hi
  rcases hf i (.inr hi) with (h1 | h1) | h1
  · have := hp.bw; omega
  · exact hp.bs i h1
  · have := hp.bg; have := hp.blk.lt; omega
theorem PdF.put {L' : List Bool} (hp : PdF w B g gw L S fs fd) (hw : Wr w' gw false L' S') (hc : Chg (WS gw S) w w') (hf : ∀ i, WS gw S' i → WS gw S i ∨ w.heap.size ≤ i) : PdF w' B g gw L' S' fs fd ∧ PMv g gw w S w' S' := by
  have hg : ¬ WS gw S g := by
    rintro (e | e)
    · exact Blk.ne_ (by rw [← e]; exact hp.blk) hp.wr.1 (by decide) rfl
    · exact own_ne_blk hp.wr.2 hp.blk (by decide) e
  exact ⟨⟨hp.blk.chg hc hg, hw, hp.fix.chg hc (fun k ls hk e => hp.ne_tb hk (.inr e)), hp.bg, hp.bw, hp.pd.bs_new hf⟩, hc.mono (fun i _ e => .inr e), hf⟩
end
def PTo (w : World) (B g gw : Nat) (S : Value) (L' : List Bool) (e : Ending) (w' : World) : Prop :=
  e = .returned (.tuple #[]) ∧ ∃ S', Pd w' B g gw L' S' ∧ PMv g gw w S w' S'
theorem keep_ok (B g gw : Nat) (L : List Bool) (S fs fd : Value) (w : World) (hp : PdF w B g gw L S fs fd) :
    Calls Tryz.prog 124 #[.pointer (some ⟨g, 0, none⟩), .int .i64 0] w fun e w' => e = .returned (.tuple #[]) ∧ PdF w' B g gw L S fs fd ∧ PMv g gw w S w' S := by
  have c1 := hp.blk.cell 1
  have f1 := hp.blk.frozen 1
  simp at c1
  have HP := keepf hp
  have hch : Chg (fun i => i = g) w (w.setCell ⟨g, 1, none⟩ (.int .i64 0)) := (Chg.refl (fun i => i = g) w).setCell (p := ⟨g, 1, none⟩) (fun _ => rfl) _
  have HCH := keepf hch
  clear hp hch
  go_enter Tryz.func124, Tryz.ntmps124
  go_wp2_with fail
  go_end0
  have hp := HP.out
  have hg : ¬ WS gw S g := by
    rintro (e | e)
    · exact Blk.ne_ (by rw [← e]; exact hp.blk) hp.wr.1 (by decide) rfl
    · exact own_ne_blk hp.wr.2 hp.blk (by decide) e
  refine ⟨rfl, ⟨?_, hp.wr.chg HCH.out (fun i hi e => hg (by subst e; exact hi)), hp.fix.chg HCH.out (fun k ls hk e => hp.ne_tb hk (.inl e)), hp.bg, hp.bw, hp.bs⟩, HCH.out.mono (fun i _ e => .inl e), fun i hi => .inl hi⟩
  have := hp.blk.set_ 1 (.int .i64 0)
  simpa using this
theorem pnum_ok (B g gw : Nat) (L : List Bool) (S : Value) (x n : Nat) (w : World) (hp : Pd w B g gw L S) (hn : n ≤ 32) (hx : x < 2 ^ n) (hL : L.length ≤ 1000000000) :
    Calls Tryz.prog 107 #[.pointer (some ⟨g, 0, none⟩), .int .i64 (x : Nat), .int .i64 (n : Nat)] w (PTo w B g gw S (L ++ numBits false x n)) := by
  obtain ⟨fs, fd, hp⟩ := hp
  have c0 := hp.blk.cell 0
  simp at c0
  have hx32 : x < 4294967296 := by
    have : 2 ^ n ≤ 2 ^ 32 := Nat.pow_le_pow_right (by decide) hn
    omega
  have HPT := keepf (put_ok gw false L S x n w hp.wr (by omega) hn hx)
  have HP := keepf hp
  have hw : IntKind.u32.wrap (x : Int) = (x : Int) := by rw [IntKind.wrap_u32]; omega
  clear hp
  go_enter Tryz.func107, Tryz.ntmps107
  go_wp2_with (first
    | (go_at_call 125; refine HPT.out.mono ?_; intro e w2 hq; obtain ⟨rfl, S2, hw2, hc2, hf2⟩ := hq.got; have hq2 := HP.out.put hw2 hc2 hf2; have HP2 := keepf hq2.1; have HM2 := keepf hq2.2; have HK := keepf (keep_ok B g gw _ S2 fs fd w2 hq2.1); clear hq hw2 hc2 hf2 hq2)
    | (go_at_call 124; refine HK.out.mono ?_; rintro e w3 ⟨rfl, hp3, hm3⟩; have HP3 := keepf hp3; have HM3 := keepf (HM2.out.trans hm3); clear hp3 hm3))
  go_end0
  exact ⟨rfl, S2, HP3.out.pd, HM3.out⟩
def headBits (last : Bool) (k : Nat) : List Bool := numBits false last.toNat 1 ++ numBits false k 2
theorem head_ok (B g gw : Nat) (L : List Bool) (S : Value) (k : Nat) (last : Bool) (w : World) (hp : Pd w B g gw L S) (hk : k < 4) (hL : L.length ≤ 900000000) :
    Calls Tryz.prog 91 #[.pointer (some ⟨g, 0, none⟩), .int .i64 (k : Nat), .bool last] w (PTo w B g gw S (L ++ headBits last k)) := by
  have HN := keepf (pnum_ok B g gw L S last.toNat 1 w hp (by omega) (by cases last <;> decide) (by omega))
  have hl : (last.toNat : Int) = if last then 1 else 0 := by cases last <;> rfl
  have e1 : L ++ headBits last k = (L ++ numBits false last.toNat 1) ++ numBits false k 2 := by rw [headBits, List.append_assoc]
  rw [e1]
  have hlen : (L ++ numBits false last.toNat 1).length ≤ 1000000000 := by simp [numBits_length]; omega
  generalize L ++ numBits false last.toNat 1 = L1 at *
  have HL := keepf hlen
  clear e1 hlen hp hL
  cases last with
  | true =>
    go_enter Tryz.func91, Tryz.ntmps91
    go_upto_region 4 with (go_at_call 107; refine HN.out.mono ?_; rintro e w2 ⟨rfl, S2, hp2, hm2⟩; have HM2 := keepf hm2; have HN2 := keepf (pnum_ok B g gw L1 S2 k 2 w2 hp2 (by omega) (by omega) HL.out); clear hp2 hm2)
    go_wp2_with (go_at_call 107; refine HN2.out.mono ?_; rintro e w3 ⟨rfl, S3, hp3, hm3⟩; have HP3 := keepf hp3; have HM3 := keepf (HM2.out.trans hm3); clear hp3 hm3)
    go_end0
    exact ⟨rfl, S3, HP3.out, HM3.out⟩
  | false =>
    go_enter Tryz.func91, Tryz.ntmps91
    go_upto_region 4 with (go_at_call 107; refine HN.out.mono ?_; rintro e w2 ⟨rfl, S2, hp2, hm2⟩; have HM2 := keepf hm2; have HN2 := keepf (pnum_ok B g gw L1 S2 k 2 w2 hp2 (by omega) (by omega) HL.out); clear hp2 hm2)
    go_wp2_with (go_at_call 107; refine HN2.out.mono ?_; rintro e w3 ⟨rfl, S3, hp3, hm3⟩; have HP3 := keepf hp3; have HM3 := keepf (HM2.out.trans hm3); clear hp3 hm3)
    go_end0
    exact ⟨rfl, S3, HP3.out, HM3.out⟩
end Go.Proofs.YtmmilchmnimjoaaGreat
/- stored: bytes as they are, by blocks. -/
namespace Go.Proofs.YtmmilchmnimjoaaGreat
open Go.RowKit
set_option linter.unusedVariables false
set_option linter.unusedSimpArgs false
theorem xor_i64 (x : Nat) (hx : x < 65536) : bits BinOp.xor IntKind.i64 (x : Int) 65535 = ((x ^^^ 65535 : Nat) : Int) := by
  have h1 : x ^^^ 65535 < 2 ^ 16 := Nat.xor_lt_two_pow (by omega) (by decide)
  have e : ∀ y : Nat, y < 65536 → (BitVec.ofInt 64 (y : Int)).toNat = y := fun y hy => by
    rw [BitVec.toNat_ofInt]
    omega
  show IntKind.i64.wrap ((BitVec.ofInt 64 (x : Int) ^^^ BitVec.ofInt 64 ((65535 : Nat) : Int)).toNat : Int) = _
  rw [BitVec.toNat_xor, e x hx, e 65535 (by omega), IntKind.wrap_i64]
  omega
def byteBits (bs : List Nat) : List Bool := bs.flatMap fun x => numBits false x 8
theorem byteBits_len (bs : List Nat) : (byteBits bs).length = 8 * bs.length := by
  induction bs with
  | nil => rfl
  | cons b bs ih =>
    have : byteBits (b :: bs) = numBits false b 8 ++ byteBits bs := by simp [byteBits]
    rw [this, List.length_append, ih, numBits_length, List.length_cons]
    omega
def alignL (L : List Bool) : List Bool := L ++ padOf L.length
def blockL (last : Bool) (bs : List Nat) (L : List Bool) : List Bool :=
  alignL (L ++ headBits last 0) ++ numBits false bs.length 16 ++ numBits false (bs.length ^^^ 65535) 16 ++ byteBits bs
def storedL (last : Bool) (bs : List Nat) (L : List Bool) : List Bool :=
  if h : bs.length ≤ 65535 then blockL last bs L else storedL last (bs.drop 65535) (blockL false (bs.take 65535) L)
termination_by bs.length
decreasing_by simp; omega
theorem alignL_len (L : List Bool) : (alignL L).length = (L.length + 7) / 8 * 8 := by
  simp [alignL, padOf]
  omega
theorem headBits_len (last : Bool) (k : Nat) : (headBits last k).length = 3 := by simp [headBits, numBits_length]
theorem blockL_len (last : Bool) (bs : List Nat) (L : List Bool) : (blockL last bs L).length = (L.length + 10) / 8 * 8 + 32 + 8 * bs.length := by
  rw [blockL, List.length_append, List.length_append, List.length_append, alignL_len, List.length_append, headBits_len, numBits_length, numBits_length, byteBits_len]
theorem palign_ok (B g gw : Nat) (L : List Bool) (S : Value) (w : World) (hp : Pd w B g gw L S) (hL : L.length ≤ 1000000000) :
    Calls Tryz.prog 106 #[.pointer (some ⟨gw, 0, none⟩)] w fun e w' => e = .returned (.tuple #[]) ∧ Pd w' B g gw (alignL L) S ∧ PMv g gw w S w' S := by
  obtain ⟨fs, fd, hp⟩ := hp
  refine (align_any gw false L S w hp.wr (by omega)).mono ?_
  rintro e w' ⟨rfl, hw, hc⟩
  obtain ⟨h1, h2⟩ := hp.put hw (hc.mono (fun i _ e => .inl e)) (fun i hi => .inl hi)
  exact ⟨rfl, h1.pd, h2⟩
theorem ucells_get {bs : List Nat} {j x : Nat} (h : bs[j]? = some x) : (ucells bs)[j]? = some (.int .u8 (x : Nat)) := by simp [ucells, h]
theorem ucells_len (bs : List Nat) : (ucells bs).length = bs.length := by simp [ucells]
set_option maxHeartbeats 1000000 in
set_option maxRecDepth 100000 in
theorem stored_ok (B g gw : Nat) (L : List Bool) (S : Value) (last : Bool) (bs : List Nat) (A : Option Addr) (c : Nat) (w : World) (hp : Pd w B g gw L S) (hS : Src w 1 A bs.length c (ucells bs)) (hc : bs.length ≤ c)
    (hb : ∀ x ∈ bs, x < 256) (hA : ∀ ad, A = some ad → bs ≠ [] → ad.block < B) (hL : L.length + 16 * bs.length + 100 ≤ 900000000) :
    Calls Tryz.prog 89 #[.pointer (some ⟨g, 0, none⟩), .slice A bs.length c, .bool last] w (PTo w B g gw S (storedL last bs L)) := by
  obtain ⟨F, hF⟩ : ∃ F, F = storedL last bs L := ⟨_, rfl⟩
  rw [← hF]
  have HF := keepf hF.symm
  have HP := keepf hp
  have HS := keepf hS
  have HB := keepf hb
  have HA := keepf hA
  obtain ⟨n, hn⟩ : ∃ n, n = bs.length := ⟨_, rfl⟩
  rw [← hn] at hc hL HS ⊢
  have HN := keepf hn
  clear hF hp hS hb hA hn
  go_enter Tryz.func89, Tryz.ntmps89
  go_wp2_with fail
  go_loopw [1, 6] (fun va vm wr => ∃ (xs : List Nat) (A1 : Option Addr) (c1 : Nat) (more : Bool) (L1 : List Bool) (S1 : Value), va = .slice A1 xs.length c1 ∧ vm = .bool more ∧ xs.length ≤ n ∧ xs.length ≤ c1 ∧ L1.length + 16 * xs.length + (if more then 100 else 0) ≤ 900000000 ∧
    Hid (Src w 1 A1 xs.length c1 (ucells xs)) ∧ Hid (∀ ad, A1 = some ad → xs ≠ [] → ad.block < B) ∧ Hid (∀ x ∈ xs, x < 256) ∧ Hid (Pd wr B g gw L1 S1) ∧ Hid (PMv g gw w S wr S1) ∧ Hid (if more then storedL last xs L1 = F else L1 = F))
    (fun va vm _ => (match va with | .slice _ k _ => k | _ => 0) + (match vm with | .bool b => b.toNat | _ => 0))
  case atStart => exact ⟨bs, A, c, true, L, S, by rw [HN.out], rfl, by rw [HN.out]; exact Nat.le_refl _, by rw [← HN.out]; exact hc, by rw [← HN.out]; exact hL, by rw [← HN.out]; exact HS.out, HA.out, HB.out, HP.out, PMv.refl _ _ _ _, HF.out⟩
  case round =>
    obtain ⟨xs, A1, c1, more, L1, S1, rfl, rfl, hxn, hxc, hL1, HS1, HA1, HB1, HP1, HM1, HE⟩ := hrel
    cases more with
    | false =>
      go_wp2_with fail
      go_end0
      have e : L1 = F := by simpa using HE.out
      subst e
      exact ⟨rfl, S1, HP1.out, HM1.out⟩
    | true =>
      obtain ⟨k, hk⟩ : ∃ k, k = xs.length := ⟨_, rfl⟩
      rw [← hk] at hxn hxc hL1 HS1 ⊢
      have HK := keepf hk
      clear hk
      simp only [if_true] at hL1
      go_upto_region 4 with fail
      obtain ⟨m, hm⟩ : ∃ m : Nat, m = min k 65535 := ⟨_, rfl⟩
      have hm1 : (m : Int) = min (k : Int) 65535 := by omega
      rw [← hm1]
      have HMM := keepf hm
      have hmk : m ≤ k ∧ m ≤ 65535 := by omega
      clear hm hm1
      have HHD := keepf (fun b => head_ok B g gw L1 S1 0 b wr HP1.out (by omega) (by omega))
      go_cut [] from 10 to 53 (fun wx => ∃ S2, Hid (Pd wx B g gw (L1 ++ headBits (last && decide (m = k)) 0) S2) ∧ Hid (PMv g gw wr S1 wx S2))
      case first =>
        by_cases hmk2 : m = k
        · have d1 : ((m : Int) == (k : Int)) = true := by simp; omega
          have HD2 := keepf (show decide (m = k) = true by simp; omega)
          clear hmk2
          cases last with
          | true =>
            go_wp2_with (go_at_call 91; refine (HHD.out _).mono ?_; rintro e w2 ⟨rfl, S2, hp2, hm2⟩; have HP2 := keepf hp2; have HM2 := keepf hm2; clear hp2 hm2)
            go_meet
            refine ⟨S2, ?_, HM2.out⟩
            rw [HD2.out]
            exact HP2.out
          | false =>
            go_wp2_with (go_at_call 91; refine (HHD.out _).mono ?_; rintro e w2 ⟨rfl, S2, hp2, hm2⟩; have HP2 := keepf hp2; have HM2 := keepf hm2; clear hp2 hm2)
            go_meet
            refine ⟨S2, ?_, HM2.out⟩
            rw [HD2.out]
            exact HP2.out
        · have d1 : ((m : Int) == (k : Int)) = false := by simp; omega
          have HD2 := keepf (show decide (m = k) = false by simp; omega)
          clear hmk2
          cases last with
          | true =>
            go_wp2_with (go_at_call 91; refine (HHD.out _).mono ?_; rintro e w2 ⟨rfl, S2, hp2, hm2⟩; have HP2 := keepf hp2; have HM2 := keepf hm2; clear hp2 hm2)
            go_meet
            refine ⟨S2, ?_, HM2.out⟩
            rw [HD2.out]
            exact HP2.out
          | false =>
            go_wp2_with (go_at_call 91; refine (HHD.out _).mono ?_; rintro e w2 ⟨rfl, S2, hp2, hm2⟩; have HP2 := keepf hp2; have HM2 := keepf hm2; clear hp2 hm2)
            go_meet
            refine ⟨S2, ?_, HM2.out⟩
            rw [HD2.out]
            exact HP2.out
      case rest =>
        obtain ⟨S2, HP2, HM2⟩ := hcut
        obtain ⟨b0, hb0⟩ : ∃ b0, b0 = (last && decide (m = k)) := ⟨_, rfl⟩
        rw [← hb0] at HP2
        have HB0 := keepf hb0
        clear hb0
        obtain ⟨L2, hL2⟩ : ∃ L2, L2 = L1 ++ headBits b0 0 := ⟨_, rfl⟩
        rw [← hL2] at HP2
        have hl2 : L2.length = L1.length + 3 := by rw [hL2, List.length_append, headBits_len]
        have HL2 := keepf hL2
        clear hL2
        have c0 : wc.cell? ⟨g, 0, none⟩ = some (.pointer (some ⟨gw, 0, none⟩)) := by
          obtain ⟨fs, fd, h⟩ := HP2.out
          have := h.blk.cell 0
          simpa using this
        have HAL := keepf (palign_ok B g gw L2 S2 wc HP2.out (by omega))
        go_upto_region 6 with (go_at_call 106; refine HAL.out.mono ?_; rintro e w3 ⟨rfl, hp3, hm3⟩; have HP3 := keepf hp3; have HM3 := keepf (HM2.out.trans hm3); clear hp3 hm3)
        have hl3 := alignL_len L2
        have HN1 := keepf (pnum_ok B g gw (alignL L2) S2 m 16 w3 HP3.out (by omega) (by omega) (by omega))
        clear c0
        go_upto_region 7 with (go_at_call 107; refine HN1.out.mono ?_; rintro e w4 ⟨rfl, S4, hp4, hm4⟩; have HP4 := keepf hp4; have HM4 := keepf (HM3.out.trans hm4); clear hp4 hm4)
        have hx := xor_i64 m (by omega)
        obtain ⟨y, hy⟩ : ∃ y, y = m ^^^ 65535 := ⟨_, rfl⟩
        rw [← hy] at hx
        have hy2 : y < 2 ^ 16 := by rw [hy]; exact Nat.xor_lt_two_pow (by omega) (by decide)
        have HY := keepf hy
        have HN2 := keepf (pnum_ok B g gw _ S4 y 16 w4 HP4.out (by omega) hy2 (by simp [numBits_length]; omega))
        clear hy
        go_upto_region 8 with (go_at_call 107; refine HN2.out.mono ?_; rintro e w5 ⟨rfl, S5, hp5, hm5⟩; have HP5 := keepf hp5; have HM5 := keepf (HM1.out.trans (HM4.out.trans hm5)); clear hp5 hm5)
        clear hx
        obtain ⟨L5, hL5⟩ : ∃ L5, L5 = alignL L2 ++ numBits false m 16 ++ numBits false y 16 := ⟨_, rfl⟩
        rw [← hL5] at HP5
        have hl5 : L5.length = (L2.length + 7) / 8 * 8 + 32 := by rw [hL5]; simp [numBits_length, hl3]
        have HL5 := keepf hL5
        clear hL5 hl3 HN1 HN2 HAL
        have hs1 := fun W => toB A1 k c1 m (by omega) W
        go_wp2_with fail
        go_loopw [42] (fun i wr2 => ∃ (j : Nat) (S6 : Value), j ≤ m ∧ i = .int .i64 (j : Nat) ∧ Hid (Pd wr2 B g gw (L5 ++ byteBits (xs.take j)) S6) ∧ Hid (PMv g gw w S wr2 S6)) (fun i _ => m - (intOf i).toNat)
        case atStart => exact ⟨0, S5, Nat.zero_le _, rfl, by have h := HP5.out; rw [← List.append_nil L5] at h; exact h, HM5.out⟩
        case round =>
          obtain ⟨j, S6, hj, rfl, HP6, HM6⟩ := hrel
          by_cases hlt : j < m
          · obtain ⟨x, hx⟩ : ∃ x, xs[j]? = some x := ⟨_, List.getElem?_eq_getElem (by have := HK.out; omega)⟩
            have hxb := HB1.out x (List.mem_of_getElem? hx)
            have hSr := HM6.out.src HP.out HS1.out (fun ad had hne => HA1.out ad had (fun e => hne (by rw [e]; rfl)))
            obtain ⟨b, off, rfl, hcell⟩ := hSr.plain (by rw [ucells_len, ← HK.out]; omega)
            have cx := hcell j _ (ucells_get hx)
            have HX := keepf hx
            have hbl := byteBits_len (xs.take j)
            rw [List.length_take] at hbl
            have HN6 := keepf (pnum_ok B g gw _ S6 x 8 wr HP6.out (by omega) (by omega) (by rw [List.length_append]; omega))
            clear hx hSr hcell hbl
            go_wp2_with (go_at_call 107; refine HN6.out.mono ?_; rintro e w7 ⟨rfl, S7, hp7, hm7⟩; have HP7 := keepf hp7; have HM7 := keepf (HM6.out.trans hm7); clear hp7 hm7)
            go_roundw
            case rel =>
              refine ⟨j + 1, S7, by omega, by go_num, ?_, HM7.out⟩
              have h := HP7.out
              rw [List.append_assoc] at h
              have e : byteBits (xs.take (j + 1)) = byteBits (xs.take j) ++ numBits false x 8 := by rw [List.take_add_one, HX.out]; simp [byteBits]
              rw [e]
              exact h
            case measure => simp [intOf]; omega
          · obtain rfl : j = m := by omega
            have hs2 := fun W => fromB A1 k c1 j (by omega) W
            go_wp2_with fail
            go_roundw
            case rel =>
              have hk := HK.out
              have hmm := HMM.out
              have hbl : byteBits (xs.take j) = byteBits (xs.take j) := rfl
              have htl : (xs.take j).length = j := by rw [List.length_take]; omega
              have hL' : L5 ++ byteBits (xs.take j) = blockL b0 (xs.take j) L1 := by rw [blockL, htl, HL5.out, HL2.out, HY.out]
              have hll := blockL_len b0 (xs.take j) L1
              rw [htl] at hll
              have hP := HP6.out
              rw [hL'] at hP
              refine ⟨xs.drop j, cutA A1 j c1, c1 - j, decide (0 < k - j), blockL b0 (xs.take j) L1, S6, by rw [List.length_drop, ← hk], rfl, by rw [List.length_drop]; omega, by rw [List.length_drop]; omega, ?_, ?_, ?_, fun x hx => HB1.out x (List.mem_of_mem_drop hx), hP, HM6.out, ?_⟩
              · rw [hll, List.length_drop]
                by_cases hd : 0 < k - j
                · rw [if_pos (by simpa using hd)]
                  omega
                · rw [if_neg (by simpa using hd)]
                  omega
              · have h5 := src_cut HS1.out hxc (show j + (k - j) ≤ k by omega)
                rw [List.take_of_length_le (by rw [List.length_drop, ucells_len]; omega)] at h5
                rw [List.length_drop, ← hk]
                have e : ucells (xs.drop j) = (ucells xs).drop j := by simp [ucells]
                rw [e]
                exact h5
              · intro ad had hne
                obtain ⟨b, hb1, hb2⟩ := cutA_block had
                have := HA1.out b hb1 (fun e => hne (by rw [e]; simp))
                omega
              · have he := HE.out
                rw [if_pos (by simp), storedL] at he
                by_cases hd : k ≤ 65535
                · have e1 : j = k := by omega
                  have e2 : b0 = last := by rw [HB0.out, show decide (j = k) = true from by simpa using e1, Bool.and_true]
                  rw [dif_pos (by omega)] at he
                  rw [show decide (0 < k - j) = false from by simp; omega, e2, List.take_of_length_le (by omega)]
                  exact he
                · have e1 : j = 65535 := by omega
                  have e2 : b0 = false := by rw [HB0.out, show decide (j = k) = false from by simp; omega, Bool.and_false]
                  rw [dif_neg (by omega)] at he
                  rw [show decide (0 < k - j) = true from by simp; omega, e2, e1, if_pos rfl]
                  exact he
            case measure =>
              have hmm := HMM.out
              by_cases hd : 0 < k - j
              · simp [intOf, hd]; omega
              · simp [intOf, hd]; omega
end Go.Proofs.YtmmilchmnimjoaaGreat
/- tell: tokens' symbols, each told to a function value. -/
namespace Go.Proofs.YtmmilchmnimjoaaGreat
open Go.RowKit
set_option linter.unusedVariables false
set_option linter.unusedSimpArgs false
structure Ev where
  d : Bool
  s : Nat
  v : Nat
  n : Nat
def evT (t : Tk) : List Ev :=
  if t.l = 0 then [⟨false, t.b, 0, 0⟩]
  else [⟨false, 257 + lsym t.l.toNat, t.l.toNat - numL (lsym t.l.toNat), bitL (lsym t.l.toNat)⟩, ⟨true, dsym t.f.toNat, t.f.toNat - numD (dsym t.f.toNat), bitD (dsym t.f.toNat)⟩]
def evEnd : Ev := ⟨false, 256, 0, 0⟩
def evs (T : List Tk) : List Ev := T.flatMap evT ++ [evEnd]
def WellT (T : List Tk) : Prop := ∀ t ∈ T, t.b < 256 ∧ t.wellB = true
theorem runT_well {most : Int} : ∀ (T : List Tk) (out r : List Nat), runT most T out = .ok r → ∀ t ∈ T, t.wellB = true
  | [], _, _, _, t, ht => by cases ht
  | x :: T, out, r, h, t, ht => by
    rw [runT] at h
    split at h
    · rename_i he
      rcases List.mem_cons.1 ht with e | e
      · subst e; exact (err_ok he).1
      · exact runT_well T _ r h t e
    · cases h
theorem TokensOk.well {bs : List Nat} {T : List Tk} (h : TokensOk bs T) : WellT T := fun t ht => ⟨(h.good t ht).1, runT_well T [] bs h.run t ht⟩
def KeepT (W w' : World) : Prop := ∀ k cs, Blk W k 180 cs → Blk w' k 180 cs
def StepE (g : Nat) (lb : Array Value) (d : Bool) (all : List Ev) (J : List Ev → World → Prop) : Prop :=
  ∀ (ys : List Ev) (y : Ev) (zs : List Ev) (W : World), all = ys ++ y :: zs → y.d = d → J ys W →
    Calls Tryz.prog g (#[.int .i64 (y.s : Nat), .int .i64 (y.v : Nat), .int .i64 (y.n : Nat)] ++ lb) W fun e w' => e = .returned (.tuple #[]) ∧ J (ys ++ [y]) w' ∧ KeepT W w'
theorem kcells_at {T : List Tk} {k : Nat} {t : Tk} (h : T[k]? = some t) : (kcells T)[k * 3]? = some (.int .u8 (t.b : Nat)) ∧ (kcells T)[k * 3 + 1]? = some (.int .i64 t.l) ∧ (kcells T)[k * 3 + 2]? = some (.int .i64 t.f) :=
  ⟨flat_get encT 3 (fun _ => rfl) T k 0 t h (by decide), flat_get encT 3 (fun _ => rfl) T k 1 t h (by decide), flat_get encT 3 (fun _ => rfl) T k 2 t h (by decide)⟩
set_option maxHeartbeats 1000000 in
set_option maxRecDepth 100000 in
theorem tell_any (gs gd : Nat) (ls ld : Array Value) (egs : ∀ args w, (callFunc gs args).run Tryz.prog w = .ok (.enter gs args) w) (egd : ∀ args w, (callFunc gd args).run Tryz.prog w = .ok (.enter gd args) w)
    (T : List Tk) (hT : WellT T) (hl : T.length ≤ 100000000) (J : List Ev → World → Prop) (hs : StepE gs ls false (evs T) J) (hd : StepE gd ld true (evs T) J) (A : Option Addr) (c : Nat)
    (hsrc : ∀ ys W, J ys W → Src W 3 A T.length c (kcells T)) (hno : ∀ ys W W', J ys W → Chg NoS W W' → J ys W') (w : World) (h0 : J [] w) :
    Calls Tryz.prog 108 #[.slice A T.length c, .func (.func gs) #[] ls, .func (.func gd) #[] ld] w fun e w' => e = .returned (.tuple #[]) ∧ J (evs T) w' := by
  obtain ⟨n, hn⟩ : ∃ n, n = T.length := ⟨_, rfl⟩
  have HT := keepf hT
  have HJ := keepf h0
  have HS := keepf hs
  have HD := keepf hd
  have HSRC := keepf hsrc
  have HNO := keepf hno
  rw [← hn] at hl HSRC ⊢
  have HN := keepf hn
  clear hT h0 hs hd hsrc hno hn
  go_enter Tryz.func108, Tryz.ntmps108
  go_wp2_with fail
  go_loopw [10] (fun i wr => ∃ k : Nat, k ≤ n ∧ i = .int .i64 (k : Nat) ∧ Hid (J ((T.take k).flatMap evT) wr)) (fun i _ => n - (intOf i).toNat)
  case atStart => exact ⟨0, Nat.zero_le _, rfl, HJ.out⟩
  case round =>
    obtain ⟨k, hk, rfl, HK⟩ := hrel
    by_cases hlt : k < n
    · obtain ⟨t, ht⟩ : ∃ t, T[k]? = some t := ⟨_, List.getElem?_eq_getElem (by have := HN.out; omega)⟩
      obtain ⟨b, off, rfl, hc⟩ := (HSRC.out _ _ HK.out).plain (by have h1 := (HSRC.out _ _ HK.out).1; rw [h1]; omega)
      obtain ⟨k0, k1, k2⟩ := kcells_at ht
      have c0 := hc _ _ k0
      have c1 := hc _ _ k1
      have c2 := hc _ _ k2
      rw [← Nat.add_assoc] at c1 c2
      obtain ⟨htb, htw⟩ := HT.out t (List.mem_of_getElem? ht)
      have htk : (T.take (k + 1)).flatMap evT = (T.take k).flatMap evT ++ evT t := by rw [take_succ_at ht]; simp
      have hall : evs T = (T.take k).flatMap evT ++ (evT t ++ ((T.drop (k + 1)).flatMap evT ++ [evEnd])) := by
        have e : T = T.take k ++ t :: T.drop (k + 1) := by rw [← drop_at ht, List.take_append_drop]
        rw [evs]
        conv => lhs; rw [e]
        simp
      have HTK := keepf htk
      have HALL := keepf hall
      clear hc k0 k1 k2 htk hall ht
      obtain ⟨tb, tl, tf⟩ := t
      simp only at c0 c1 c2 htb
      by_cases hz : tl = 0
      · subst hz
        have hev : evT ⟨tb, 0, tf⟩ = [⟨false, tb, 0, 0⟩] := rfl
        have HJ1 := keepf (HNO.out _ _ ((wr.alloc (.cells #[.int .u8 (tb : Nat), .int .i64 0, .int .i64 tf] 180))) HK.out ((Chg.refl _ _).alloc _))
        have HC := HS.out _ ⟨false, tb, 0, 0⟩ ((T.drop (k + 1)).flatMap evT ++ [evEnd]) _ (by rw [HALL.out, hev]; rfl) rfl HJ1.out
        have HC : Hid (Calls _ _ _ _ _) := HC
        clear htw
        go_wp2_with (go_at_fn gs; refine HC.out.mono ?_; rintro e w2 ⟨rfl, hj, _⟩; have HJ2 := keepf hj; clear hj)
        go_roundw
        case rel => exact ⟨k + 1, by omega, by go_num, by rw [HTK.out, hev]; exact HJ2.out⟩
        case measure => simp [intOf]; omega
      · have u0 : (tl == 0) = false := by simpa using hz
        unfold Tk.wellB at htw
        simp only at htw
        rw [if_neg hz] at htw
        simp only [decide_eq_true_eq] at htw
        obtain ⟨l, rfl⟩ := Int.eq_ofNat_of_zero_le (show 0 ≤ tl by omega)
        obtain ⟨f, rfl⟩ := Int.eq_ofNat_of_zero_le (show 0 ≤ tf by omega)
        have hl := lsym_ok (x := l) (by omega) (by omega)
        have hf := dsym_ok (x := f) (by omega) (by omega)
        have HSY := keepf (fun W => symbol_ok l W (by omega) (by omega))
        have HFA := keepf (fun W => far_ok f W (by omega) (by omega))
        have hev : evT ⟨tb, l, f⟩ = [⟨false, 257 + lsym l, l - numL (lsym l), bitL (lsym l)⟩, ⟨true, dsym f, f - numD (dsym f), bitD (dsym f)⟩] := by
          unfold evT
          simp only
          rw [if_neg hz, Int.toNat_natCast, Int.toNat_natCast]
        obtain ⟨s1, hs1⟩ : ∃ s1, s1 = 257 + lsym l := ⟨_, rfl⟩
        obtain ⟨v1, hv1⟩ : ∃ v1, v1 = l - numL (lsym l) := ⟨_, rfl⟩
        rw [show (257 : Int) + lsym l = (s1 : Nat) from by omega, show (l : Int) - numL (lsym l) = (v1 : Nat) from by omega] at HSY
        obtain ⟨v2, hv2⟩ : ∃ v2, v2 = f - numD (dsym f) := ⟨_, rfl⟩
        rw [show (f : Int) - numD (dsym f) = (v2 : Nat) from by omega] at HFA
        rw [← hs1, ← hv1, ← hv2] at hev
        generalize bitL (lsym l) = n1 at *
        generalize dsym f = s2 at *
        generalize bitD s2 = n2 at *
        have HEV := keepf hev
        have HA2 := HALL.out
        rw [hev] at HA2
        have HA2 := keepf HA2
        clear hs1 hv1 hv2 hev hl hf htw
        go_wp2_with (first
          | (go_at_call 126; refine (HSY.out _).mono ?_; rintro e w2 ⟨rfl, hc2⟩; have HJ2 := keepf (HNO.out _ _ w2 HK.out (((Chg.refl NoS wr).alloc _).trans hc2 (fun _ _ h => h))); have b2 := (Blk.new wr 180 #[.int .u8 (tb : Nat), .int .i64 (l : Nat), .int .i64 (f : Nat)]).chg hc2 (fun h => h); have HB2 := keepf b2; have HC1 := keepf (HS.out _ ⟨false, s1, v1, n1⟩ _ w2 HA2.out rfl HJ2.out); clear hc2 b2)
          | (go_at_fn gs; refine HC1.out.mono ?_; rintro e w3 ⟨rfl, hj3, hk3⟩; have HJ3 := keepf hj3; have HB3 := keepf (hk3 _ _ HB2.out); have d2 := HB3.out.cell 2; simp at d2; clear hj3 hk3)
          | (go_at_call 127; refine (HFA.out _).mono ?_; rintro e w4 ⟨rfl, hc4⟩; have HJ4 := keepf (HNO.out _ _ w4 HJ3.out hc4); have HC2 := keepf (HD.out _ ⟨true, s2, v2, n2⟩ ((T.drop (k + 1)).flatMap evT ++ [evEnd]) w4 (by rw [HA2.out]; simp) rfl HJ4.out); clear hc4)
          | (go_at_fn gd; refine HC2.out.mono ?_; rintro e w5 ⟨rfl, hj5, _⟩; have HJ5 := keepf hj5; clear hj5))
        go_roundw
        case rel =>
          refine ⟨k + 1, by omega, by go_num, ?_⟩
          rw [HTK.out, HEV.out]
          have := HJ5.out
          rw [List.append_assoc] at this
          exact this
        case measure => simp [intOf]; omega
    · obtain rfl : k = n := by omega
      have HC := HS.out _ evEnd [] _ (show evs T = (T.take k).flatMap evT ++ [evEnd] by rw [evs, List.take_of_length_le (by have := HN.out; omega)]) rfl HK.out
      have HC : Hid (Calls _ _ _ _ _) := HC
      go_wp2_with (go_at_fn gs; refine HC.out.mono ?_; rintro e w2 ⟨rfl, hj, _⟩; have HJ2 := keepf hj; clear hj)
      go_end0
      refine ⟨rfl, ?_⟩
      have := HJ2.out
      rw [List.take_of_length_le (by have := HN.out; omega)] at this
      exact this
end Go.Proofs.YtmmilchmnimjoaaGreat
/- putter: symbols by codes, and the bits behind them; coded: tokens. -/
namespace Go.Proofs.YtmmilchmnimjoaaGreat
open Go.RowKit
set_option linter.unusedVariables false
set_option linter.unusedSimpArgs false
structure PutAt (w : World) (b1 b2 g tb : Nat) (ls : List Int) : Prop where
  b1 : Blk w b1 72 #[.pointer (some ⟨g, 0, none⟩)]
  b2 : Blk w b2 103 #[.pointer (some ⟨tb, 0, none⟩)]
  t : Tb w tb ls
theorem PutAt.no {w w' : World} {b1 b2 g tb : Nat} {ls : List Int} (h : PutAt w b1 b2 g tb ls) (hc : Chg NoS w w') : PutAt w' b1 b2 g tb ls :=
  ⟨h.b1.chg hc (fun e => e), h.b2.chg hc (fun e => e), h.t.chg hc (fun e => e)⟩
theorem PutAt.mv {w w' : World} {B g gw b1 b2 g2 tb : Nat} {L : List Bool} {S S' : Value} {ls : List Int} (h : PutAt w b1 b2 g2 tb ls) (hp : Pd w B g gw L S) (hm : PMv g gw w S w' S') : PutAt w' b1 b2 g2 tb ls :=
  ⟨hm.blk hp h.b1 (by decide) (by decide) (by decide), hm.blk hp h.b2 (by decide) (by decide) (by decide), hm.tb hp h.t⟩
theorem Pd.c0 {w : World} {B g gw : Nat} {L : List Bool} {S : Value} (hp : Pd w B g gw L S) : w.cell? ⟨g, 0, none⟩ = some (.pointer (some ⟨gw, 0, none⟩)) := by
  obtain ⟨fs, fd, h⟩ := hp
  have := h.blk.cell 0
  simpa using this
def evBits (ls ds : List Int) (e : Ev) : List Bool := codeBits (if e.d then ds else ls) e.s ++ numBits false e.v e.n
set_option maxHeartbeats 1000000 in
set_option maxRecDepth 100000 in
theorem putter1_ok (B g gw b1 b2 tb : Nat) (L : List Bool) (S : Value) (ls : List Int) (s v n : Nat) (w : World) (hp : Pd w B g gw L S) (hq : PutAt w b1 b2 g tb ls) (hM : May ls) (hs : s < ls.length) (hn0 : lenAt ls s ≠ 0)
    (hv : v < 2 ^ n) (hn : n ≤ 32) (hL : L.length ≤ 900000000) :
    Calls Tryz.prog 128 #[.int .i64 (s : Nat), .int .i64 (v : Nat), .int .i64 (n : Nat), .pointer (some ⟨b1, 0, none⟩), .pointer (some ⟨b2, 0, none⟩)] w (PTo w B g gw S (L ++ (codeBits ls s ++ numBits false v n))) := by
  have c0 := hp.c0
  have c1 := hq.b1.cell 0
  have c2 := hq.b2.cell 0
  simp at c1 c2
  have hp1 := hp.no (Chg.refl NoS w).drew
  have hq1 := hq.no (Chg.refl NoS w).drew
  have HQ := keepf hq1
  obtain ⟨fs, fd, hpf⟩ := hp1
  have HP := keepf hpf
  have HPT := keepf (tput_ok tb gw s false L S ls w.drew hM hq1.t hpf.wr (by omega) hs hn0 (fun e => hpf.ne_tb hq1.t (.inr e)))
  have hcl := codeBits_len ls s
  have h15 := lenAt_le hM.2.2.1 s
  have e1 : L ++ (codeBits ls s ++ numBits false v n) = (L ++ codeBits ls s) ++ numBits false v n := by rw [List.append_assoc]
  rw [e1]
  have hl1 : (L ++ codeBits ls s).length ≤ 1000000000 := by rw [List.length_append]; omega
  generalize L ++ codeBits ls s = L1 at *
  clear hp hq hq1 hpf hcl h15 e1
  go_enter Tryz.func128, Tryz.ntmps128
  go_upto_region 0 with fail
  first
    | (go_loud (go_region_held3 (fun w' => w'.cell? ⟨b1, 0, none⟩ = some (.pointer (some ⟨g, 0, none⟩)) ∧ w'.cell? ⟨b2, 0, none⟩ = some (.pointer (some ⟨tb, 0, none⟩)) ∧ w'.cell? ⟨g, 0, none⟩ = some (.pointer (some ⟨gw, 0, none⟩)))
        (first | (go_keep; done) | (go_split_ands; exact ⟨by assumption, by assumption, by assumption⟩))
        (first
          | (go_at_call 129; refine HPT.out.mono ?_; rintro e w2 ⟨rfl, S2, hw2, hc2, hf2⟩; have hq2 := HP.out.put hw2 hc2 hf2; have d0 := hq2.1.pd.c0; have hQ2 := HQ.out.mv HP.out.pd hq2.2; have d1 := hQ2.b1.cell 0; have d2 := hQ2.b2.cell 0; simp at d1 d2; have HQ2 := keepf hQ2; have HP2 := keepf hq2.1; have HM2 := keepf hq2.2; have HK := keepf (keep_ok B g gw _ S2 fs fd w2 hq2.1); clear hw2 hc2 hf2 hq2 hQ2)
          | (go_at_call 124; refine HK.out.mono ?_; rintro e w3 ⟨rfl, hp3, hm3⟩; have e0 := hp3.pd.c0; have hQ3 := HQ2.out.mv HP2.out.pd hm3; have e1 := hQ3.b1.cell 0; have e2 := hQ3.b2.cell 0; simp at e1 e2; have HP3 := keepf hp3.pd; have HM3 := keepf (HM2.out.trans hm3); have HN3 := keepf (pnum_ok B g gw L1 S2 v n w3 hp3.pd hn hv hl1); clear hp3 hm3 hQ3))))
    | fail "region"
  go_wp2_with (go_at_call 107; refine HN3.out.mono ?_; rintro e w4 ⟨rfl, S4, hp4, hm4⟩; have HP4 := keepf hp4; have HM4 := keepf (HM3.out.trans hm4); clear hp4 hm4)
  go_end0
  exact ⟨rfl, S4, HP4.out, ⟨(((Chg.refl (PS g gw S) w).drew).trans HM4.out.c (fun _ _ e => e)), HM4.out.f⟩⟩
theorem putter_any (g tb : Nat) (w : World) :
    Calls Tryz.prog 109 #[.pointer (some ⟨g, 0, none⟩), .pointer (some ⟨tb, 0, none⟩)] w fun e w' =>
      e = .returned (.func (.func 128) #[] #[.pointer (some ⟨w.heap.size, 0, none⟩), .pointer (some ⟨w.heap.size + 1, 0, none⟩)]) ∧
      (w.alloc (.cells #[.pointer (some ⟨g, 0, none⟩)] 72)).alloc (.cells #[.pointer (some ⟨tb, 0, none⟩)] 103) = w' := by
  go_enter Tryz.func109, Tryz.ntmps109
  go_wp2_with fail
  go_ret
  exact ⟨rfl, rfl⟩
theorem putAt_new {w w0 : World} {g tb : Nat} {ls : List Int} (h : Tb w0 tb ls) (hc : Chg NoS w0 w) :
    PutAt ((w.alloc (.cells #[.pointer (some ⟨g, 0, none⟩)] 72)).alloc (.cells #[.pointer (some ⟨tb, 0, none⟩)] 103)) w.heap.size (w.heap.size + 1) g tb ls := by
  refine ⟨(Blk.new w _ _).alloc _, ?_, h.chg ((hc.alloc _).alloc _) (fun e => e)⟩
  have := Blk.new (w.alloc (.cells #[.pointer (some ⟨g, 0, none⟩)] 72)) 103 #[.pointer (some ⟨tb, 0, none⟩)]
  simpa using this
theorem putter_to (g tb : Nat) (w : World) :
    Calls Tryz.prog 109 #[.pointer (some ⟨g, 0, none⟩), .pointer (some ⟨tb, 0, none⟩)] w fun e w' =>
      e = .returned (.func (.func 128) #[] #[.pointer (some ⟨w.heap.size, 0, none⟩), .pointer (some ⟨w.heap.size + 1, 0, none⟩)]) ∧ Chg NoS w w' ∧
      ∀ ls, Tb w tb ls → PutAt w' w.heap.size (w.heap.size + 1) g tb ls := by
  refine (putter_any g tb w).mono ?_
  rintro e w' ⟨rfl, rfl⟩
  exact ⟨rfl, ((Chg.refl NoS w).alloc _).alloc _, fun ls h => putAt_new h (Chg.refl _ _)⟩
structure EvOk (ls ds : List Int) (y : Ev) : Prop where
  lt : y.s < (if y.d then ds else ls).length
  has : lenAt (if y.d then ds else ls) y.s ≠ 0
  v : y.v < 2 ^ y.n
  n : y.n ≤ 16
theorem evBits_len {ls ds : List Int} {y : Ev} (h : EvOk ls ds y) (hM : May ls) (hD : May ds) : (evBits ls ds y).length ≤ 32 := by
  have h1 := lenAt_le hM.2.2.1 y.s
  have h2 := lenAt_le hD.2.2.1 y.s
  have h3 := h.n
  rw [evBits, List.length_append, codeBits_len, numBits_length]
  split <;> omega
theorem evsBits_len {ls ds : List Int} (hM : May ls) (hD : May ds) : ∀ ys : List Ev, (∀ y ∈ ys, EvOk ls ds y) → (ys.flatMap (evBits ls ds)).length ≤ 32 * ys.length
  | [], _ => Nat.zero_le _
  | y :: ys, h => by
    have h1 := evBits_len (h y (List.mem_cons_self ..)) hM hD
    have h2 := evsBits_len hM hD ys (fun z hz => h z (List.mem_cons_of_mem _ hz))
    rw [List.flatMap_cons, List.length_append, List.length_cons]
    omega
def CodJ (w : World) (B g gw : Nat) (L : List Bool) (S : Value) (ls ds : List Int) (b1 b2 b3 b4 ts td : Nat) (T : List Tk) (V : Value) (ys : List Ev) (W : World) : Prop :=
  ∃ S', Pd W B g gw (L ++ ys.flatMap (evBits ls ds)) S' ∧ PMv g gw w S W S' ∧ PutAt W b1 b2 g ts ls ∧ PutAt W b3 b4 g td ds ∧ W.ownsRow 0 180 3 V T.length (kcells T)
theorem cod_step (d : Bool) (w : World) (B g gw : Nat) (L : List Bool) (S : Value) (ls ds : List Int) (b1 b2 b3 b4 ts td : Nat) (T : List Tk) (V : Value) (hM : May ls) (hD : May ds)
    (hev : ∀ y ∈ evs T, EvOk ls ds y) (hL : L.length + 32 * (evs T).length ≤ 900000000) :
    StepE 128 #[.pointer (some ⟨if d then b3 else b1, 0, none⟩), .pointer (some ⟨if d then b4 else b2, 0, none⟩)] d (evs T) (CodJ w B g gw L S ls ds b1 b2 b3 b4 ts td T V) := by
  rintro ys y zs W hall hyd ⟨S1, hp, hm, h1, h2, ho⟩
  have hy := hev y (by rw [hall]; simp)
  have hlen := evsBits_len hM hD ys (fun z hz => hev z (by rw [hall]; simp [hz]))
  have hal := congrArg List.length hall
  simp at hal
  have hl2 : (L ++ ys.flatMap (evBits ls ds)).length ≤ 900000000 := by rw [List.length_append]; omega
  have key : ∀ (x1 x2 tb : Nat) (cs : List Int), PutAt W x1 x2 g tb cs → May cs → y.s < cs.length → lenAt cs y.s ≠ 0 → evBits ls ds y = codeBits cs y.s ++ numBits false y.v y.n →
      Calls Tryz.prog 128 #[.int .i64 (y.s : Nat), .int .i64 (y.v : Nat), .int .i64 (y.n : Nat), .pointer (some ⟨x1, 0, none⟩), .pointer (some ⟨x2, 0, none⟩)] W
        fun e w' => e = .returned (.tuple #[]) ∧ CodJ w B g gw L S ls ds b1 b2 b3 b4 ts td T V (ys ++ [y]) w' ∧ KeepT W w' := by
    intro x1 x2 tb cs hq hMc hs hn he
    refine (putter1_ok B g gw x1 x2 tb _ S1 cs y.s y.v y.n W hp hq hMc hs hn hy.v (by have := hy.n; omega) hl2).mono ?_
    rintro e w' ⟨rfl, S2, hp2, hm2⟩
    refine ⟨rfl, ⟨S2, ?_, hm.trans hm2, h1.mv hp hm2, h2.mv hp hm2, hm2.own hp ho (by decide) (by decide) (by decide)⟩, fun k cs hk => hm2.blk hp hk (by decide) (by decide) (by decide)⟩
    rw [List.flatMap_append, List.flatMap_singleton, he, ← List.append_assoc]
    exact hp2
  cases d with
  | true =>
    refine key b3 b4 td ds h2 hD ?_ ?_ ?_
    · have := hy.lt; rwa [hyd] at this
    · have := hy.has; rwa [hyd] at this
    · rw [evBits, hyd]; rfl
  | false =>
    refine key b1 b2 ts ls h1 hM ?_ ?_ ?_
    · have := hy.lt; rwa [hyd] at this
    · have := hy.has; rwa [hyd] at this
    · rw [evBits, hyd]; rfl
set_option maxHeartbeats 1000000 in
set_option maxRecDepth 100000 in
theorem coded_ok (B g gw ts td : Nat) (L : List Bool) (S : Value) (ls ds : List Int) (T : List Tk) (A : Option Addr) (c : Nat) (w : World) (hp : Pd w B g gw L S) (ho : w.ownsRow 0 180 3 (.slice A T.length c) T.length (kcells T))
    (hT : WellT T) (hTl : T.length ≤ 100000000) (hts : Tb w ts ls) (htd : Tb w td ds) (hM : May ls) (hD : May ds) (hev : ∀ y ∈ evs T, EvOk ls ds y) (hL : L.length + 32 * (evs T).length ≤ 900000000) :
    Calls Tryz.prog 92 #[.pointer (some ⟨g, 0, none⟩), .slice A T.length c, .agg #[.pointer (some ⟨ts, 0, none⟩), .pointer (some ⟨td, 0, none⟩)]] w (PTo w B g gw S (L ++ (evs T).flatMap (evBits ls ds))) := by
  have eg : ∀ args w, (callFunc 128 args).run Tryz.prog w = .ok (.enter 128 args) w := enters_of Tryz.func128 (by kernel_rfl) rfl
  have hw1 : Chg NoS w ((w.alloc (.cells #[.pointer (some ⟨ts, 0, none⟩), .pointer (some ⟨td, 0, none⟩)] 105))) := (Chg.refl NoS w).alloc _
  have hb1 := Blk.new w 105 #[.pointer (some ⟨ts, 0, none⟩), .pointer (some ⟨td, 0, none⟩)]
  have HTELL : Hid (∀ (b1 b2 b3 b4 k : Nat) (cs : Array Value) (W : World), Chg NoS w W → PutAt W b1 b2 g ts ls → PutAt W b3 b4 g td ds → Blk W k 105 cs →
      Calls Tryz.prog 108 #[.slice A T.length c, .func (.func 128) #[] #[.pointer (some ⟨b1, 0, none⟩), .pointer (some ⟨b2, 0, none⟩)], .func (.func 128) #[] #[.pointer (some ⟨b3, 0, none⟩), .pointer (some ⟨b4, 0, none⟩)]] W
        fun e w' => PTo w B g gw S (L ++ (evs T).flatMap (evBits ls ds)) e w' ∧ Blk w' k 105 cs) := by
    intro b1 b2 b3 b4 k cs W hW h1 h2 hk
    refine (tell_any _ _ _ _ eg eg T hT hTl (CodJ W B g gw L S ls ds b1 b2 b3 b4 ts td T (.slice A T.length c)) (cod_step false W B g gw L S ls ds b1 b2 b3 b4 ts td T _ hM hD hev hL) (cod_step true W B g gw L S ls ds b1 b2 b3 b4 ts td T _ hM hD hev hL) A c ?_ ?_ W
      ⟨S, by simpa using hp.no hW, PMv.refl _ _ _ _, h1, h2, own_chg ho hW (fun _ _ e => e)⟩).mono ?_
    · rintro ys W2 ⟨S2, _, _, _, _, ho2⟩
      exact src_own ho2
    · rintro ys W2 W3 ⟨S2, hp2, hm2, h12, h22, ho2⟩ hc3
      exact ⟨S2, hp2.no hc3, hm2.trans (PMv.news hc3), h12.no hc3, h22.no hc3, own_chg ho2 hc3 (fun _ _ e => e)⟩
    · rintro e W2 ⟨rfl, S2, hp2, hm2, _⟩
      exact ⟨⟨rfl, S2, hp2, (PMv.news hW).trans hm2⟩, hm2.blk (hp.no hW) hk (by decide) (by decide) (by decide)⟩
  obtain ⟨W1, hW1⟩ : ∃ W1, W1 = w.alloc (.cells #[.pointer (some ⟨ts, 0, none⟩), .pointer (some ⟨td, 0, none⟩)] 105) := ⟨_, rfl⟩
  have HTS := keepf hts
  have HTD := keepf htd
  rw [← hW1] at hw1 hb1
  have c0 := hb1.cell 0
  have c1 := hb1.cell 1
  simp at c0 c1
  have HB1 := keepf hb1
  have HC1 := keepf hw1
  obtain ⟨n, hn⟩ : ∃ n, n = T.length := ⟨_, rfl⟩
  rw [← hn] at HTELL ⊢
  obtain ⟨F, hF⟩ : ∃ F, F = L ++ (evs T).flatMap (evBits ls ds) := ⟨_, rfl⟩
  rw [← hF] at HTELL ⊢
  clear hp ho hT hTl hts htd hM hD hev hL hb1 hw1 eg hn hF
  go_enter Tryz.func92, Tryz.ntmps92
  go_upto_region 1 with fail
  rw [← hW1]
  clear hW1
  first
    | (go_loud (go_region_held3 (fun w' => w'.cell? ⟨w.heap.size, 0, none⟩ = some (.pointer (some ⟨ts, 0, none⟩)) ∧ w'.cell? ⟨w.heap.size, 1, none⟩ = some (.pointer (some ⟨td, 0, none⟩)))
        (first | (go_keep; done) | (go_split_ands; exact ⟨by assumption, by assumption⟩) | exact trivial)
        (first
          | (go_at_call 109; refine (putter_to _ _ _).mono ?_; rintro e w2 ⟨rfl, hc2, hq2⟩; first | (have HC3 := keepf (HC2.out.trans hc2 (fun _ _ h => h)); have HQ1 := keepf (HQ.out.no hc2); have HQ2 := keepf (hq2 ds (HTD.out.chg HC2.out (fun e => e))); have HB3 := keepf (HB2.out.chg hc2 (fun h => h)); have r0 := HB3.out.cell 0; have r1 := HB3.out.cell 1; simp at r0 r1) | (have HC2 := keepf (HC1.out.drew.trans hc2 (fun _ _ h => h)); have HQ := keepf (hq2 ls (HTS.out.chg HC1.out.drew (fun e => e))); have HB2 := keepf (HB1.out.chg ((Chg.refl NoS W1).drew.trans hc2 (fun _ _ h => h)) (fun h => h)); have q0 := HB2.out.cell 0; have q1 := HB2.out.cell 1; simp at q0 q1); clear hc2 hq2)
          | (go_at_call 108; refine (HTELL.out _ _ _ _ _ _ _ HC3.out HQ1.out HQ2.out HB3.out).mono ?_; rintro e w4 ⟨⟨rfl, S4, hp4, hm4⟩, hb4⟩; have t0 := hb4.cell 0; have t1 := hb4.cell 1; simp at t0 t1; have HP4 := keepf hp4; have HM4 := keepf hm4; clear hp4 hm4 hb4))))
    | fail "region"
  go_wp2_with fail
  go_end0
  exact ⟨rfl, S4, HP4.out, HM4.out⟩
end Go.Proofs.YtmmilchmnimjoaaGreat
