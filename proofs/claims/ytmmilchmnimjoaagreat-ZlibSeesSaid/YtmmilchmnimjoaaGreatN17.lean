/- Merged by program: Alone Defl Deflate Work7. -/
import Derived.Test.YtmmilchmnimjoaaGreatN06
import Derived.Test.YtmmilchmnimjoaaGreatN09
import Derived.Test.YtmmilchmnimjoaaGreatN16
import Derived.Shelf.Small.Bits
import Derived.Lib.SlBytesConst
/- The functions of a kind, and a part packed alone. -/
namespace Go.Proofs.YtmmilchmnimjoaaGreat
open Go.RowKit
set_option linter.unusedVariables false
set_option linter.unusedSimpArgs false
structure MvX (g gw x : Nat) (w : World) (S : Value) (w' : World) (S' : Value) : Prop where
  c : Chg (fun i => PS g gw S i ∨ i = x) w w'
  f : ∀ i, WS gw S' i → WS gw S i ∨ w.heap.size ≤ i
theorem MvX.trans {g gw x : Nat} {w w1 w2 : World} {S S1 S2 : Value} (h : MvX g gw x w S w1 S1) (k : MvX g gw x w1 S1 w2 S2) : MvX g gw x w S w2 S2 := by
  refine ⟨h.c.trans k.c (fun i hi hT => ?_), fun i hi => ?_⟩
  · rcases hT with (e | e) | e
    · exact .inl (.inl e)
    · rcases h.f i e with h1 | h1
      · exact .inl (.inr h1)
      · omega
    · exact .inr e
  · rcases k.f i hi with h1 | h1
    · exact h.f i h1
    · exact .inr (Nat.le_trans h.c.size h1)
theorem MvX.of {g gw : Nat} (x : Nat) {w w1 : World} {S S1 : Value} (h : PMv g gw w S w1 S1) : MvX g gw x w S w1 S1 := ⟨h.c.mono (fun i _ e => .inl e), h.f⟩
theorem MvX.part {g gw x : Nat} {w w1 : World} (S : Value) (h : Chg (fun i => i = x) w w1) : MvX g gw x w S w1 S := ⟨h.mono (fun i _ e => .inr e), fun i hi => .inl hi⟩
theorem Pd.part {w w' : World} {B g gw x : Nat} {L : List Bool} {S : Value} {cs : Array Value} (h : Pd w B g gw L S) (hk : Blk w x 71 cs) (hc : Chg (fun i => i = x) w w') : Pd w' B g gw L S := by
  obtain ⟨fs, fd, h⟩ := h
  exact (h.chgK hk (by decide) (by decide) (by decide) (by decide) hc).pd
def WTo (w : World) (k B g gw x bx : Nat) (last : Bool) (L : List Bool) (S : Value) (A : Option Addr) (c : Nat) (bs : List Nat) (e : Ending) (w' : World) : Prop :=
  e = .returned (.tuple #[]) ∧ ∃ (L' : List Bool) (S' V' : Value), Wrote k last bs L L' ∧ Pd w' B g gw L' S' ∧ PartSt w' x A c bs V' ∧ MvX g gw x w S w' S'
structure WAt (w : World) (B g gw x bx : Nat) (L : List Bool) (S V : Value) (A : Option Addr) (c : Nat) (bs : List Nat) : Prop where
  p : Pd w B g gw L S
  b : Blk w bx 72 #[.pointer (some ⟨g, 0, none⟩)]
  x : PartSt w x A c bs V
  a : ∀ ad, A = some ad → bs ≠ [] → ad.block < B
  y : ∀ b ∈ bs, b < 256
set_option maxHeartbeats 1000000 in
set_option maxRecDepth 100000 in
theorem writer1_ok (w : World) (B g gw x bx : Nat) (last : Bool) (L : List Bool) (S V : Value) (A : Option Addr) (c : Nat) (bs : List Nat) (h : WAt w B g gw x bx L S V A c bs) (hl : L.length + 64 * bs.length + 20000 ≤ 700000000) :
    Calls Tryz.prog 88 #[.pointer (some ⟨x, 0, none⟩), .bool last, .pointer (some ⟨bx, 0, none⟩)] w (WTo w 0 B g gw x bx last L S A c bs) := by
  have hd : Chg NoS w w.drew := (Chg.refl NoS w).drew
  have c0 := h.b.cell 0
  have c1 := h.x.blk.cell 0
  simp at c0 c1
  have HST := keepf (stored_ok B g gw L S last bs A c w.drew (h.p.no hd) (h.x.no hd).src h.x.cap h.y h.a (by omega))
  have H := keepf h
  have HD := keepf hd
  obtain ⟨n, hn⟩ : ∃ n, n = bs.length := ⟨_, rfl⟩
  rw [← hn] at c1 HST
  have HN := keepf hn
  clear h hd hn
  go_enter Tryz.func88, Tryz.ntmps88
  go_upto_region 0 with fail
  first
    | (go_loud (go_region_held3 (fun w' => w'.cell? ⟨bx, 0, none⟩ = some (.pointer (some ⟨g, 0, none⟩)) ∧ w'.cell? ⟨x, 0, none⟩ = some (.slice A n c))
        (first | (go_keep; done) | (go_split_ands; exact ⟨by assumption, by assumption⟩))
        (first
          | (go_at_call 89; refine HST.out.mono ?_; rintro e w2 ⟨rfl, S2, hp2, hm2⟩; have hb2 := hm2.blk (H.out.p.no HD.out) (H.out.b.chg HD.out (fun h => h)) (by decide) (by decide) (by decide); have hx2 := (H.out.x.no HD.out).mv (H.out.p.no HD.out) hm2 H.out.a; have d0 := hb2.cell 0; have d1 := hx2.blk.cell 0; simp at d0 d1; rw [← HN.out] at d1; have HP2 := keepf hp2; have HM2 := keepf hm2; have HX2 := keepf hx2; clear hp2 hm2 hb2 hx2))))
    | fail "region"
  go_wp2_with fail
  go_end0
  exact ⟨rfl, _, S2, V, .stored last bs L, HP2.out, HX2.out, (MvX.of x (PMv.news HD.out)).trans (MvX.of x HM2.out)⟩
theorem WAt.toks {w w' : World} {B g gw x bx : Nat} {L : List Bool} {S V : Value} {A : Option Addr} {c : Nat} {bs : List Nat} {e : Ending} (h : WAt w B g gw x bx L S V A c bs) (k : ToksTo w x A c bs V e w') :
    ∃ (T : List Tk) (A' : Option Addr) (c' : Nat), e = .returned (.slice A' T.length c') ∧ TokIs bs T ∧ w'.ownsRow 0 180 3 (.slice A' T.length c') T.length (kcells T) ∧ WAt w' B g gw x bx L S (.slice A' T.length c') A c bs ∧ MvX g gw x w S w' S ∧
      (∀ ad T' c'', V = .slice (some ad) T'.length c'' → w.ownsRow 0 180 3 V T'.length (kcells T') → TokIs bs T' → w'.ownsRow 0 180 3 V T'.length (kcells T') ∧ V = .slice A' T.length c') := by
  obtain ⟨T, A', c', he, hT, ho, hx, hc, hs⟩ := k
  exact ⟨T, A', c', he, hT, ho, ⟨h.p.part h.x.blk hc, h.b.chg hc (fun e => Blk.ne_ h.b h.x.blk (by decide) e), hx, h.a, h.y⟩, .part S hc, hs⟩
theorem WAt.mv {w w' : World} {B g gw x bx : Nat} {L L' : List Bool} {S S' V : Value} {A : Option Addr} {c : Nat} {bs : List Nat} (h : WAt w B g gw x bx L S V A c bs) (hp : Pd w' B g gw L' S') (hm : PMv g gw w S w' S') :
    Blk w' bx 72 #[.pointer (some ⟨g, 0, none⟩)] ∧ PartSt w' x A c bs V := ⟨hm.blk h.p h.b (by decide) (by decide) (by decide), h.x.mv h.p hm h.a⟩
theorem WAt.no {w w' : World} {B g gw x bx : Nat} {L : List Bool} {S V : Value} {A : Option Addr} {c : Nat} {bs : List Nat} (h : WAt w B g gw x bx L S V A c bs) (hc : Chg NoS w w') : WAt w' B g gw x bx L S V A c bs :=
  ⟨h.p.no hc, h.b.chg hc (fun e => e), h.x.no hc, h.a, h.y⟩
theorem toks_small {bs : List Nat} {T : List Tk} (hT : TokIs bs T) : (evs T).length ≤ 2 * bs.length + 1 := by
  have h1 := evs_len T
  have h2 := hT.ok.count
  omega
theorem same_toks {bs : List Nat} {T T6 : List Tk} {A' A6 : Option Addr} {c' c6 : Nat} {w3 w6 : World} (hT : TokIs bs T) (ho : w3.ownsRow 0 180 3 (.slice A' T.length c') T.length (kcells T)) (hT6 : TokIs bs T6)
    (ho6 : w6.ownsRow 0 180 3 (.slice A6 T6.length c6) T6.length (kcells T6))
    (hs : ∀ ad T' c'', Value.slice A' T.length c' = .slice (some ad) T'.length c'' → w3.ownsRow 0 180 3 (.slice A' T.length c') T'.length (kcells T') → TokIs bs T' → w6.ownsRow 0 180 3 (.slice A' T.length c') T'.length (kcells T') ∧ Value.slice A' T.length c' = .slice A6 T6.length c6) :
    T6 = T ∧ w6.ownsRow 0 180 3 (.slice A' T.length c') T.length (kcells T) := by
  rcases A' with _ | ad
  · have h0 : T.length = 0 ∧ c' = 0 := by
      rcases ho.2 with ⟨h', h0⟩ | ⟨g', cap, cur, h', _⟩
      · simp only [Value.slice.injEq, true_and] at h'
        exact ⟨h0, h'.2⟩
      · cases h'
    have hn : T = [] := List.eq_nil_of_length_eq_zero h0.1
    subst hn
    have hb : bs = [] := by
      have := hT.ok.run
      simp only [runT, Except.ok.injEq] at this
      exact this.symm
    subst hb
    have h6 := hT6.nil
    subst h6
    obtain ⟨_, rfl⟩ := h0
    exact ⟨rfl, own_nil _ _ _ _⟩
  · obtain ⟨h1, h2⟩ := hs ad T c' rfl ho hT
    simp only [Value.slice.injEq] at h2
    obtain ⟨h3, h4, h5⟩ := h2
    subst h3 h5
    refine ⟨?_, h1⟩
    rw [← h4] at ho6
    exact own_same ho6 h1
theorem ownBits_len {T : List Tk} {X Y cl : List Int} (ho : OwnIs T X Y cl) : (ownBits X Y cl).length ≤ 8000 := by
  obtain ⟨hMX, hMY, x1, x2, y1, y2⟩ := ho.may
  have hc := ho.c
  have hcl : cl.length = 19 := by have := hc.len; rw [cntRL_len] at this; exact this
  have hMc : May cl := ⟨by omega, by omega, fun z hz => by have := hc.ok z hz; omega, hc.room⟩
  have hxz : ∀ z ∈ X ++ Y, 0 ≤ z ∧ z ≤ 15 := fun z hz => by
    rcases List.mem_append.1 hz with h | h
    · exact hMX.2.2.1 z h
    · exact hMY.2.2.1 z h
  have hR := runsR_ok (X ++ Y).length (X ++ Y) (Nat.le_refl _) hxz []
  have h1 := adds_len (runsR (X ++ Y)) []
  rw [hR.1] at h1
  simp at h1
  have h2 := bodyQ_len hMc (runsR (X ++ Y))
  have h3 : ((trimL (ordL cl) 4).flatMap (fun z => numBits false z.toNat 3)).length = 3 * (trimL (ordL cl) 4).length := by
    generalize trimL (ordL cl) 4 = l
    induction l with
    | nil => rfl
    | cons y l ih => rw [List.flatMap_cons, List.length_append, ih, numBits_length, List.length_cons]; omega
  have h4 : (trimL (ordL cl) 4).length ≤ 19 := by rw [trimL_len, ordL_len]; exact trimN_le _ _ _
  rw [ownBits, runsQ, headQ, List.length_append, List.length_append, List.length_append, List.length_append, numBits_length, numBits_length, numBits_length, h3]
  omega
set_option maxHeartbeats 2000000 in
set_option maxRecDepth 100000 in
theorem writer2_ok (w : World) (B g gw x bx : Nat) (last : Bool) (L : List Bool) (S V : Value) (A : Option Addr) (c : Nat) (bs : List Nat) (h : WAt w B g gw x bx L S V A c bs) (hl : L.length + 64 * bs.length + 20000 ≤ 700000000) :
    Calls Tryz.prog 90 #[.pointer (some ⟨x, 0, none⟩), .bool last, .pointer (some ⟨bx, 0, none⟩)] w (WTo w 1 B g gw x bx last L S A c bs) := by
  have c0 := h.b.cell 0
  simp at c0
  have HHD := keepf (head_ok B g gw L S 1 last w h.p (by omega) (by omega))
  have H := keepf h
  clear h
  go_enter Tryz.func90, Tryz.ntmps90
  go_upto_region 1 with (go_at_call 91; refine HHD.out.mono ?_; rintro e w2 ⟨rfl, S2, hp2, hm2⟩; have h2 := H.out.mv hp2 hm2; have H2 := keepf (WAt.mk (V := V) hp2 h2.1 h2.2 H.out.a H.out.y); have HM2 := keepf hm2; clear hp2 hm2 h2)
  have hTO := ptokens_ok x A c bs V w2.drew (H2.out.no (Chg.refl NoS w2).drew).x H2.out.y (by omega)
  have HTO := keepf hTO
  have c2 := H2.out.b.cell 0
  simp at c2
  have HPD := keepf (H2.out.no (Chg.refl NoS w2).drew)
  clear hTO c0 HHD
  first
    | (go_loud (go_region_held3 (fun w' => w'.cell? ⟨bx, 0, none⟩ = some (.pointer (some ⟨g, 0, none⟩)))
        (first | (go_keep; done) | assumption)
        (first
          | (go_at_call 93; refine HTO.out.mono ?_; intro e w3 hk; obtain ⟨T, A', c', rfl, hT, ho3, hw3, hm3, _⟩ := HPD.out.toks hk; have d0 := hw3.b.cell 0; simp at d0; have HT := keepf hT; have HO3 := keepf ho3; have HW3 := keepf hw3; have HM3 := keepf hm3; have HFX := keepf (fixedCodes_ok B g gw _ S2 w3 hw3.p); clear hk hT ho3 hw3 hm3)
          | (go_at_call 94; refine HFX.out.mono ?_; rintro e w4 ⟨ta, tb, rfl, hta, htb, hp4, hm4⟩; have h4 := HW3.out.mv hp4 hm4; have e0 := h4.1.cell 0; simp at e0; have HB4 := keepf h4.1; have HX4 := keepf h4.2; have HP4 := keepf hp4; have HM4 := keepf hm4; have HCO := keepf (coded_ok B g gw ta tb _ S2 fixS fixD T A' c' w4 hp4 (hm4.own HW3.out.p HO3.out (by decide) (by decide) (by decide)) HT.out.ok.well (by have := HT.out.ok.count; omega) hta htb fixS_may fixD_may (fix_evOk HT.out.ok.well) (by have := toks_small HT.out; rw [List.length_append, headBits_len]; omega)); clear hta htb hp4 hm4 h4)
          | (go_at_call 92; refine HCO.out.mono ?_; rintro e w5 ⟨rfl, S5, hp5, hm5⟩; have hb5 := hm5.blk HP4.out HB4.out (by decide) (by decide) (by decide); have f0 := hb5.cell 0; simp at f0; have HX5 := keepf (HX4.out.mv HP4.out hm5 H.out.a); have HP5 := keepf hp5; have HM5 := keepf hm5; clear hb5 hp5 hm5))))
    | fail "region"
  go_wp2_with fail
  go_end0
  exact ⟨rfl, _, S5, _, .fixed last bs L T HT.out, HP5.out, HX5.out, ((MvX.of x (HM2.out.trans (PMv.news (Chg.refl NoS w2).drew))).trans HM3.out).trans ((MvX.of x HM4.out).trans (MvX.of x HM5.out))⟩
set_option maxHeartbeats 2000000 in
set_option maxRecDepth 100000 in
theorem writer3_ok (w : World) (B g gw x bx : Nat) (last : Bool) (L : List Bool) (S V : Value) (A : Option Addr) (c : Nat) (bs : List Nat) (h : WAt w B g gw x bx L S V A c bs) (hl : L.length + 64 * bs.length + 20000 ≤ 700000000) :
    Calls Tryz.prog 95 #[.pointer (some ⟨x, 0, none⟩), .bool last, .pointer (some ⟨bx, 0, none⟩)] w (WTo w 2 B g gw x bx last L S A c bs) := by
  have c0 := h.b.cell 0
  simp at c0
  have HHD := keepf (head_ok B g gw L S 2 last w h.p (by omega) (by omega))
  have H := keepf h
  clear h
  go_enter Tryz.func95, Tryz.ntmps95
  go_upto_region 1 with (go_at_call 91; refine HHD.out.mono ?_; rintro e w2 ⟨rfl, S2, hp2, hm2⟩; have h2 := H.out.mv hp2 hm2; have H2 := keepf (WAt.mk (V := V) hp2 h2.1 h2.2 H.out.a H.out.y); have HM2 := keepf hm2; clear hp2 hm2 h2)
  have hTO := ptokens_ok x A c bs V w2.drew (H2.out.no (Chg.refl NoS w2).drew).x H2.out.y (by omega)
  have HTO := keepf hTO
  have c2 := H2.out.b.cell 0
  simp at c2
  have HPD := keepf (H2.out.no (Chg.refl NoS w2).drew)
  clear hTO c0 HHD
  first
    | (go_loud (go_region_held3 (fun w' => w'.cell? ⟨bx, 0, none⟩ = some (.pointer (some ⟨g, 0, none⟩)))
        (first | (go_keep; done) | assumption)
        (first
          | (go_at_call 93; first
              | (have hx := HT.out; refine HTO2.out.mono ?_; intro e w6 hk; obtain ⟨T6, A6, c6, rfl, hT6, ho6, hw6, hm6, hs6⟩ := HW3.out.toks hk; have hsame := same_toks HT.out HO3.out hT6 ho6 hs6; have d6 := hw6.b.cell 0; simp at d6; have HO6 := keepf hsame.2; have HE6 := keepf hsame.1; have HOB := keepf ho6; have HW6 := keepf hw6; have HM6 := keepf hm6; have hoc := ownCodes_ok B g gw _ S2 T6 A6 c6 w6 hw6.p ho6 hT6.ok.well (by have := hT6.ok.count; omega) (fun y hy => (evs_ok hT6.ok.well y hy).1) (by have := toks_small hT6; omega) (by rw [List.length_append, headBits_len]; omega); have HOC := keepf hoc; clear hk hT6 ho6 hw6 hm6 hs6 hsame hoc)
              | (refine HTO.out.mono ?_; intro e w3 hk; obtain ⟨T, A', c', rfl, hT, ho3, hw3, hm3, _⟩ := HPD.out.toks hk; have d0 := hw3.b.cell 0; simp at d0; have HT := keepf hT; have HO3 := keepf ho3; have HW3 := keepf hw3; have HM3 := keepf hm3; have HTO2 := keepf (ptokens_ok x A c bs _ w3 hw3.x hw3.y (by omega)); clear hk hT ho3 hw3 hm3))
          | (go_at_call 96; refine HOC.out.mono ?_; rintro e w4 ⟨X, Y, cl, ta, tb, S4, rfl, hoi, hta, htb, hp4, hm4⟩; rw [HE6.out] at hoi; have h4 := HW6.out.mv hp4 hm4; have e0 := h4.1.cell 0; simp at e0; have HOI := keepf hoi; have HB4 := keepf h4.1; have HX4 := keepf h4.2; have HP4 := keepf hp4; have HM4 := keepf hm4; have hco := coded_ok B g gw ta tb _ S4 X Y T A' c' w4 hp4 (hm4.own HW6.out.p HO6.out (by decide) (by decide) (by decide)) HT.out.ok.well (by have := HT.out.ok.count; omega) hta htb hoi.may.1 hoi.may.2.1 (own_evOk HT.out.ok.well hoi) (by have := toks_small HT.out; have := ownBits_len hoi; rw [List.length_append, List.length_append, headBits_len]; omega); have HCO := keepf hco; clear hoi hta htb hp4 hm4 h4 hco)
          | (go_at_call 92; refine HCO.out.mono ?_; rintro e w5 ⟨rfl, S5, hp5, hm5⟩; have hb5 := hm5.blk HP4.out HB4.out (by decide) (by decide) (by decide); have f0 := hb5.cell 0; simp at f0; have HX5 := keepf (HX4.out.mv HP4.out hm5 H.out.a); have HP5 := keepf hp5; have HM5 := keepf hm5; clear hb5 hp5 hm5))))
    | fail "region"
  go_wp2_with fail
  go_end0
  exact ⟨rfl, _, S5, _, .own last bs L T X Y cl HT.out HOI.out, HP5.out, HX5.out, (((MvX.of x (HM2.out.trans (PMv.news (Chg.refl NoS w2).drew))).trans HM3.out).trans HM6.out).trans ((MvX.of x HM4.out).trans (MvX.of x HM5.out))⟩
end Go.Proofs.YtmmilchmnimjoaaGreat
/- writer, alone, result; and Deflate by one kind. -/
namespace Go.Proofs.YtmmilchmnimjoaaGreat
open Go.RowKit
set_option linter.unusedVariables false
set_option linter.unusedSimpArgs false
theorem newPacked_any (w : World) :
    Calls Tryz.prog 63 #[] w fun e w' => ∃ g gw, e = .returned (.pointer (some ⟨g, 0, none⟩)) ∧ Pd w' w.heap.size g gw [] (.slice none 0 0) ∧ Chg NoS w w' := by
  have HN := keepf (new_any false w)
  go_enter Tryz.func63, Tryz.ntmps63
  go_wp2_with (go_at_call 87; refine HN.out.mono ?_; rintro e w2 ⟨rfl, hw2⟩; have hc2 : Chg NoS w w2 := (by rw [← hw2]; exact (Chg.refl NoS w).alloc _); have hwr : Wr w2 w.heap.size false [] (.slice none 0 0) := (by rw [← hw2]; exact wr_new false w); have HC2 := keepf hc2; have HWR := keepf hwr; clear hw2 hc2 hwr)
  go_ret
  have hc3 := (Chg.refl NoS w2).alloc (.cells #[.pointer (some ⟨w.heap.size, 0, none⟩), .int .i64 0, .pointer none, .pointer none] 107)
  refine ⟨w2.heap.size, w.heap.size, rfl, ⟨.pointer none, .pointer none, ⟨Blk.new _ _ _, HWR.out.chg hc3 (fun _ _ e => e), .inl ⟨rfl, rfl⟩, HC2.out.size, Nat.le_refl _, fun i h => by simp [Value.ownBlock] at h⟩⟩, HC2.out.trans hc3 (fun _ _ e => e)⟩
def fnOf (k : Nat) : Nat := if k = 0 then 88 else if k = 1 then 90 else 95
theorem writer_any (g k : Nat) (hk : k ≤ 2) (w : World) :
    Calls Tryz.prog 64 #[.pointer (some ⟨g, 0, none⟩), .int .i64 (k : Nat)] w fun e w' => e = .returned (.func (.func (fnOf k)) #[] #[.pointer (some ⟨w.heap.size, 0, none⟩)]) ∧ Blk w' w.heap.size 72 #[.pointer (some ⟨g, 0, none⟩)] ∧ Chg NoS w w' := by
  rcases Nat.eq_zero_or_pos k with rfl | h1
  · go_enter Tryz.func64, Tryz.ntmps64
    go_wp2_with fail
    go_ret
    exact ⟨rfl, (Blk.new _ _ _).alloc _, ((Chg.refl _ _).alloc _).alloc _⟩
  · rcases Nat.lt_or_ge k 2 with h2 | h2
    · obtain rfl : k = 1 := by omega
      go_enter Tryz.func64, Tryz.ntmps64
      go_wp2_with fail
      go_ret
      exact ⟨rfl, (Blk.new _ _ _).alloc _, ((Chg.refl _ _).alloc _).alloc _⟩
    · obtain rfl : k = 2 := by omega
      go_enter Tryz.func64, Tryz.ntmps64
      go_wp2_with fail
      go_ret
      exact ⟨rfl, (Blk.new _ _ _).alloc _, ((Chg.refl _ _).alloc _).alloc _⟩
theorem fn_ok (k : Nat) (hk : k ≤ 2) (w : World) (B g gw x bx : Nat) (last : Bool) (L : List Bool) (S V : Value) (A : Option Addr) (c : Nat) (bs : List Nat) (h : WAt w B g gw x bx L S V A c bs) (hl : L.length + 64 * bs.length + 20000 ≤ 700000000) :
    Calls Tryz.prog (fnOf k) #[.pointer (some ⟨x, 0, none⟩), .bool last, .pointer (some ⟨bx, 0, none⟩)] w (WTo w k B g gw x bx last L S A c bs) := by
  rcases Nat.eq_zero_or_pos k with rfl | h1
  · exact writer1_ok w B g gw x bx last L S V A c bs h hl
  · rcases Nat.lt_or_ge k 2 with h2 | h2
    · obtain rfl : k = 1 := by omega
      exact writer2_ok w B g gw x bx last L S V A c bs h hl
    · obtain rfl : k = 2 := by omega
      exact writer3_ok w B g gw x bx last L S V A c bs h hl
theorem fn_eg (k : Nat) : ∀ args w, (callFunc (fnOf k) args).run Tryz.prog w = .ok (.enter (fnOf k) args) w := by
  unfold fnOf
  split
  · exact enters_of Tryz.func88 (by kernel_rfl) rfl
  · split
    · exact enters_of Tryz.func90 (by kernel_rfl) rfl
    · exact enters_of Tryz.func95 (by kernel_rfl) rfl
theorem src_lt {w : World} {n c : Nat} {A : Option Addr} {bs : List Nat} (h : Src w 1 A n c (ucells bs)) : ∀ ad, A = some ad → bs ≠ [] → ad.block < w.heap.size := by
  rintro ad rfl hne
  rcases bs with _ | ⟨b, bs⟩
  · exact absurd rfl hne
  · obtain ⟨k, off, he, hcell⟩ := h.plain (by simp [ucells])
    simp only [Option.some.injEq] at he
    subst he
    exact cell_lt (hcell 0 (.int .u8 (b : Nat)) rfl)
def AloneTo (w : World) (k x : Nat) (A : Option Addr) (c : Nat) (bs : List Nat) (e : Ending) (w' : World) : Prop :=
  ∃ (g gw : Nat) (L : List Bool) (S V' : Value), e = .returned (.pointer (some ⟨g, 0, none⟩)) ∧ Wrote k true bs [] L ∧ Pd w' w.heap.size g gw L S ∧ PartSt w' x A c bs V' ∧ Chg (fun i => i = x) w w'
set_option maxHeartbeats 1000000 in
set_option maxRecDepth 100000 in
theorem alone_ok (k : Nat) (hk : k ≤ 2) (x : Nat) (A : Option Addr) (c : Nat) (bs : List Nat) (V : Value) (w : World) (hp : PartSt w x A c bs V) (hb : ∀ b ∈ bs, b < 256) (hl : bs.length ≤ 1000000) :
    Calls Tryz.prog 42 #[.pointer (some ⟨x, 0, none⟩), .int .i64 (k : Nat)] w (AloneTo w k x A c bs) := by
  have HP := keepf hp
  have HB := keepf hb
  have eg := fn_eg k
  have HFN := keepf (fun w B g gw x bx last L S V A c bs h hl => fn_ok k hk w B g gw x bx last L S V A c bs h hl)
  have HWR := keepf (fun g w => writer_any g k hk w)
  obtain ⟨f, hf⟩ : ∃ f, f = fnOf k := ⟨_, rfl⟩
  rw [← hf] at eg HFN HWR
  clear hp hb hf
  go_enter Tryz.func42, Tryz.ntmps42
  go_wp2_with (first
    | (go_at_call 63; refine (newPacked_any _).mono ?_; rintro e w2 ⟨g, gw, rfl, hp2, hc2⟩; have HP2 := keepf hp2; have HC2 := keepf hc2; clear hp2 hc2)
    | (go_at_call 64; refine (HWR.out _ _).mono ?_; rintro e w3 ⟨rfl, hb3, hc3⟩; have hwat := WAt.mk (HP2.out.no hc3) hb3 (HP.out.no (HC2.out.trans hc3 (fun _ _ e => e))) (src_lt HP.out.src) HB.out; have HC3 := keepf (HC2.out.trans hc3 (fun _ _ e => e)); have HF := keepf (HFN.out _ _ _ _ _ _ true _ _ _ _ _ _ hwat (by simp; omega)); clear hb3 hc3 hwat)
    | (go_at_fn f; refine HF.out.mono ?_; rintro e w4 ⟨rfl, L, S, V', hw4, hp4, hx4, hm4⟩; have HW4 := keepf hw4; have HP4 := keepf hp4; have HX4 := keepf hx4; have HM4 := keepf hm4; clear hw4 hp4 hx4 hm4))
  go_ret
  refine ⟨g, gw, L, S, V', rfl, HW4.out, HP4.out, HX4.out, (HC3.out.mono (fun _ _ e => e.elim)).trans HM4.out.c (fun i hi hT => ?_)⟩
  rcases hT with (e | e | e) | e
  · obtain ⟨_, _, h⟩ := HP2.out
    have := h.bg
    omega
  · obtain ⟨_, _, h⟩ := HP2.out
    have := h.bw
    omega
  · simp [Value.ownBlock] at e
  · exact e
def ResTo (w : World) (L : List Bool) (e : Ending) (w' : World) : Prop :=
  ∃ (A : Option Addr) (c : Nat), e = .returned (.tuple #[.slice A (bytesOf false L).length c, .int .i64 0]) ∧ w'.ownsRow 0 5 1 (.slice A (bytesOf false L).length c) (bytesOf false L).length (ucells (bytesOf false L)) ∧ Chg NoS w w'
theorem result_ok (B g gw : Nat) (L : List Bool) (S : Value) (w : World) (hp : Pd w B g gw L S) (hL : L.length ≤ 1000000000) :
    Calls Tryz.prog 41 #[.pointer (some ⟨g, 0, none⟩)] w (ResTo w L) := by
  have c0 := hp.c0
  obtain ⟨fs, fd, hp⟩ := hp
  have c1 := hp.blk.cell 1
  simp at c1
  have hby := bytes_any gw false L S w hp.wr (by omega)
  have HBY : Hid (Calls Tryz.prog 62 #[.pointer (some ⟨gw, 0, none⟩)] w fun e w' => ∃ A c, e = .returned (.slice A (bytesOf false L).length c) ∧ w'.ownsRow 0 5 1 (.slice A (bytesOf false L).length c) (bytesOf false L).length (ucells (bytesOf false L)) ∧ Chg NoS w w') := by
    refine hby.mono ?_
    rintro e w' ⟨A, c, rfl, ho, hc, _⟩
    have e1 : nby L.length = (bytesOf false L).length := by rw [bytesOf_length]
    rw [e1] at ho ⊢
    exact ⟨A, c, rfl, ho, hc⟩
  obtain ⟨n, hn⟩ : ∃ n, n = (bytesOf false L).length := ⟨_, rfl⟩
  have HN := keepf hn
  rw [← hn] at HBY
  clear hp hby hn
  go_enter Tryz.func41, Tryz.ntmps41
  go_wp2_with (go_at_call 62; refine HBY.out.mono ?_; rintro e w2 ⟨A, c, rfl, ho2, hc2⟩; have HO2 := keepf ho2; have HC2 := keepf hc2; clear ho2 hc2)
  go_ret2
  exact ⟨A, c, by rw [← HN.out]; rfl, by rw [← HN.out]; exact HO2.out, HC2.out⟩
theorem size_ok (B g gw : Nat) (L : List Bool) (S : Value) (w : World) (hp : Pd w B g gw L S) (hL : L.length ≤ 1000000000) :
    Calls Tryz.prog 61 #[.pointer (some ⟨g, 0, none⟩)] w fun e w' => e = .returned (.int .i64 (nby L.length : Nat)) ∧ w = w' := by
  have c0 := hp.c0
  obtain ⟨fs, fd, hp⟩ := hp
  have h0 := hp.wr.1.cell 0
  have h2 := hp.wr.1.cell 2
  simp at h0 h2
  have HL := keepf (len_any gw L.length w (by exact h0) (by exact h2))
  obtain ⟨n, hn⟩ : ∃ n, n = L.length := ⟨_, rfl⟩
  rw [← hn] at HL hL ⊢
  clear hp hn h0 h2
  go_enter Tryz.func61, Tryz.ntmps61
  go_wp2_with (go_at_call 85; refine HL.out.mono ?_; rintro e w' ⟨rfl, rfl⟩)
  go_ret
  refine ⟨?_, rfl⟩
  have : ((nby n : Nat) : Int) = ((n : Int) + 7) / 8 := by unfold nby; omega
  rw [this]
  rfl
end Go.Proofs.YtmmilchmnimjoaaGreat
/- least, and Deflate: the contract of the whole. -/
namespace Go.Proofs.YtmmilchmnimjoaaGreat
open Go.RowKit
set_option linter.unusedVariables false
set_option linter.unusedSimpArgs false
def Best (bs : List Nat) : Nat → List Bool → Prop
  | 0, L => Wrote 0 true bs [] L
  | i + 1, L => ∃ Lb Ln, Best bs i Lb ∧ Wrote (i + 1) true bs [] Ln ∧ L = if nby Ln.length < nby Lb.length then Ln else Lb
def Packed (k : Nat) (bs : List Nat) (L : List Bool) : Prop := if k = 3 then Best bs 2 L else Wrote k true bs [] L
theorem wrote_len {k : Nat} {bs : List Nat} {L : List Bool} (h : Wrote k true bs [] L) : L.length ≤ 64 * bs.length + 10000 := by
  have hst : ∀ (m : Nat) (bs : List Nat) (L : List Bool), bs.length ≤ m → (storedL true bs L).length ≤ L.length + 16 * bs.length + 100 := by
    intro m
    induction m with
    | zero =>
      intro bs L h
      rw [storedL, dif_pos (by omega), blockL_len]
      omega
    | succ m ih =>
      intro bs L h
      rw [storedL]
      split
      · rw [blockL_len]; omega
      · have h2 := ih (bs.drop 65535) (blockL false (bs.take 65535) L) (by simp; omega)
        rw [blockL_len, List.length_drop, List.length_take] at h2
        omega
  cases h with
  | stored =>
    have := hst bs.length bs [] (Nat.le_refl _)
    simp at this
    omega
  | fixed _ _ _ T hT =>
    have h1 := evsBits_len fixS_may fixD_may (evs T) (fix_evOk hT.ok.well)
    have h2 := toks_small hT
    rw [List.length_append, List.length_append, headBits_len]
    simp only [List.length_nil]
    omega
  | own _ _ _ T X Y cl hT ho =>
    have h1 := evsBits_len ho.may.1 ho.may.2.1 (evs T) (own_evOk hT.ok.well ho)
    have h2 := toks_small hT
    have h3 := ownBits_len ho
    rw [List.length_append, List.length_append, List.length_append, headBits_len]
    simp only [List.length_nil]
    omega
theorem best_len {bs : List Nat} : ∀ {i : Nat} {L : List Bool}, Best bs i L → L.length ≤ 64 * bs.length + 10000
  | 0, L, h => wrote_len h
  | i + 1, L, ⟨Lb, Ln, h1, h2, h3⟩ => by
    subst h3
    split
    · exact wrote_len h2
    · exact best_len h1
theorem packed_len {k : Nat} {bs : List Nat} {L : List Bool} (h : Packed k bs L) : L.length ≤ 64 * bs.length + 10000 := by
  unfold Packed at h
  split at h
  · exact best_len h
  · exact wrote_len h
theorem best_wrote {bs : List Nat} : ∀ {i : Nat} {L : List Bool}, Best bs i L → ∃ k, Wrote k true bs [] L
  | 0, L, h => ⟨0, h⟩
  | i + 1, L, ⟨Lb, Ln, h1, h2, h3⟩ => by
    subst h3
    split
    · exact ⟨_, h2⟩
    · exact best_wrote h1
theorem packed_wrote {k : Nat} {bs : List Nat} {L : List Bool} (h : Packed k bs L) : ∃ k', Wrote k' true bs [] L := by
  unfold Packed at h
  split at h
  · exact best_wrote h
  · exact ⟨_, h⟩
def BestTo (w : World) (x : Nat) (A : Option Addr) (c : Nat) (bs : List Nat) (e : Ending) (w' : World) : Prop :=
  ∃ (B g gw : Nat) (L : List Bool) (S V' : Value), e = .returned (.pointer (some ⟨g, 0, none⟩)) ∧ Best bs 2 L ∧ Pd w' B g gw L S ∧ PartSt w' x A c bs V' ∧ Chg (fun i => i = x) w w'
set_option maxHeartbeats 1000000 in
set_option maxRecDepth 100000 in
theorem least_ok (x : Nat) (A : Option Addr) (c : Nat) (bs : List Nat) (V : Value) (w : World) (hp : PartSt w x A c bs V) (hb : ∀ b ∈ bs, b < 256) (hl : bs.length ≤ 1000000) :
    Calls Tryz.prog 40 #[.pointer (some ⟨x, 0, none⟩)] w (BestTo w x A c bs) := by
  have HA0 := keepf (alone_ok 0 (by omega) x A c bs V w hp hb hl)
  have HB := keepf hb
  clear hp hb
  go_enter Tryz.func40, Tryz.ntmps40
  go_wp2_with (go_at_call 42; refine HA0.out.mono ?_; rintro e w1 ⟨g, gw, L, S, V1, rfl, hw1, hp1, hx1, hc1⟩; have HW1 := keepf hw1; have HP1 := keepf hp1; have HX1 := keepf hx1; have HC1 := keepf hc1; clear hw1 hp1 hx1 hc1)
  have hb2 := Blk.new w1 3 #[.int .i64 1, .int .i64 2]
  have HB2 := keepf hb2
  have HC2 := keepf ((Chg.refl NoS w1).alloc (.cells #[.int .i64 1, .int .i64 2] 3))
  clear hb2
  go_loopw [3, 11] (fun vb vi wr => ∃ (i B1 g1 gw1 : Nat) (L1 : List Bool) (S1 V2 : Value), i ≤ 2 ∧ vi = .int .i64 (i : Nat) ∧ vb = .pointer (some ⟨g1, 0, none⟩) ∧ Hid (Best bs i L1) ∧ Hid (Pd wr B1 g1 gw1 L1 S1) ∧ Hid (PartSt wr x A c bs V2) ∧ Hid (Chg (fun j => j = x) (w1.alloc (.cells #[.int .i64 1, .int .i64 2] 3)) wr)) (fun _ vi _ => 2 - (intOf vi).toNat)
  case atStart => exact ⟨0, _, g, gw, L, S, V1, by omega, rfl, rfl, HW1.out, HP1.out.no HC2.out, HX1.out.no HC2.out, Chg.refl _ _⟩
  case round =>
    obtain ⟨i, B1, g1, gw1, L1, S1, V2, hi, rfl, rfl, HBS, HP, HX, HCH⟩ := hrel
    by_cases hlt : i < 2
    · have hbk := HB2.out.chg HCH.out (fun e => Blk.ne_ HB2.out (HX1.out.no HC2.out).blk (by decide) e)
      have ck : wr.cell? ⟨w1.heap.size, i, none⟩ = some (.int .i64 ((i : Int) + 1)) := by
        rw [hbk.cell]
        rcases Nat.eq_zero_or_pos i with rfl | h1
        · rfl
        · obtain rfl : i = 1 := by omega
          rfl
      have HAK := keepf (alone_ok (i + 1) (by omega) x A c bs V2 wr HX.out HB.out hl)
      rw [show ((i + 1 : Nat) : Int) = (i : Int) + 1 from by omega] at HAK
      have hi1 : (i : Int) < 2 := by omega
      clear hbk
      go_upto_region 6 with (go_at_call 42; refine HAK.out.mono ?_; rintro e w3 ⟨g3, gw3, L3, S3, V3, rfl, hw3, hp3, hx3, hc3⟩; have HW3 := keepf hw3; have HP3 := keepf hp3; have HX3 := keepf hx3; have HPB := keepf (HP.out.part HX.out.blk hc3); have HC3 := keepf (HCH.out.trans hc3 (fun _ _ e => e)); clear hw3 hp3 hx3 hc3)
      have hl3 := wrote_len HW3.out
      have hl1 := best_len HBS.out
      have HZ3 := keepf (size_ok _ g3 gw3 L3 S3 w3 HP3.out (by omega))
      have HZ1 := keepf (size_ok _ g1 gw1 L1 S1 w3 HPB.out (by omega))
      obtain ⟨n3, hn3⟩ : ∃ n3, n3 = nby L3.length := ⟨_, rfl⟩
      obtain ⟨n1, hn1⟩ : ∃ n1, n1 = nby L1.length := ⟨_, rfl⟩
      rw [← hn3] at HZ3
      rw [← hn1] at HZ1
      have HN3 := keepf hn3
      have HN1 := keepf hn1
      clear hn3 hn1 ck hl3 hl1
      by_cases hs : n3 < n1
      · have d1 : decide ((n3 : Int) < n1) = true := by simpa using hs
        have d2 : decide (n3 < n1) = true := by simpa using hs
        have hbst : Best bs (i + 1) L3 := ⟨L1, L3, HBS.out, HW3.out, by rw [← HN3.out, ← HN1.out, if_pos hs]⟩
        have HBST := keepf hbst
        clear hs hbst
        go_wp2_with (go_at_call 61; first | (have hm := HMK.out; refine HZ1.out.mono ?_; rintro e w' ⟨rfl, rfl⟩) | (refine HZ3.out.mono ?_; rintro e w' ⟨rfl, rfl⟩; have HMK := keepf (trivial : True)))
        go_roundw
        case rel => exact ⟨i + 1, _, g3, gw3, L3, S3, V3, by omega, by go_num, rfl, HBST.out, HP3.out, HX3.out, HC3.out⟩
        case measure => simp [intOf]; omega
      · have d1 : decide ((n3 : Int) < n1) = false := by simpa using hs
        have d2 : decide (n3 < n1) = false := by simpa using hs
        have hbst : Best bs (i + 1) L1 := ⟨L1, L3, HBS.out, HW3.out, by rw [← HN3.out, ← HN1.out, if_neg hs]⟩
        have HBST := keepf hbst
        clear hs hbst
        go_wp2_with (go_at_call 61; first | (have hm := HMK.out; refine HZ1.out.mono ?_; rintro e w' ⟨rfl, rfl⟩) | (refine HZ3.out.mono ?_; rintro e w' ⟨rfl, rfl⟩; have HMK := keepf (trivial : True)))
        go_roundw
        case rel => exact ⟨i + 1, _, g1, gw1, L1, S1, V3, by omega, by go_num, rfl, HBST.out, HPB.out, HX3.out, HC3.out⟩
        case measure => simp [intOf]; omega
    · obtain rfl : i = 2 := by omega
      go_wp2_with fail
      go_ret
      exact ⟨B1, g1, gw1, L1, S1, V2, rfl, HBS.out, HP.out, HX.out, (HC1.out.trans (HC2.out.mono (fun _ _ e => e.elim)) (fun _ _ e => e)).trans HCH.out (fun _ _ e => e)⟩
def DefTo (w : World) (k : Nat) (bs : List Nat) (e : Ending) (w' : World) : Prop := ∃ L, Packed k bs L ∧ ResTo w L e w'
theorem deflate_no (bs : List Nat) (A : Option Addr) (c : Nat) (k : Int) (w : World) (hk : k < 0 ∨ 3 < k) (h0 : -9223372036854775808 ≤ k) (h1 : k ≤ 9223372036854775807) :
    Calls Tryz.prog 24 #[.slice A bs.length c, .int .i64 k] w fun e w' => e = .returned (.tuple #[.slice none 0 0, .int .i64 2]) ∧ w = w' := by
  rcases hk with h | h
  · have d1 : decide (k < 0) = true := by simpa using h
    go_enter Tryz.func24, Tryz.ntmps24
    go_wp2_with fail
    go_ret2
    exact ⟨rfl, rfl⟩
  · have d1 : decide (k < 0) = false := by simp; omega
    have d2 : decide (3 < k) = true := by simpa using h
    go_enter Tryz.func24, Tryz.ntmps24
    go_wp2_with fail
    go_ret2
    exact ⟨rfl, rfl⟩
set_option maxHeartbeats 1000000 in
set_option maxRecDepth 100000 in
theorem deflate_ok (bs : List Nat) (A : Option Addr) (c : Nat) (k : Nat) (w : World) (hS : Src w 1 A bs.length c (ucells bs)) (hc : bs.length ≤ c) (hb : ∀ b ∈ bs, b < 256) (hl : bs.length ≤ 1000000) (hk : k ≤ 3) :
    Calls Tryz.prog 24 #[.slice A bs.length c, .int .i64 (k : Nat)] w (DefTo w k bs) := by
  have hw1 : Chg NoS w (w.alloc (.cells #[.slice A bs.length c, .slice none 0 0] 71)) := (Chg.refl NoS w).alloc _
  have hx : PartSt (w.alloc (.cells #[.slice A bs.length c, .slice none 0 0] 71)) w.heap.size A c bs (.slice none 0 0) := ⟨Blk.new _ _ _, hS.below (w0 := w) hw1, hc, .inl rfl⟩
  have HW1 := keepf hw1
  have d0 : decide ((k : Int) < 0) = false := by simp
  have d1 : decide ((3 : Int) < (k : Int)) = false := by simp; omega
  have d1' : decide (3 < k) = false := by simp; omega
  have d2 : decide ((16777216 : Int) < (bs.length : Int)) = false := by simp; omega
  have d2' : decide (16777216 < bs.length) = false := by simp; omega
  have hfin : ∀ {w' : World}, Chg (fun i => i = w.heap.size) (w.alloc (.cells #[.slice A bs.length c, .slice none 0 0] 71)) w' → Chg NoS w w' := fun h => hw1.trans h (fun i hi e => by omega)
  have HFIN : Hid (∀ {w' : World}, Chg (fun i => i = w.heap.size) (w.alloc (.cells #[.slice A bs.length c, .slice none 0 0] 71)) w' → Chg NoS w w') := hfin
  by_cases h3 : k = 3
  · subst h3
    have HLE := keepf (least_ok w.heap.size A c bs _ _ hx hb hl)
    obtain ⟨n, hn⟩ : ∃ n, n = bs.length := ⟨_, rfl⟩
    rw [← hn] at d2 d2' HLE HFIN ⊢
    have HL := keepf (show bs.length ≤ 1000000 from hl)
    clear hn hS hx hb hw1 hfin HW1 hl hc
    go_enter Tryz.func24, Tryz.ntmps24
    go_wp2_with (first
      | (go_at_call 40; refine HLE.out.mono ?_; rintro e w2 ⟨B, g, gw, L, S, V', rfl, hbe, hp2, hx2, hc2⟩; have HBE := keepf hbe; have HR := keepf (result_ok B g gw L S w2 hp2 (by have := best_len hbe; have := HL.out; omega)); have HC2 := keepf (HFIN.out hc2); clear hbe hp2 hx2 hc2)
      | (go_at_call 41; refine HR.out.mono ?_; rintro e w3 ⟨A3, c3, rfl, ho3, hc3⟩; have HO3 := keepf ho3; have HC3 := keepf (HC2.out.trans hc3 (fun _ _ e => e)); clear ho3 hc3))
    go_ret2
    exact ⟨L, by unfold Packed; rw [if_pos rfl]; exact HBE.out, A3, c3, rfl, HO3.out, HC3.out⟩
  · have u3 : ((k : Int) == 3) = false := by simp; omega
    have HLE := keepf (alone_ok k (by omega) w.heap.size A c bs _ _ hx hb hl)
    have H3 := keepf h3
    obtain ⟨n, hn⟩ : ∃ n, n = bs.length := ⟨_, rfl⟩
    rw [← hn] at d2 d2' HLE HFIN ⊢
    have HL := keepf (show bs.length ≤ 1000000 from hl)
    clear hn hS hx hb hw1 hfin HW1 hl hc h3
    go_enter Tryz.func24, Tryz.ntmps24
    go_wp2_with (first
      | (go_at_call 42; refine HLE.out.mono ?_; rintro e w2 ⟨g, gw, L, S, V', rfl, hbe, hp2, hx2, hc2⟩; have HBE := keepf hbe; have HR := keepf (result_ok _ g gw L S w2 hp2 (by have := wrote_len hbe; have := HL.out; omega)); have HC2 := keepf (HFIN.out hc2); clear hbe hp2 hx2 hc2)
      | (go_at_call 41; refine HR.out.mono ?_; rintro e w3 ⟨A3, c3, rfl, ho3, hc3⟩; have HO3 := keepf ho3; have HC3 := keepf (HC2.out.trans hc3 (fun _ _ e => e)); clear ho3 hc3))
    go_ret2
    exact ⟨L, by unfold Packed; rw [if_neg H3.out]; exact HBE.out, A3, c3, rfl, HO3.out, HC3.out⟩
end Go.Proofs.YtmmilchmnimjoaaGreat
/- Bound; what was packed unpacks; works. -/
namespace Go.Proofs.YtmmilchmnimjoaaGreat
open Go.RowKit
set_option linter.unusedVariables false
set_option linter.unusedSimpArgs false
theorem packed_runs {k : Nat} {bs : List Nat} {L : List Bool} {most : Nat} (h : Packed k bs L) (hb : ∀ x ∈ bs, x < 256) (hm : bs.length ≤ most) : Runs (bytesOf false L) most st0 (.ok bs L.length) := by
  obtain ⟨k', h⟩ := packed_wrote h
  have := wrote_runs (most := most) (out := []) h hb (by simpa using hm)
  simpa [st0] using this
theorem packed_size (L : List Bool) : (L.length + 7) / 8 = (bytesOf false L).length := by rw [bytesOf_length]; rfl
theorem byte_lt {L : List Bool} : ∀ b ∈ bytesOf false L, b < 256 := by
  intro b hb
  obtain ⟨i, _, rfl⟩ := List.mem_map.1 hb
  exact byteAt_lt _ _ _
theorem src_nil (w : World) : Src w 1 none ([] : List Nat).length 0 (ucells []) := ⟨rfl, fun _ => ⟨rfl, rfl⟩, fun ad h => by cases h⟩
theorem src_mark7 {w : World} (cs : Array Value) (t : TypeId) (fr : Nat × Nat) {n m size : Nat} (h : n = w.heap.size) (hs : cs.size = m * size) : Src (w.alloc (.cells cs t fr)) size (some ⟨n, 0, none⟩) m m cs.toList := by
  subst h
  refine ⟨by simpa using hs, fun h => (by cases h), fun ad hA j u hu => ?_⟩
  cases hA
  have hb := heap_alloc_new w (.cells cs t fr)
  have hc := cell_of_row (w.alloc (.cells cs t fr)) w.heap.size j cs t fr hb
  rw [← Array.getElem?_toList, hu] at hc
  by_cases hj : j = 0
  · subst hj; simpa [Addr.add] using hc
  · simpa [Addr.add, hj] using hc
theorem bstrA : bstr [97] = ⟨#[97]⟩ := rfl
end Go.Proofs.YtmmilchmnimjoaaGreat
