/- Tokens: bytes' tokens, of which the bytes come back. -/
import Derived.Test.YtomkejeofcpchaaReps
namespace Go.Proofs.Ytomkejeofcpchaa
open Go.RowKit
set_option linter.unusedVariables false
set_option linter.unusedSimpArgs false

def tokOf (bs : List Nat) (p : Nat) (r : Rp) : Tk := ⟨if r.1 = 0 then bs.getD p 0 else 0, (r.1 : Nat), (r.2 : Nat)⟩
def toks (bs : List Nat) : List Rp → Nat → List Tk
  | [], _ => []
  | r :: L, p => tokOf bs p r :: toks bs L (p + r.size)
theorem toks_len (bs : List Nat) : ∀ (L : List Rp) (p : Nat), (toks bs L p).length = L.length
  | [], _ => rfl
  | r :: L, p => by simp [toks, toks_len bs L]
theorem toks_snoc {bs : List Nat} {g : Nat → Nat} {r : Rp} : ∀ {L : List Rp} {p q : Nat}, Lead bs g L p q → toks bs (L ++ [r]) p = toks bs L p ++ [tokOf bs q r]
  | [], p, q, h => by cases h; rfl
  | s :: L, p, q, h => by rw [List.cons_append, toks, toks, toks_snoc h.2.2.2, List.cons_append]
theorem tok_size (bs : List Nat) (p : Nat) (r : Rp) : (tokOf bs p r).size = (r.size : Nat) := by
  unfold Tk.size tokOf Rp.size
  simp only
  split <;> split <;> omega
theorem take_getD {bs : List Nat} {p : Nat} (h : p < bs.length) : bs.take (p + 1) = bs.take p ++ [bs.getD p 0] := by
  rw [List.take_succ_eq_append_getElem h, List.getD_eq_getElem?_getD, List.getElem?_eq_getElem h]
  rfl
theorem repL_take {bs : List Nat} {far : Nat} : ∀ (l p : Nat), far ≤ p → 1 ≤ far → p + l ≤ bs.length → (∀ j, j < l → bs.getD (p + j) 0 = bs.getD (p + j - far) 0) → repL far l (bs.take p) = bs.take (p + l)
  | 0, p, _, _, _, _ => rfl
  | l + 1, p, hf, h1, hl, he => by
    have hlen : (bs.take p).length = p := by rw [List.length_take]; omega
    rw [repL, hlen]
    have e1 : (bs.take p).getD (p - far) 0 = bs.getD p 0 := by
      have := he 0 (by omega)
      rw [Nat.add_zero] at this
      rw [this, List.getD_eq_getElem?_getD, List.getD_eq_getElem?_getD, List.getElem?_take_of_lt (by omega)]
    rw [e1, ← take_getD (by omega), repL_take l (p + 1) (by omega) h1 (by omega) (fun j hj => by
      have := he (j + 1) (by omega)
      rw [show p + (j + 1) = p + 1 + j from by omega] at this
      exact this), show p + 1 + l = p + (l + 1) from by omega]
/-- A token that may be puts the bytes that stand there. -/
theorem tok_put {bs : List Nat} {p : Nat} {r : Rp} (h : RepOk bs p r.1 r.2) (hp : p < bs.length) {most : Int} (hm : (p : Int) + (r.size : Nat) ≤ most) : (tokOf bs p r).err (bs.take p).length most = 0 ∧ (tokOf bs p r).put (bs.take p) = bs.take (p + r.size) := by
  obtain ⟨l, f⟩ := r
  have hlen : (bs.take p).length = p := by rw [List.length_take]; omega
  have hsz := tok_size bs p (l, f)
  rcases h with ⟨h1, h2⟩ | ⟨h1, h2, h3, h4, h5, h6, h7⟩
  · simp only at h1 h2
    subst h1 h2
    have hw : (tokOf bs p (0, 0)).wellB = true := by simp [tokOf, Tk.wellB]
    refine ⟨?_, ?_⟩
    · unfold Tk.err
      rw [hw, hsz, hlen, if_neg (by decide), if_neg (by show ¬ (p : Int) < ((0 : Nat) : Int); omega), if_neg (by omega)]
    · have : Rp.size (0, 0) = 1 := rfl
      rw [this, take_getD hp]
      simp [Tk.put, tokOf]
  · simp only at h1 h2 h3 h4 h5 h6 h7
    have hw : (tokOf bs p (l, f)).wellB = true := by simp [tokOf, Tk.wellB]; split <;> omega
    refine ⟨?_, ?_⟩
    · unfold Tk.err
      rw [hw, hsz, hlen, if_neg (by decide), if_neg (by show ¬ (p : Int) < ((f : Nat) : Int); omega), if_neg (by omega)]
    · have : Rp.size (l, f) = l := by unfold Rp.size; rw [if_neg (show ¬ l = 0 by omega)]
      rw [this, Tk.put, if_neg (by simp [tokOf]; omega)]
      simp only [tokOf, Int.toNat_natCast]
      exact repL_take l p h5 h3 h6 h7
theorem toks_run {bs : List Nat} {g : Nat → Nat} {most : Int} (hm : (bs.length : Int) ≤ most) : ∀ {L : List Rp} {p q : Nat}, Lead bs g L p q → runT most (toks bs L p) (bs.take p) = .ok (bs.take q)
  | [], p, q, h => by cases h; rfl
  | r :: L, p, q, h => by
    have h1 := h.1.size_le h.2.2.1
    obtain ⟨h2, h3⟩ := tok_put h.1 h.2.2.1 (most := most) (by omega)
    rw [toks, runT, if_pos h2, h3]
    exact toks_run hm h.2.2.2
theorem toks_good {bs : List Nat} {g : Nat → Nat} (hb : ∀ b ∈ bs, b < 256) : ∀ {L : List Rp} {p q : Nat}, Lead bs g L p q → ∀ t ∈ toks bs L p, t.b < 256 ∧ 0 ≤ t.l ∧ t.l ≤ 258 ∧ 0 ≤ t.f ∧ t.f ≤ 32768
  | [], p, q, h, t, ht => by cases ht
  | r :: L, p, q, h, t, ht => by
    rcases List.mem_cons.1 ht with rfl | ht
    · have := h.1.le
      refine ⟨?_, by simp [tokOf], by simp [tokOf]; omega, by simp [tokOf], by simp [tokOf]; omega⟩
      show (if r.1 = 0 then bs.getD p 0 else 0) < 256
      split
      · exact getD_lt hb p
      · decide
    · exact toks_good hb h.2.2.2 t ht
theorem toks_single {bs : List Nat} : ∀ {L : List Rp} {p : Nat}, (∀ t ∈ toks bs L p, t.l = 0) → ∀ r ∈ L, r.1 = 0
  | [], p, h, r, hr => by cases hr
  | s :: L, p, h, r, hr => by
    rcases List.mem_cons.1 hr with rfl | hr
    · have := h _ (List.mem_cons_self ..)
      simpa [tokOf] using this
    · exact toks_single (fun t ht => h t (List.mem_cons_of_mem _ ht)) r hr

/-- What tokens of bytes are. -/
structure TokensOk (bs : List Nat) (T : List Tk) : Prop where
  run : runT bs.length T [] = .ok bs
  good : ∀ t ∈ T, t.b < 256 ∧ 0 ≤ t.l ∧ t.l ≤ 258 ∧ 0 ≤ t.f ∧ t.f ≤ 32768
  count : T.length ≤ bs.length
  fewer : (∃ v p, v < p ∧ p + 2 < bs.length ∧ p ≤ v + 32768 ∧ threeOf bs v = threeOf bs p) → T.length < bs.length
theorem tokens_ok {bs : List Nat} {g : Nat → Nat} {L : List Rp} (hb : ∀ b ∈ bs, b < 256) (h : Lead bs g L 0 bs.length) (hg : StepsOk bs g) : TokensOk bs (toks bs L 0) := by
  have hr := toks_run (most := bs.length) (Int.le_refl _) h
  rw [List.take_zero, List.take_length] at hr
  have hc := runT_count _ _ _ hr
  refine ⟨hr, toks_good hb h, by simpa using hc, ?_⟩
  rintro ⟨v, p, h1, h2, h3, h4⟩
  have hx : ∃ t ∈ toks bs L 0, t.l ≠ 0 := by
    apply Classical.byContradiction
    intro hn
    have hall : ∀ t ∈ toks bs L 0, t.l = 0 := fun t ht => Classical.byContradiction fun h0 => hn ⟨t, ht, h0⟩
    exact (hg.at_ p h2).found v h1 h3 h4 (h.single (toks_single hall) p (Nat.zero_le _) (by omega))
  simpa using runT_fewer _ _ _ hr hx

def TokensTo (w : World) (bs : List Nat) (e : Ending) (w' : World) : Prop :=
  ∃ (T : List Tk) (A : Option Addr) (c : Nat), e = .returned (.slice A T.length c) ∧ NewT w T A c w' ∧ (bs.length ≤ 16777216 → TokensOk bs T) ∧ (16777216 < bs.length → T = [])

theorem info_tok : (Try.prog.info? 42).map (fun i => (i.zero, i.size, i.bytes)) = some (some (.agg #[.int .u8 0, .int .i64 0, .int .i64 0]), 3, 24) := by kernel_rfl
theorem encT_one (t : Tk) : ∀ u ∈ encT t, u.oneCell' = true := by
  intro u hu
  simp only [encT, List.mem_cons, List.not_mem_nil, or_false] at hu
  rcases hu with rfl | rfl | rfl <;> rfl

theorem tokens_many (bs : List Nat) (A : Option Addr) (c : Nat) (w : World) (hl : 16777216 < bs.length) :
    Calls Try.prog 12 #[.slice A bs.length c] w (TokensTo w bs) := by
  obtain ⟨n, hn⟩ : ∃ n, n = bs.length := ⟨_, rfl⟩
  have HN := keepf hn
  rw [← hn] at hl ⊢
  clear hn
  have d1 : decide ((16777216 : Int) < n) = true := by simp; omega
  go_enter Try.func12, Try.ntmps12
  go_wp2_with fail
  go_ret
  exact ⟨[], none, 0, rfl, ⟨own_nil _ _ _ _, Chg.refl _ _, fun a h => by cases h⟩, fun h => by have := HN.out; omega, fun _ => rfl⟩

structure TLoop (w1 wr : World) (bs : List Nat) (g : Nat → Nat) (L : List Rp) (k p : Nat) (A : Option Addr) (c : Nat) : Prop where
  own : wr.ownsRow 0 42 3 (.slice A k c) k (kcells (toks bs (L.take k) 0))
  one : Lead bs g (L.take k) 0 p
  two : Lead bs g (L.drop k) p bs.length
  chg : Chg NoS w1 wr
  new : ∀ a, A = some a → w1.heap.size ≤ a.block

theorem TLoop.turn {w1 wr w2 wr' w5 : World} {bs : List Nat} {g : Nat → Nat} {L : List Rp} {k p : Nat} {A A2 : Option Addr} {c c2 : Nat} {r : Rp} (h : TLoop w1 wr bs g L k p A c) (hr : L[k]? = some r) (hc : Chg NoS wr w2)
    (hg : w2.grownBy wr' (Value.slice A k c).ownBlock) (ho : wr'.ownsRow 0 42 3 (.slice A2 (k + 1) c2) (k + 1) (kcells (toks bs (L.take k) 0) ++ encT (tokOf bs p r)))
    (hat : (Value.slice A2 (k + 1) c2).ownBlock = (Value.slice A k c).ownBlock ∨ (Value.slice A2 (k + 1) c2).ownBlock = some w2.heap.size) (h5 : Chg NoS wr' w5) : TLoop w1 w5 bs g L (k + 1) (p + r.size) A2 c2 := by
  have h2 := h.two
  rw [drop_at hr] at h2
  have hs := h.chg.size
  have hs2 := hc.size
  refine ⟨?_, ?_, h2.2.2.2, (grow_chg h.chg h.new hc hg).trans h5 (fun _ _ h => h), grow_new h.new (by omega) hat⟩
  · rw [take_succ_at hr, toks_snoc h.one, kcells_app, show kcells [tokOf bs p r] = encT (tokOf bs p r) from by simp [kcells]]
    exact own_chg (S := NoS) ho h5 (fun _ _ h => h)
  · rw [take_succ_at hr]
    exact h.one.snoc h2.1 h2.2.1 h2.2.2.1

set_option maxHeartbeats 1000000 in
theorem tokens_any (bs : List Nat) (A : Option Addr) (c : Nat) (w : World) (hS : Src w 1 A bs.length c (ocells bs)) (hl : bs.length ≤ 16777216) (hc : bs.length ≤ c) (hg : ∀ b ∈ bs, b < 256) :
    Calls Try.prog 12 #[.slice A bs.length c] w (TokensTo w bs) := by
  have HRP := keepf (reps_any bs A c w hS hl hc hg)
  have HS := keepf hS
  have HG := keepf hg
  obtain ⟨n, hn⟩ : ∃ n, n = bs.length := ⟨_, rfl⟩
  have HN := keepf hn
  rw [← hn] at hl hc HRP HS ⊢
  clear hS hg hn
  have d1 : decide ((16777216 : Int) < n) = false := by simp; omega
  obtain ⟨i0, hi, hz0, hz1, hz2⟩ := info_parts info_tok
  go_enter Try.func12, Try.ntmps12
  go_wp2_with (first
    | (go_at_call 18; refine HRP.out.mono ?_; rintro e w1 ⟨L, g, AL, cL, rfl, hown, hlead, hok, hch, hnew⟩; obtain ⟨m, hm⟩ : ∃ m, m = L.length := ⟨_, rfl⟩; have hmn := hlead.len; rw [← hm] at hown hmn ⊢; have HMM := keepf hm; have HOWN := keepf hown; have HLEAD := keepf hlead; have HOK := keepf hok; have HCH := keepf hch; have HNEW := keepf hnew; have hmn2 : m ≤ n := by have := HN.out; omega
       clear hown hlead hok hch hnew hm hmn)
    | (at_make; go_loud (refine wpList_make_own _ rfl (.const (.int .i64 0)) (.tmp 15) 28 rfl 0 42 i0 (.agg #[.int .u8 0, .int .i64 0, .int .i64 0]) 3 Try.underlying28 hi hz0 hz1 .i64 .i64 _ m rfl rfl (by simp) (by rw [hz2]; omega) (by unfold maxLen; omega) (Nat.zero_le _) ?_); intro w2 hown2 hgr; have HO2 := keepf hown2; have HG2 := keepf hgr; clear hown2 hgr))
  have HTL := keepf (show TLoop w1 w2 bs g L 0 0 (some ⟨w1.heap.size, 0, none⟩) m from ⟨HO2.out, rfl, by rw [List.drop_zero]; exact HLEAD.out, (Chg.refl _ _).grown HG2.out (fun k e _ => by cases e), fun a h => by injection h with h; subst h; exact Nat.le_refl _⟩)
  obtain ⟨A3, c3, hA3, hc3⟩ : ∃ A3 c3, A3 = some (⟨w1.heap.size, 0, none⟩ : Addr) ∧ c3 = m := ⟨_, _, rfl, rfl⟩
  rw [← hA3] at HTL ⊢
  have HTL : Hid (TLoop w1 w2 bs g L 0 0 A3 c3) := by rw [hc3]; exact HTL
  have HC3 := keepf hc3
  clear hA3 HO2 HG2 hc3
  go_loopw [4, 5, 19] (fun vo va vk wr => ∃ k p : Nat, ∃ A2 : Option Addr, ∃ c2 : Nat, k ≤ m ∧ p ≤ n ∧ vk = .int .i64 k ∧ va = .int .i64 p ∧ vo = .slice A2 k c2 ∧ Hid (TLoop w1 wr bs g L k p A2 c2)) (fun _ _ vk _ => m - (intOf vk).toNat)
  case atStart => exact ⟨0, 0, A3, c3, Nat.zero_le _, Nat.zero_le _, rfl, rfl, by rw [HC3.out], HTL.out⟩
  case round =>
    clear HTL HC3
    obtain ⟨k, p, A2, c2, hk, hp, rfl, rfl, rfl, HT⟩ := hrel
    by_cases hlt : k < m
    · obtain ⟨r, hr⟩ : ∃ r, L[k]? = some r := ⟨_, List.getElem?_eq_getElem (by have := HMM.out; omega)⟩
      have hdr := drop_at hr
      have htwo := HT.out.two
      rw [hdr] at htwo
      have hpn : p < n := by have := HN.out; have := htwo.2.2.1; omega
      have hsz := htwo.1.size_le htwo.2.2.1
      have hrl := htwo.1.le
      have HR := keepf hr
      have HTWO := keepf htwo
      obtain ⟨bb, off, rfl, hcell⟩ := byte_cell (k := p) (Src.below (w0 := w) HS.out (HCH.out.trans HT.out.chg (fun _ _ h => h))) (Chg.refl _ _) (by have := HN.out; omega)
      have hcb := hcell p (by have := HN.out; omega)
      have hol := own_chg (S := NoS) HOWN.out HT.out.chg (fun _ _ h => h)
      obtain ⟨gL, cL2, hAL, _, _⟩ := own_form hol (by omega)
      injection hAL with hAL e1 e2
      clear e1 e2
      subst hAL
      have q0 := hol.cellAt (k * 2) (by omega)
      have q1 := hol.cellAt (k * 2 + 1) (by omega)
      rw [rcells_0 hr] at q0
      rw [rcells_1 hr] at q1
      obtain ⟨l, f⟩ := r
      simp only at q0 q1 hrl
      obtain ⟨x, hx⟩ : ∃ x, bs.getD p 0 = x := ⟨_, rfl⟩
      rw [hx] at hcb
      have hlb : bb < wr.heap.size := cell_lt hcb
      have HX := keepf hx
      clear hr hdr htwo hcell hol hx
      by_cases h0 : l = 0
      · subst h0
        have HTS := keepf (fun (W : World) => tsize_any ⟨x, 0, (f : Nat)⟩ W)
        rw [show (⟨x, 0, (f : Nat)⟩ : Tk).size = 1 from rfl] at HTS
        have HE := keepf (show encT (tokOf bs p (0, f)) = [.int .u8 (x : Nat), .int .i64 0, .int .i64 (f : Nat)] by rw [← HX.out]; rfl)
        go_upto_region 12 with fail
        go_wp2_with (first
          | (at_builtin; refine wpList_append_src rfl (.tmp 38) (.tmp 40) 28 rfl 42 i0 _ 3 24 Try.underlying28 hi hz0 hz1 hz2 rfl (by decide) (.slice A2 k c2) k (kcells (toks bs (L.take k) 0)) rfl (own_chg (S := NoS) HT.out.own ((((Chg.refl _ _).alloc _).alloc _).alloc _) (fun _ _ h => h)) (some ⟨wr.heap.size + 2, 0, none⟩) 1 1 [.int .u8 (x : Nat), .int .i64 0, .int .i64 (f : Nat)] rfl (src_new #[.int .u8 (x : Nat), .int .i64 0, .int .i64 (f : Nat)] _ (by simp) rfl) (by intro u hu; simp only [List.mem_cons, List.not_mem_nil, or_false] at hu; rcases hu with rfl | rfl | rfl <;> rfl) (by unfold maxLen; omega) (by omega) ?_
             intro S2 w4 hown4 hgr4 hat4
             obtain ⟨A4, c4, rfl, hA4⟩ := own_slice hown4
             have hne : some (wr.heap.size + 1) ≠ (Value.slice A2 k c2).ownBlock := fun e => by have h5 := own_lt HT.out.own e.symm; omega
             have hb4 := (((Blk.new (wr.alloc (.cells #[.int .u16 0, .int .u16 (f : Nat)] 51)) 42 #[.int .u8 (x : Nat), .int .i64 0, .int .i64 (f : Nat)]).alloc (.cells #[.int .u8 (x : Nat), .int .i64 0, .int .i64 (f : Nat)] 42)).grown hgr4 (by rw [World.size_alloc]; exact hne))
             rw [World.size_alloc] at hb4
             have d0 := hb4.cell 0
             have d1 := hb4.cell 1
             have d2 := hb4.cell 2
             simp at d0 d1 d2
             have HG4 := keepf hgr4
             have HO4 := keepf hown4
             have HA4 := keepf hat4
             clear hown4 hgr4 hat4 hA4 hne hb4)
          | (go_at_call 19; refine (HTS.out _).mono ?_; rintro e w5 ⟨rfl, hc5⟩; have HC5 := keepf hc5; clear hc5))
        go_roundw
        case rel =>
          refine ⟨k + 1, p + Rp.size (0, f), A4, c4, by omega, by have := HN.out; omega, by go_num, ?_, rfl, ?_⟩
          · rw [show Rp.size (0, f) = 1 from rfl]; go_num
          · exact HT.out.turn (r := (0, f)) HR.out ((((Chg.refl NoS wr).alloc _).alloc _).alloc _) HG4.out (by have h := HO4.out; rw [← HE.out] at h; exact h) HA4.out HC5.out
        case measure => simp [intOf]; omega
      · have u0 : ((l : Int) == 0) = false := by simp; omega
        have HTS := keepf (fun (W : World) => tsize_any ⟨0, (l : Nat), (f : Nat)⟩ W)
        rw [show (⟨0, (l : Nat), (f : Nat)⟩ : Tk).size = (l : Nat) from by unfold Tk.size; rw [if_neg (by simp only; omega)]] at HTS
        have HE := keepf (show encT (tokOf bs p (l, f)) = [.int .u8 0, .int .i64 (l : Nat), .int .i64 (f : Nat)] by unfold encT tokOf; simp only; rw [if_neg h0]; rfl)
        have HL0 := keepf h0
        clear h0
        go_upto_region 12 with fail
        go_wp2_with (first
          | (at_builtin; refine wpList_append_src rfl (.tmp 38) (.tmp 40) 28 rfl 42 i0 _ 3 24 Try.underlying28 hi hz0 hz1 hz2 rfl (by decide) (.slice A2 k c2) k (kcells (toks bs (L.take k) 0)) rfl (own_chg (S := NoS) HT.out.own ((((Chg.refl _ _).alloc _).alloc _).alloc _) (fun _ _ h => h)) (some ⟨wr.heap.size + 2, 0, none⟩) 1 1 [.int .u8 0, .int .i64 (l : Nat), .int .i64 (f : Nat)] rfl (src_new #[.int .u8 0, .int .i64 (l : Nat), .int .i64 (f : Nat)] _ (by simp) rfl) (by intro u hu; simp only [List.mem_cons, List.not_mem_nil, or_false] at hu; rcases hu with rfl | rfl | rfl <;> rfl) (by unfold maxLen; omega) (by omega) ?_
             intro S2 w4 hown4 hgr4 hat4
             obtain ⟨A4, c4, rfl, hA4⟩ := own_slice hown4
             have hne : some (wr.heap.size + 1) ≠ (Value.slice A2 k c2).ownBlock := fun e => by have h5 := own_lt HT.out.own e.symm; omega
             have hb4 := (((Blk.new (wr.alloc (.cells #[.int .u16 (l : Nat), .int .u16 (f : Nat)] 51)) 42 #[.int .u8 0, .int .i64 (l : Nat), .int .i64 (f : Nat)]).alloc (.cells #[.int .u8 0, .int .i64 (l : Nat), .int .i64 (f : Nat)] 42)).grown hgr4 (by rw [World.size_alloc]; exact hne))
             rw [World.size_alloc] at hb4
             have d0 := hb4.cell 0
             have d1 := hb4.cell 1
             have d2 := hb4.cell 2
             simp at d0 d1 d2
             have HG4 := keepf hgr4
             have HO4 := keepf hown4
             have HA4 := keepf hat4
             clear hown4 hgr4 hat4 hA4 hne hb4)
          | (go_at_call 19; refine (HTS.out _).mono ?_; rintro e w5 ⟨rfl, hc5⟩; have HC5 := keepf hc5; clear hc5))
        go_roundw
        case rel =>
          refine ⟨k + 1, p + Rp.size (l, f), A4, c4, by omega, by have := HN.out; omega, by go_num, ?_, rfl, ?_⟩
          · rw [show Rp.size (l, f) = l from by unfold Rp.size; rw [if_neg HL0.out]]; go_num
          · exact HT.out.turn (r := (l, f)) HR.out ((((Chg.refl NoS wr).alloc _).alloc _).alloc _) HG4.out (by have h := HO4.out; rw [← HE.out] at h; exact h) HA4.out HC5.out
        case measure => simp [intOf]; omega
    · have HK := keepf (show k = L.length by have := HMM.out; omega)
      go_wp2_with fail
      go_ret
      have HTO := HT.out.own
      rw [HK.out, List.take_length] at HTO
      have hln := toks_len bs L 0
      refine ⟨toks bs L 0, A2, c2, by rw [hln, HK.out]; rfl, ⟨by rw [hln]; exact HTO, HCH.out.trans HT.out.chg (fun _ _ h => h), fun a ha => ?_⟩, fun _ => tokens_ok HG.out HLEAD.out HOK.out, fun h => ?_⟩
      · have := HT.out.new a ha
        have := HCH.out.size
        omega
      · have := HN.out; omega
end Go.Proofs.Ytomkejeofcpchaa
