/- Merged by program: PBare PTkn PSkip LCon PNext. -/
import Derived.Test.YtaababegolfjeaaG01
import Derived.Test.YtaababegolfjeaaG08
import Derived.Test.YtaababegolfjeaaG09
import Derived.Test.YtaababegolfjeaaG11
import Derived.Test.YtaababegolfjeaaG13
import Derived.Deep.Cut
import Derived.Laws.BytesArg
import Derived.Lib.SlBytesConst
import Derived.BigQuiet
import Derived.Deep.QuietTactic
import Derived.BigRegion
/- The reader's numbers and words (written by mkpbare.py). -/
namespace Go.Proofs.Ytaababegolfjeaa
open Go.RowKit
set_option linter.unusedVariables false
set_option linter.unusedSimpArgs false

def bareR (last : Bool) (f p x : Nat) (l : List Nat) : Int × Tkn :=
  if runE last l ≠ 0 then (6, noT f)
  else if isNm x then
    if (numOf (l.take (rgs l))).1 ≠ 0 then ((numOf (l.take (rgs l))).1, noT f) else (0, ⟨1, f, p + rgs l, (numOf (l.take (rgs l))).2.1, (numOf (l.take (rgs l))).2.2, [], []⟩)
  else (0, ⟨6, f, p + rgs l, 0, 0, [], l.take (rgs l)⟩)

set_option maxHeartbeats 2000000 in
set_option maxRecDepth 100000 in
theorem pbare_any {V w W : World} {A : Option Addr} {bs : List Nat} {c R p x : Nat} {last : Bool} (h : RD V w W A bs.length c last R p []) (hS : Src w 1 A bs.length c (lcells bs)) (hl : bs.length ≤ 100000) (hc : bs.length ≤ c) (hb : ∀ d ∈ bs, d < 256) (hx : bs[p]? = some x) (hr : isRg x = true) (f : Nat) :
    Calls Try.prog 39 #[.pointer (some ⟨R, 0, none⟩)] W (PTk V w R (bareR last f p x (bs.drop p))) := by
  have hp : p < bs.length := (List.getElem?_eq_some_iff.1 hx).1
  have hx256 : x < 256 := hb x (List.mem_of_getElem? hx)
  have HRU := keepf (fun X (hX : RD X w X A bs.length c last R p []) => prun_any hX hS hl hc (by omega) (by omega))
  have HCR := keepf (fun X => crune_any x hx256 X)
  have HVA := keepf (fun k n er X => pvalued_any k n er ⟨#[]⟩ X)
  have HKB := keepf h.kb
  have HR0 := keepf h.here
  have hRW := h.lt
  have hwW := h.chg.size
  obtain ⟨g, hg⟩ : ∃ g, g = W.heap.size := ⟨_, rfl⟩
  have HG := keepf hg
  have hgR : g ≠ R := by omega
  have hgW : W.heap.size ≤ g := by omega
  have hgw : w.heap.size ≤ g := by omega
  have HBW := keepf (show Blk (W.alloc (.cells #[.int .i64 0, .int .i64 0, .int .i64 0, .int .i64 0, .int .i64 0, .string ⟨#[]⟩, .slice none 0 0, .string ⟨#[]⟩] 37)) g 37 #[.int .i64 0, .int .i64 0, .int .i64 0, .int .i64 0, .int .i64 0, .string ⟨#[]⟩, .slice none 0 0, .string ⟨#[]⟩] from by rw [hg]; exact Blk.new _ _ _)
  have HW1 := keepf (HR0.out.alloc (.cells #[.int .i64 0, .int .i64 0, .int .i64 0, .int .i64 0, .int .i64 0, .string ⟨#[]⟩, .slice none 0 0, .string ⟨#[]⟩] 37))
  obtain ⟨W1, hW1⟩ : ∃ W1, W1 = W.alloc (.cells #[.int .i64 0, .int .i64 0, .int .i64 0, .int .i64 0, .int .i64 0, .string ⟨#[]⟩, .slice none 0 0, .string ⟨#[]⟩] 37) := ⟨_, rfl⟩
  rw [← hW1] at HW1 HBW
  have HWW := keepf hW1
  obtain ⟨l, hl0⟩ : ∃ l, l = bs.drop p := ⟨_, rfl⟩
  obtain ⟨m, hm⟩ : ∃ m, l = x :: m := by
    obtain ⟨y, hy, hd⟩ := drop_at (bs := bs) hp
    rw [hx] at hy
    injection hy with hy
    exact ⟨bs.drop (p + 1), by rw [hl0, hd, hy]⟩
  have hlb : ∀ d ∈ l, d < 256 := fun d hd => hb d (by rw [hl0] at hd; exact List.mem_of_mem_drop hd)
  have hll : l.length ≤ 100000 := by rw [hl0, List.length_drop]; omega
  obtain ⟨ws, hws⟩ : ∃ ws, ws = l.take (rgs l) := ⟨_, rfl⟩
  have hwsx : ws = x :: m.take (rgs m) := by rw [hws, hm, rgs_go hr, List.take_succ_cons]
  have hwsb : ∀ d ∈ ws, d < 256 := fun d hd => hlb d (by rw [hws] at hd; exact List.mem_of_mem_take hd)
  have hwsl : ws.length ≤ 100000 := by rw [hws, List.length_take]; omega
  have hsl := sl_sb ws hwsb
  have hsz := sb_size ws
  have HPA := keepf (fun X => parse_any (sb ws) X (by rw [sb_size]; exact hwsl))
  rw [hsl] at HPA
  obtain ⟨L, hL⟩ : ∃ L, L = p + rgs l := ⟨_, rfl⟩
  have HB := keepf (show bareR last f p x l = if runE last l ≠ 0 then (6, noT f) else if isNm x then (if (numOf ws).1 ≠ 0 then ((numOf ws).1, noT f) else (0, ⟨1, f, L, (numOf ws).2.1, (numOf ws).2.2, [], []⟩)) else (0, ⟨6, f, L, 0, 0, [], ws⟩) from by unfold bareR; rw [hws, hL])
  rw [← hl0] at HRU ⊢
  rw [← hws, ← hL] at HRU
  obtain ⟨t, ht⟩ : ∃ t, sb ws = t := ⟨_, rfl⟩
  have HTS := keepf ht
  rw [ht] at HRU HPA hsl hsz
  have g0 : ∀ k : 0 < t.size, (t[0]'k).toNat = x := fun k => by rw [sl_at, hsl, hwsx]; rfl
  obtain ⟨N, hN⟩ : ∃ N, t.size = N := ⟨_, rfl⟩
  have hN0 : 0 < N := by rw [← hN, hsz, hwsx]; exact Nat.zero_lt_succ _
  have hN1 : (0 : Int) < N := by omega
  obtain ⟨er0, K, n, hNu⟩ : ∃ er0 K n, numOf ws = (er0, K, n) := ⟨_, _, _, rfl⟩
  rw [hNu] at HB
  have HPA1 := keepf (fun X => (show Calls Try.prog 57 #[.string t] X fun e w' => e = .returned (.tuple #[.agg #[.int .i64 (K : Nat), .int .i64 n, .string ⟨#[]⟩, .slice none 0 0], .int .i64 er0]) ∧ Chg NoS X w' from by
    have h9 := HPA.out X
    unfold PaTo at h9
    rw [hNu] at h9
    exact h9))
  have hw32 : IntKind.i32.wrap (x : Int) = (x : Int) := by rw [IntKind.wrap_i32]; omega
  clear h hS hg hwW hRW hW1 hl0 hm hlb hll hws hwsx hwsb hwsl hsl hsz hL ht hb hx hNu HPA hl hc hp
  rcases runE_two last l with hE | hE
  case inr =>
    rw [hE] at HRU HB
    clear hE
    have HB2 := keepf (HB.out.trans (if_pos (show (6 : Int) ≠ 0 by decide)))
    go_enter Try.func39, Try.ntmps39
    go_upto_region 1 with fail
    rw [← HWW.out, ← HG.out]
    go_wp2_with (go_at_call 51; refine (HRU.out _ HW1.out.here).mono ?_; rintro e w3 ⟨rfl, h3⟩; have HB3 := keepf (h3.kb _ _ _ hgR (by decide) HBW.out); have HR3 := keepf (h3.base (HW1.out.kb.trans h3.kb)); clear h3; obtain ⟨r0, r1, r2, r3, r4, r5, r6, r7, z0, z1, z2, z3, z4, z5, z6, z7⟩ := HB3.out.cl8)
    refine bodyPost_ret (v := .tuple #[.agg #[.int .i64 0, .int .i64 0, .int .i64 0, .int .i64 0, .int .i64 0, .string ⟨#[]⟩, .slice none 0 0, .string ⟨#[]⟩], .int .i64 6]) (by simp [results, Try.results39, go_sem, r0, r1, r2, r3, r4, r5, r6, r7]) rfl ?_
    exact PTk.err (by rw [HB2.out]) (by decide) ((HR3.out.re.set8 hgR hgW hgw _ _ _ _ _ _ _ _).back HKB.out)
  rw [hE] at HRU HB
  clear hE
  have HB1 := keepf (HB.out.trans (if_neg (fun h9 => h9 rfl)))
  cases hNm : isNm x with
  | false =>
    rw [hNm] at HCR HB1
    have HB2 := keepf (HB1.out.trans (if_neg (by decide)))
    clear hNm
    go_enter Try.func39, Try.ntmps39
    go_upto_region 1 with fail
    rw [← HWW.out, ← HG.out]
    go_wp2_with first
      | (go_at_call 51; refine (HRU.out _ HW1.out.here).mono ?_; rintro e w3 ⟨rfl, h3⟩; have HB3 := keepf (h3.kb _ _ _ hgR (by decide) HBW.out); have HR3 := keepf (h3.base (HW1.out.kb.trans h3.kb)); clear h3)
      | (go_at_call 56; refine (HCR.out _).mono ?_; rintro e w4 ⟨rfl, hc4⟩; have HR4 := keepf (HR3.out.call hc4); have HB4 := keepf (HB3.out.chg hc4 (fun h => h)); clear hc4; obtain ⟨r0, r1, r2, r3, r4, r5, r6, r7, z0, z1, z2, z3, z4, z5, z6, z7⟩ := HB4.out.cl8)
    refine bodyPost_ret (v := .tuple #[.agg #[.int .i64 6, .int .i64 0, .int .i64 0, .int .i64 0, .int .i64 0, .string ⟨#[]⟩, .slice none 0 0, .string t], .int .i64 0]) (by simp [results, Try.results39, go_sem, r0, r1, r2, r3, r4, r5, r6, r7]) rfl ?_
    exact ⟨⟨6, 0, 0, 0, 0, [], ws⟩, L, by rw [HB2.out, ← HTS.out]; rfl, fun _ => by rw [HB2.out]; exact ⟨rfl, rfl⟩, (HR4.out.re.set8 hgR hgW hgw _ _ _ _ _ _ _ _).back HKB.out⟩
  | true =>
    rw [hNm] at HCR HB1
    have HB2 := keepf (HB1.out.trans (if_pos rfl))
    clear hNm
    go_enter Try.func39, Try.ntmps39
    go_upto_region 1 with fail
    rw [← HWW.out, ← HG.out]
    go_wp2_with first
      | (go_at_call 51; refine (HRU.out _ HW1.out.here).mono ?_; rintro e w3 ⟨rfl, h3⟩; have HB3 := keepf (h3.kb _ _ _ hgR (by decide) HBW.out); have HR3 := keepf (h3.base (HW1.out.kb.trans h3.kb)); clear h3)
      | (go_at_call 56; refine (HCR.out _).mono ?_; rintro e w4 ⟨rfl, hc4⟩; have HR4 := keepf (HR3.out.call hc4); have HB4 := keepf (HB3.out.chg hc4 (fun h => h)); clear hc4)
      | (go_at_call 57; refine (HPA1.out _).mono ?_; rintro e w5 ⟨rfl, hc5⟩; have HR5 := keepf (HR4.out.call hc5); have HB5 := keepf (HB4.out.chg hc5 (fun h => h)); clear hc5)
      | (go_at_call 33; refine (HVA.out _ _ _ _).mono ?_; rintro e w6 ⟨rfl, hc6⟩; have HR6 := keepf (HR5.out.call hc6); have HB6 := keepf (HB5.out.chg hc6 (fun h => h)); clear hc6; obtain ⟨r0, r1, r2, r3, r4, r5, r6, r7, z0, z1, z2, z3, z4, z5, z6, z7⟩ := HB6.out.cl8)
    refine bodyPost_ret (v := .tuple #[.agg #[.int .i64 1, .int .i64 0, .int .i64 0, .int .i64 (K : Nat), .int .i64 n, .string ⟨#[]⟩, .slice none 0 0, .string ⟨#[]⟩], .int .i64 er0]) (by simp [results, Try.results39, go_sem, r0, r1, r2, r3, r4, r5, r6, r7]) rfl ?_
    have HRF := keepf ((HR6.out.re.set8 hgR hgW hgw (.int .i64 1) (.int .i64 0) (.int .i64 0) (.int .i64 (K : Nat)) (.int .i64 n) (.string ⟨#[]⟩) (.slice none 0 0) (.string ⟨#[]⟩)).back HKB.out)
    by_cases he : er0 = 0
    · have HB3 := keepf (HB2.out.trans (if_neg (fun h9 => h9 he)))
      exact ⟨⟨1, 0, 0, K, n, [], []⟩, L, by rw [HB3.out, he]; rfl, fun _ => by rw [HB3.out]; exact ⟨rfl, rfl⟩, HRF.out⟩
    · have HB3 := keepf (HB2.out.trans (if_pos he))
      exact ⟨⟨1, 0, 0, K, n, [], []⟩, L, by rw [HB3.out]; rfl, fun h9 => absurd (by rw [HB3.out] at h9; exact h9) he, HRF.out⟩

end Go.Proofs.Ytaababegolfjeaa

/- The reader's token (written by mkptkn.py). -/
namespace Go.Proofs.Ytaababegolfjeaa
open Go.RowKit
set_option linter.unusedVariables false
set_option linter.unusedSimpArgs false

theorem PTo.open_ {V w : World} {R kind : Nat} {r : Int × List Nat × Nat} {e : Ending} {W : World} (h : PTo V w R kind r e W) :
    ∃ (K : Nat) (vs : List Nat) (S : ByteArray) (p : Nat), Hid (S = sb vs) ∧ e = .returned (.tuple #[.agg #[.int .i64 (K : Nat), .int .i64 0, .string S, .slice none 0 0], .int .i64 r.1]) ∧ Hid (r.1 = 0 → K = kind ∧ vs = r.2.1 ∧ p = r.2.2) ∧ RE V w W R p := by
  obtain ⟨he, p, hp, hR⟩ := h
  by_cases h0 : r.1 = 0
  · refine ⟨kind, r.2.1, sb r.2.1, p, rfl, ?_, fun _ => ⟨rfl, rfl, hp h0⟩, hR⟩
    rw [he]
    unfold TkV
    rw [if_pos h0]
  · refine ⟨0, [], ⟨#[]⟩, p, rfl, ?_, fun h9 => absurd h9 h0, hR⟩
    rw [he]
    unfold TkV
    rw [if_neg h0]
    rfl

theorem PTk.value {V w : World} {R f kind K p : Nat} {r : Int × List Nat × Nat} {q : Int × Tkn} {vs : List Nat} {S : ByteArray} {W : World} (h : q = if r.1 ≠ 0 then (r.1, noT f) else (0, ⟨1, f, r.2.2, kind, 0, r.2.1, []⟩)) (hS : Hid (S = sb vs)) (hk : Hid (r.1 = 0 → K = kind ∧ vs = r.2.1 ∧ p = r.2.2)) (hR : RE V w W R p) :
    PTk V w R q (.returned (.tuple #[.agg #[.int .i64 1, .int .i64 0, .int .i64 0, .int .i64 (K : Nat), .int .i64 0, .string S, .slice none 0 0, .string ⟨#[]⟩], .int .i64 r.1])) W := by
  by_cases h0 : r.1 = 0
  · obtain ⟨rfl, rfl, rfl⟩ := hk.out h0
    rw [if_neg (fun e => e h0)] at h
    subst h
    exact ⟨⟨1, 0, 0, K, 0, r.2.1, []⟩, r.2.2, by rw [h0, hS.out]; rfl, fun _ => ⟨rfl, rfl⟩, hR⟩
  · rw [if_pos h0] at h
    subst h
    exact ⟨⟨1, 0, 0, K, 0, vs, []⟩, p, by rw [hS.out]; rfl, fun e => absurd e h0, hR⟩

/-- The token that begins a row of bytes at the place p. -/
def tkR (last : Bool) (p : Nat) : List Nat → Int × Tkn
  | [] => (if last then 0 else 6, noT p)
  | x :: l => tokO last p x l

theorem tok_60 {last : Bool} {p : Nat} {l : List Nat} (h : ¬ l.head? = some 60) : tokO last p 60 l = if (hexO last [] (p + 1) l).1 ≠ 0 then ((hexO last [] (p + 1) l).1, noT p) else (0, ⟨1, p, (hexO last [] (p + 1) l).2.2, 4, 0, (hexO last [] (p + 1) l).2.1, []⟩) := tokO_60 last p l h

theorem tok_62d (last : Bool) (p : Nat) (l : List Nat) : tokO last p 62 l = dictR last p (p + 1) l := by
  unfold dictR
  by_cases h : l.head? = some 62
  · rw [tok_6262 h, if_pos h]
  · rw [if_neg h]
    by_cases h2 : l = [] ∧ last = false
    · rw [if_pos h2, tok_62m h2.1 h2.2]
    · rw [if_neg h2, tok_62f h h2]

theorem tok_47n (last : Bool) (p : Nat) (l : List Nat) : tokO last p 47 l = if (nmTo last (p + 1) l).1 ≠ 0 then ((nmTo last (p + 1) l).1, noT p) else (0, ⟨1, p, (nmTo last (p + 1) l).2.2, 5, 0, (nmTo last (p + 1) l).2.1, []⟩) := by
  rw [tok_47]
  unfold nmTo runE
  by_cases h : rgs l = l.length ∧ last = false
  · rw [if_pos h, if_pos h, if_pos (show (6 : Int) ≠ 0 by decide), if_pos (show (6 : Int) ≠ 0 by decide)]
  · rw [if_neg h, if_neg h, if_neg (show ¬ (0 : Int) ≠ 0 by decide)]

theorem tok_bare {last : Bool} {p x : Nat} {l : List Nat} (hr : isRg x = true) : tokO last p x l = bareR last p p x (x :: l) := by
  have hd : isDl x = false := by
    unfold isRg at hr
    cases h : isDl x with
    | false => rfl
    | true => rw [h] at hr; cases h2 : isSp x <;> rw [h2] at hr <;> cases hr
  have hne : ∀ k, isDl k = true → x ≠ k := fun k hk e => by rw [e, hk] at hd; cases hd
  rw [tok_rest (hne 91 rfl) (hne 93 rfl) (hne 60 rfl) (hne 62 rfl) (hne 40 rfl) (hne 47 rfl), hd]
  rw [if_neg (show ¬ (false = true) by decide)]
  by_cases h : rgs l = l.length ∧ last = false
  · have hE : runE last (x :: l) = 6 := by unfold runE; rw [rgs_go hr]; exact if_pos ⟨by simp only [List.length_cons]; omega, h.2⟩
    rw [if_pos h]
    exact (if_pos (show runE last (x :: l) ≠ 0 from by rw [hE]; decide)).symm
  · have hE : runE last (x :: l) = 0 := by unfold runE; rw [rgs_go hr]; exact if_neg (fun e => h ⟨by have := e.1; simp only [List.length_cons] at this; omega, e.2⟩)
    rw [if_neg h]
    refine Eq.trans ?_ (if_neg (show ¬ runE last (x :: l) ≠ 0 from fun e => e hE)).symm
    rw [rgs_go hr, show p + (rgs l + 1) = p + 1 + rgs l by omega]

set_option maxHeartbeats 8000000 in
set_option maxRecDepth 100000 in
theorem ptoken_any {V w W : World} {A : Option Addr} {bs : List Nat} {c R p : Nat} {last : Bool} (h : RD V w W A bs.length c last R p []) (hS : Src w 1 A bs.length c (lcells bs)) (hl : bs.length ≤ 100000) (hc : bs.length ≤ c) (hp : p ≤ bs.length) (hb : ∀ d ∈ bs, d < 256) (hns : ∀ x, bs[p]? = some x → isSp x = false ∧ x ≠ 37) :
    Calls Try.prog 25 #[.pointer (some ⟨R, 0, none⟩)] W (PTk V w R (tkR last p (bs.drop p))) := by
  have hl6 : bs.length ≤ 1000000 := by omega
  have hp9 : p ≤ 100000 := by omega
  have HTE := keepf (fun X (hX : RD X w X A bs.length c last R bs.length []) => ptake_end hX)
  have HTA := keepf (fun X k x (hX : RD X w X A bs.length c last R k []) (hx : bs[k]? = some x) => ptake_at hX hS hl6 hc hx)
  have HPE := keepf (fun X (hX : RD X w X A bs.length c last R bs.length []) => ppass_end hX 60)
  have HPN := keepf (fun X k x (hX : RD X w X A bs.length c last R k []) (hx : bs[k]? = some x) (hy : x ≠ 60) => ppass_no hX hS hl6 hc hx 60 hy)
  have HPA := keepf (fun X k (hX : RD X w X A bs.length c last R k []) (hx : bs[k]? = some 60) => ppass_at hX hS hl6 hc hx)
  have HCU := keepf (fun X k (hX : RD X w X A bs.length c last R k []) => pcut_any hX 0)
  have HTX := keepf (fun X k (hX : RD X w X A bs.length c last R k []) (hk : k ≤ bs.length) => ptext_any hX hS hl hc hk hb)
  have HHX := keepf (fun X k (hX : RD X w X A bs.length c last R k []) (hk : k ≤ bs.length) => phex_any hX hS hl hc hk hb)
  have HNM := keepf (fun X k (hX : RD X w X A bs.length c last R k []) (hk : k ≤ bs.length) (h0 : 0 < bs.length) => pname_any hX hS hl hc hk hb h0)
  have HCD := keepf (fun X k f (hX : RD X w X A bs.length c last R k []) (hk : k ≤ bs.length) => pclosed_any hX hS hl6 hc hk f)
  have HBA := keepf (fun X k x f (hX : RD X w X A bs.length c last R k []) (hx : bs[k]? = some x) (hr : isRg x = true) => pbare_any hX hS hl hc hb hx hr f)
  have HVA := keepf (fun k n er s X => pvalued_any k n er s X)
  have HKB := keepf h.kb
  have HR0 := keepf h.here
  have hRW := h.lt
  have hwW := h.chg.size
  obtain ⟨g, hg⟩ : ∃ g, g = W.heap.size := ⟨_, rfl⟩
  have HG := keepf hg
  have hgR : g ≠ R := by omega
  have hgW : W.heap.size ≤ g := by omega
  have hgw : w.heap.size ≤ g := by omega
  have HBW := keepf (show Blk (W.alloc (.cells #[.int .i64 0, .int .i64 0, .int .i64 0, .int .i64 0, .int .i64 0, .string ⟨#[]⟩, .slice none 0 0, .string ⟨#[]⟩] 37)) g 37 #[.int .i64 0, .int .i64 0, .int .i64 0, .int .i64 0, .int .i64 0, .string ⟨#[]⟩, .slice none 0 0, .string ⟨#[]⟩] from by rw [hg]; exact Blk.new _ _ _)
  have HW1 := keepf (HR0.out.alloc (.cells #[.int .i64 0, .int .i64 0, .int .i64 0, .int .i64 0, .int .i64 0, .string ⟨#[]⟩, .slice none 0 0, .string ⟨#[]⟩] 37))
  obtain ⟨W1, hW1⟩ : ∃ W1, W1 = W.alloc (.cells #[.int .i64 0, .int .i64 0, .int .i64 0, .int .i64 0, .int .i64 0, .string ⟨#[]⟩, .slice none 0 0, .string ⟨#[]⟩] 37) := ⟨_, rfl⟩
  rw [← hW1] at HW1 HBW
  have HWW := keepf hW1
  clear h hS hg hwW hRW hW1 hb hl hc hl6
  by_cases hpn : p = bs.length
  · have HD := keepf (show tkR last p (bs.drop p) = (if last then 0 else 6, noT p) from by rw [hpn, List.drop_of_length_le (Nat.le_refl _)]; rfl)
    have HTE1 := keepf (show ∀ X, RD X w X A bs.length c last R p [] → Calls Try.prog 31 #[.pointer (some ⟨R, 0, none⟩)] X fun e W' => e = .returned (.tuple #[.int .u8 0, .bool false]) ∧ RD X w W' A bs.length c last R p [] from fun X hX => by rw [hpn] at hX ⊢; exact HTE.out X hX)
    have HCU1 := keepf (fun X hX => HCU.out X p hX)
    obtain ⟨er, her⟩ : ∃ er, er = (if last then (0 : Int) else 6) := ⟨_, rfl⟩
    rw [← her] at HD HCU1
    clear hpn her hns
    go_enter Try.func25, Try.ntmps25
    go_upto_region 1 with fail
    rw [← HWW.out, ← HG.out]
    go_wp2_with first
      | (go_at_call 31; refine (HTE1.out _ HW1.out.here).mono ?_; rintro e w3 ⟨rfl, h3⟩; have HB3 := keepf (h3.kb _ _ _ hgR (by decide) HBW.out); have HR3 := keepf (h3.base (HW1.out.kb.trans h3.kb)); clear h3; obtain ⟨r0, r1, r2, r3, r4, r5, r6, r7, z0, z1, z2, z3, z4, z5, z6, z7⟩ := HB3.out.cl8)
      | (go_at_call 32; refine (HCU1.out _ HR3.out.here).mono ?_; rintro e w4 ⟨rfl, rfl⟩)
    refine bodyPost_ret (v := .tuple #[.agg #[.int .i64 0, .int .i64 0, .int .i64 0, .int .i64 0, .int .i64 0, .string ⟨#[]⟩, .slice none 0 0, .string ⟨#[]⟩], .int .i64 er]) (by simp [results, Try.results25, go_sem, r0, r1, r2, r3, r4, r5, r6, r7]) rfl ?_
    exact ⟨noK, p, by rw [HD.out]; rfl, fun _ => by rw [HD.out]; exact ⟨rfl, rfl⟩, (HR3.out.re.set8 hgR hgW hgw _ _ _ _ _ _ _ _).back HKB.out⟩
  obtain ⟨x, hx, hd⟩ := drop_at (bs := bs) (k := p) (by omega)
  have hk1 : p + 1 ≤ bs.length := by omega
  have h0 : 0 < bs.length := by omega
  have HX := keepf hx
  obtain ⟨hsp, h37⟩ := hns x hx
  have HT := keepf (show tkR last p (bs.drop p) = tokO last p x (bs.drop (p + 1)) from by rw [hd]; rfl)
  clear hx hd hns hpn
  by_cases h91 : x = 91
  · subst h91
    have HD := keepf (HT.out.trans tok_91)
    go_enter Try.func25, Try.ntmps25
    go_upto_region 1 with fail
    rw [← HWW.out, ← HG.out]
    go_wp2_with (go_at_call 31; refine (HTA.out _ _ _ HW1.out.here HX.out).mono ?_; rintro e w3 ⟨rfl, h3⟩; have HB3 := keepf (h3.kb _ _ _ hgR (by decide) HBW.out); have HR3 := keepf (h3.base (HW1.out.kb.trans h3.kb)); clear h3; obtain ⟨r0, r1, r2, r3, r4, r5, r6, r7, z0, z1, z2, z3, z4, z5, z6, z7⟩ := HB3.out.cl8)
    refine bodyPost_ret (v := .tuple #[.agg #[.int .i64 2, .int .i64 0, .int .i64 0, .int .i64 0, .int .i64 0, .string ⟨#[]⟩, .slice none 0 0, .string ⟨#[]⟩], .int .i64 0]) (by simp [results, Try.results25, go_sem, r0, r1, r2, r3, r4, r5, r6, r7]) rfl ?_
    exact ⟨⟨2, 0, 0, 0, 0, [], []⟩, p + 1, by rw [HD.out]; rfl, fun _ => by rw [HD.out]; exact ⟨rfl, rfl⟩, (HR3.out.re.set8 hgR hgW hgw _ _ _ _ _ _ _ _).back HKB.out⟩
  have e91 : ((x : Int) == 91) = false := by simp; omega
  by_cases h93 : x = 93
  · subst h93
    have HD := keepf (HT.out.trans tok_93)
    go_enter Try.func25, Try.ntmps25
    go_upto_region 1 with fail
    rw [← HWW.out, ← HG.out]
    go_wp2_with (go_at_call 31; refine (HTA.out _ _ _ HW1.out.here HX.out).mono ?_; rintro e w3 ⟨rfl, h3⟩; have HB3 := keepf (h3.kb _ _ _ hgR (by decide) HBW.out); have HR3 := keepf (h3.base (HW1.out.kb.trans h3.kb)); clear h3; obtain ⟨r0, r1, r2, r3, r4, r5, r6, r7, z0, z1, z2, z3, z4, z5, z6, z7⟩ := HB3.out.cl8)
    refine bodyPost_ret (v := .tuple #[.agg #[.int .i64 3, .int .i64 0, .int .i64 0, .int .i64 0, .int .i64 0, .string ⟨#[]⟩, .slice none 0 0, .string ⟨#[]⟩], .int .i64 0]) (by simp [results, Try.results25, go_sem, r0, r1, r2, r3, r4, r5, r6, r7]) rfl ?_
    exact ⟨⟨3, 0, 0, 0, 0, [], []⟩, p + 1, by rw [HD.out]; rfl, fun _ => by rw [HD.out]; exact ⟨rfl, rfl⟩, (HR3.out.re.set8 hgR hgW hgw _ _ _ _ _ _ _ _).back HKB.out⟩
  have e93 : ((x : Int) == 93) = false := by simp; omega
  by_cases h40 : x = 40
  · subst h40
    have HD := keepf (HT.out.trans tok_40)
    obtain ⟨r, hr⟩ : ∃ r, r = txtO last 1 [] (p + 1) (bs.drop (p + 1)) := ⟨_, rfl⟩
    have HTX1 := keepf (fun X hX => HTX.out X (p + 1) hX hk1)
    rw [← hr] at HD HTX1
    clear hr
    go_enter Try.func25, Try.ntmps25
    go_upto_region 1 with fail
    rw [← HWW.out, ← HG.out]
    go_wp2_with first
      | (go_at_call 31; refine (HTA.out _ _ _ HW1.out.here HX.out).mono ?_; rintro e w3 ⟨rfl, h3⟩; have HB3 := keepf (h3.kb _ _ _ hgR (by decide) HBW.out); have HR3 := keepf (h3.base (HW1.out.kb.trans h3.kb)); clear h3)
      | (go_at_call 34; refine (HTX1.out _ HR3.out.here).mono ?_; rintro e w4 h4; obtain ⟨K, vs, S, p4, hS4, rfl, hk4, hre⟩ := h4.open_; have HB4 := keepf (hre.kb _ _ _ hgR (by decide) HB3.out); have HR4 := keepf (hre.back HR3.out.kb); clear hre h4)
      | (go_at_call 33; refine (HVA.out _ _ _ _ _).mono ?_; rintro e w6 ⟨rfl, hc6⟩; have HR6 := keepf (HR4.out.call hc6); have HB6 := keepf (HB4.out.chg hc6 (fun h => h)); clear hc6; obtain ⟨r0, r1, r2, r3, r4, r5, r6, r7, z0, z1, z2, z3, z4, z5, z6, z7⟩ := HB6.out.cl8)
    refine bodyPost_ret (v := .tuple #[.agg #[.int .i64 1, .int .i64 0, .int .i64 0, .int .i64 (K : Nat), .int .i64 0, .string S, .slice none 0 0, .string ⟨#[]⟩], .int .i64 r.1]) (by simp [results, Try.results25, go_sem, r0, r1, r2, r3, r4, r5, r6, r7]) rfl ?_
    have HRF := keepf ((HR6.out.set8 hgR hgW hgw (.int .i64 1) (.int .i64 0) (.int .i64 0) (.int .i64 (K : Nat)) (.int .i64 0) (.string S) (.slice none 0 0) (.string ⟨#[]⟩)).back HKB.out)
    exact PTk.value HD.out hS4 hk4 HRF.out
  have e40 : ((x : Int) == 40) = false := by simp; omega
  by_cases h60 : x = 60
  · subst h60
    clear e91 e93 h91 h93 h40 e40
    by_cases hz : p + 1 = bs.length
    · have HZ := keepf (show bs.drop (p + 1) = [] from List.drop_of_length_le (by omega))
      have HPE1 := keepf (show ∀ X, RD X w X A bs.length c last R (p + 1) [] → Calls Try.prog 35 #[.pointer (some ⟨R, 0, none⟩), .int .u8 (60 : Nat)] X fun e W' => e = .returned (.bool false) ∧ RD X w W' A bs.length c last R (p + 1) [] from fun X hX => by rw [hz] at hX ⊢; exact HPE.out X hX)
      have HD := keepf (HT.out.trans (tok_60 (by rw [HZ.out]; simp)))
      obtain ⟨r, hr⟩ : ∃ r, r = hexO last [] (p + 1) (bs.drop (p + 1)) := ⟨_, rfl⟩
      have HHX1 := keepf (fun X hX => HHX.out X (p + 1) hX hk1)
      rw [← hr] at HD HHX1
      clear hr hz
      go_enter Try.func25, Try.ntmps25
      go_upto_region 1 with fail
      rw [← HWW.out, ← HG.out]
      go_wp2_with first
      | (go_at_call 31; refine (HTA.out _ _ _ HW1.out.here HX.out).mono ?_; rintro e w3 ⟨rfl, h3⟩; have HB3 := keepf (h3.kb _ _ _ hgR (by decide) HBW.out); have HR3 := keepf (h3.base (HW1.out.kb.trans h3.kb)); clear h3)
      | (go_at_call 35; refine (HPE1.out _ HR3.out.here).mono ?_; rintro e w5 ⟨rfl, h5⟩; have HB5 := keepf (h5.kb _ _ _ hgR (by decide) HB3.out); have HR5 := keepf (h5.base (HR3.out.kb.trans h5.kb)); clear h5)
      | (go_at_call 36; refine (HHX1.out _ HR5.out.here).mono ?_; rintro e w4 h4; obtain ⟨K, vs, S, p4, hS4, rfl, hk4, hre⟩ := h4.open_; have HB4 := keepf (hre.kb _ _ _ hgR (by decide) HB5.out); have HR4 := keepf (hre.back HR5.out.kb); clear hre h4)
      | (go_at_call 33; refine (HVA.out _ _ _ _ _).mono ?_; rintro e w6 ⟨rfl, hc6⟩; have HR6 := keepf (HR4.out.call hc6); have HB6 := keepf (HB4.out.chg hc6 (fun h => h)); clear hc6; obtain ⟨r0, r1, r2, r3, r4, r5, r6, r7, z0, z1, z2, z3, z4, z5, z6, z7⟩ := HB6.out.cl8)
      refine bodyPost_ret (v := .tuple #[.agg #[.int .i64 1, .int .i64 0, .int .i64 0, .int .i64 (K : Nat), .int .i64 0, .string S, .slice none 0 0, .string ⟨#[]⟩], .int .i64 r.1]) (by simp [results, Try.results25, go_sem, r0, r1, r2, r3, r4, r5, r6, r7]) rfl ?_
      have HRF := keepf ((HR6.out.set8 hgR hgW hgw (.int .i64 1) (.int .i64 0) (.int .i64 0) (.int .i64 (K : Nat)) (.int .i64 0) (.string S) (.slice none 0 0) (.string ⟨#[]⟩)).back HKB.out)
      exact PTk.value HD.out hS4 hk4 HRF.out
    obtain ⟨y, hy, hdy⟩ := drop_at (bs := bs) (k := p + 1) (by omega)
    by_cases hy60 : y = 60
    · subst hy60
      have HPA1 := keepf (fun X hX => HPA.out X (p + 1) hX hy)
      have HD := keepf (HT.out.trans (tok_6060 (by rw [hdy]; rfl)))
      clear hy hdy hz
      go_enter Try.func25, Try.ntmps25
      go_upto_region 1 with fail
      rw [← HWW.out, ← HG.out]
      go_wp2_with first
      | (go_at_call 31; refine (HTA.out _ _ _ HW1.out.here HX.out).mono ?_; rintro e w3 ⟨rfl, h3⟩; have HB3 := keepf (h3.kb _ _ _ hgR (by decide) HBW.out); have HR3 := keepf (h3.base (HW1.out.kb.trans h3.kb)); clear h3)
      | (go_at_call 35; refine (HPA1.out _ HR3.out.here).mono ?_; rintro e w5 ⟨rfl, h5⟩; have HB5 := keepf (h5.kb _ _ _ hgR (by decide) HB3.out); have HR5 := keepf (h5.base (HR3.out.kb.trans h5.kb)); clear h5; obtain ⟨r0, r1, r2, r3, r4, r5, r6, r7, z0, z1, z2, z3, z4, z5, z6, z7⟩ := HB5.out.cl8)
      refine bodyPost_ret (v := .tuple #[.agg #[.int .i64 4, .int .i64 0, .int .i64 0, .int .i64 0, .int .i64 0, .string ⟨#[]⟩, .slice none 0 0, .string ⟨#[]⟩], .int .i64 0]) (by simp [results, Try.results25, go_sem, r0, r1, r2, r3, r4, r5, r6, r7]) rfl ?_
      exact ⟨⟨4, 0, 0, 0, 0, [], []⟩, p + 1 + 1, by rw [HD.out]; rfl, fun _ => by rw [HD.out]; exact ⟨rfl, rfl⟩, (HR5.out.re.set8 hgR hgW hgw _ _ _ _ _ _ _ _).back HKB.out⟩
    · have HPN1 := keepf (fun X hX => HPN.out X (p + 1) y hX hy hy60)
      have HD := keepf (HT.out.trans (tok_60 (by rw [hdy]; simpa using hy60)))
      obtain ⟨r, hr⟩ : ∃ r, r = hexO last [] (p + 1) (bs.drop (p + 1)) := ⟨_, rfl⟩
      have HHX1 := keepf (fun X hX => HHX.out X (p + 1) hX hk1)
      rw [← hr] at HD HHX1
      clear hr hz hy hdy
      go_enter Try.func25, Try.ntmps25
      go_upto_region 1 with fail
      rw [← HWW.out, ← HG.out]
      go_wp2_with first
      | (go_at_call 31; refine (HTA.out _ _ _ HW1.out.here HX.out).mono ?_; rintro e w3 ⟨rfl, h3⟩; have HB3 := keepf (h3.kb _ _ _ hgR (by decide) HBW.out); have HR3 := keepf (h3.base (HW1.out.kb.trans h3.kb)); clear h3)
      | (go_at_call 35; refine (HPN1.out _ HR3.out.here).mono ?_; rintro e w5 ⟨rfl, h5⟩; have HB5 := keepf (h5.kb _ _ _ hgR (by decide) HB3.out); have HR5 := keepf (h5.base (HR3.out.kb.trans h5.kb)); clear h5)
      | (go_at_call 36; refine (HHX1.out _ HR5.out.here).mono ?_; rintro e w4 h4; obtain ⟨K, vs, S, p4, hS4, rfl, hk4, hre⟩ := h4.open_; have HB4 := keepf (hre.kb _ _ _ hgR (by decide) HB5.out); have HR4 := keepf (hre.back HR5.out.kb); clear hre h4)
      | (go_at_call 33; refine (HVA.out _ _ _ _ _).mono ?_; rintro e w6 ⟨rfl, hc6⟩; have HR6 := keepf (HR4.out.call hc6); have HB6 := keepf (HB4.out.chg hc6 (fun h => h)); clear hc6; obtain ⟨r0, r1, r2, r3, r4, r5, r6, r7, z0, z1, z2, z3, z4, z5, z6, z7⟩ := HB6.out.cl8)
      refine bodyPost_ret (v := .tuple #[.agg #[.int .i64 1, .int .i64 0, .int .i64 0, .int .i64 (K : Nat), .int .i64 0, .string S, .slice none 0 0, .string ⟨#[]⟩], .int .i64 r.1]) (by simp [results, Try.results25, go_sem, r0, r1, r2, r3, r4, r5, r6, r7]) rfl ?_
      have HRF := keepf ((HR6.out.set8 hgR hgW hgw (.int .i64 1) (.int .i64 0) (.int .i64 0) (.int .i64 (K : Nat)) (.int .i64 0) (.string S) (.slice none 0 0) (.string ⟨#[]⟩)).back HKB.out)
      exact PTk.value HD.out hS4 hk4 HRF.out
  have e60 : ((x : Int) == 60) = false := by simp; omega
  by_cases h62 : x = 62
  · subst h62
    have HD := keepf (HT.out.trans (tok_62d last p _))
    have HCD1 := keepf (fun X hX => HCD.out X (p + 1) p hX hk1)
    go_enter Try.func25, Try.ntmps25
    go_upto_region 1 with fail
    rw [← HWW.out, ← HG.out]
    go_wp2_with first
      | (go_at_call 31; refine (HTA.out _ _ _ HW1.out.here HX.out).mono ?_; rintro e w3 ⟨rfl, h3⟩; have HB3 := keepf (h3.kb _ _ _ hgR (by decide) HBW.out); have HR3 := keepf (h3.base (HW1.out.kb.trans h3.kb)); clear h3)
      | (go_at_call 37; refine (HCD1.out _ HR3.out.here).mono ?_; rintro e w4 ⟨t4, p4, rfl, ht4, hre⟩; have HT4 := keepf ht4; have HB4 := keepf (hre.kb _ _ _ hgR (by decide) HB3.out); have HR4 := keepf (hre.back HR3.out.kb); clear hre ht4; obtain ⟨r0, r1, r2, r3, r4, r5, r6, r7, z0, z1, z2, z3, z4, z5, z6, z7⟩ := HB4.out.cl8; obtain ⟨k1, k2, k3, k4, k5, k6, k7⟩ := t4; unfold tknV; obtain ⟨S6, hS6⟩ : ∃ S6, S6 = sb k6 := ⟨_, rfl⟩; obtain ⟨S7, hS7⟩ : ∃ S7, S7 = sb k7 := ⟨_, rfl⟩; simp only []; rw [← hS6, ← hS7]; have HS6 := keepf hS6; have HS7 := keepf hS7; clear hS6 hS7)
    refine bodyPost_ret (v := .tuple #[.agg #[.int .i64 (k1 : Nat), .int .i64 (k2 : Nat), .int .i64 (k3 : Nat), .int .i64 (k4 : Nat), .int .i64 k5, .string S6, .slice none 0 0, .string S7], .int .i64 (dictR last p (p + 1) (bs.drop (p + 1))).1]) (by simp [results, Try.results25, go_sem, r0, r1, r2, r3, r4, r5, r6, r7]) rfl ?_
    exact ⟨⟨k1, k2, k3, k4, k5, k6, k7⟩, p4, by rw [HD.out, HS6.out, HS7.out]; rfl, fun h9 => by rw [HD.out] at h9 ⊢; exact HT4.out h9, (HR4.out.set8 hgR hgW hgw _ _ _ _ _ _ _ _).back HKB.out⟩
  have e62 : ((x : Int) == 62) = false := by simp; omega
  by_cases h47 : x = 47
  · subst h47
    have HD := keepf (HT.out.trans (tok_47n last p _))
    obtain ⟨r, hr⟩ : ∃ r, r = nmTo last (p + 1) (bs.drop (p + 1)) := ⟨_, rfl⟩
    have HNM1 := keepf (fun X hX => HNM.out X (p + 1) hX hk1 h0)
    rw [← hr] at HD HNM1
    clear hr
    go_enter Try.func25, Try.ntmps25
    go_upto_region 1 with fail
    rw [← HWW.out, ← HG.out]
    go_wp2_with first
      | (go_at_call 31; refine (HTA.out _ _ _ HW1.out.here HX.out).mono ?_; rintro e w3 ⟨rfl, h3⟩; have HB3 := keepf (h3.kb _ _ _ hgR (by decide) HBW.out); have HR3 := keepf (h3.base (HW1.out.kb.trans h3.kb)); clear h3)
      | (go_at_call 38; refine (HNM1.out _ HR3.out.here).mono ?_; rintro e w4 h4; obtain ⟨K, vs, S, p4, hS4, rfl, hk4, hre⟩ := h4.open_; have HB4 := keepf (hre.kb _ _ _ hgR (by decide) HB3.out); have HR4 := keepf (hre.back HR3.out.kb); clear hre h4)
      | (go_at_call 33; refine (HVA.out _ _ _ _ _).mono ?_; rintro e w6 ⟨rfl, hc6⟩; have HR6 := keepf (HR4.out.call hc6); have HB6 := keepf (HB4.out.chg hc6 (fun h => h)); clear hc6; obtain ⟨r0, r1, r2, r3, r4, r5, r6, r7, z0, z1, z2, z3, z4, z5, z6, z7⟩ := HB6.out.cl8)
    refine bodyPost_ret (v := .tuple #[.agg #[.int .i64 1, .int .i64 0, .int .i64 0, .int .i64 (K : Nat), .int .i64 0, .string S, .slice none 0 0, .string ⟨#[]⟩], .int .i64 r.1]) (by simp [results, Try.results25, go_sem, r0, r1, r2, r3, r4, r5, r6, r7]) rfl ?_
    have HRF := keepf ((HR6.out.set8 hgR hgW hgw (.int .i64 1) (.int .i64 0) (.int .i64 0) (.int .i64 (K : Nat)) (.int .i64 0) (.string S) (.slice none 0 0) (.string ⟨#[]⟩)).back HKB.out)
    exact PTk.value HD.out hS4 hk4 HRF.out
  have e47 : ((x : Int) == 47) = false := by simp; omega
  by_cases hD : isDl x = true
  · have HD := keepf (show (tkR last p (bs.drop p)).1 = 11 from by rw [HT.out, tok_rest h91 h93 h60 h62 h40 h47, if_pos hD])
    have hx3 : x = 41 ∨ x = 123 ∨ x = 125 := by
      simp only [isDl, Bool.or_eq_true, beq_iff_eq] at hD
      omega
    clear h91 h93 h60 h62 h40 h47 e91 e93 e60 e62 e40 e47 hD h37
    rcases hx3 with rfl | rfl | rfl
    all_goals
      go_enter Try.func25, Try.ntmps25
      go_upto_region 1 with fail
      rw [← HWW.out, ← HG.out]
      go_wp2_with (go_at_call 31; refine (HTA.out _ _ _ HW1.out.here HX.out).mono ?_; rintro e w3 ⟨rfl, h3⟩; have HB3 := keepf (h3.kb _ _ _ hgR (by decide) HBW.out); have HR3 := keepf (h3.base (HW1.out.kb.trans h3.kb)); clear h3; obtain ⟨r0, r1, r2, r3, r4, r5, r6, r7, z0, z1, z2, z3, z4, z5, z6, z7⟩ := HB3.out.cl8)
      refine bodyPost_ret (v := .tuple #[.agg #[.int .i64 0, .int .i64 0, .int .i64 0, .int .i64 0, .int .i64 0, .string ⟨#[]⟩, .slice none 0 0, .string ⟨#[]⟩], .int .i64 11]) (by simp [results, Try.results25, go_sem, r0, r1, r2, r3, r4, r5, r6, r7]) rfl ?_
      exact PTk.err HD.out (by decide) ((HR3.out.re.set8 hgR hgW hgw _ _ _ _ _ _ _ _).back HKB.out)
  have hD0 : isDl x = false := by simpa using hD
  have hr : isRg x = true := by unfold isRg; rw [hsp, hD0]; rfl
  have hne : ∀ k, isDl k = true → x ≠ k := fun k hk e => hD (by rw [e]; exact hk)
  have h41 := hne 41 rfl
  have h123 := hne 123 rfl
  have h125 := hne 125 rfl
  have e41 : ((x : Int) == 41) = false := by simp; omega
  have e123 : ((x : Int) == 123) = false := by simp; omega
  have e125 : ((x : Int) == 125) = false := by simp; omega
  have HD := keepf (show tkR last p (bs.drop p) = bareR last p p x (bs.drop p) from by
    obtain ⟨y, hy, hd⟩ := drop_at (bs := bs) (k := p) (by omega)
    rw [HX.out] at hy
    injection hy with hy
    subst hy
    rw [HT.out, tok_bare hr, hd])
  have HBA1 := keepf (fun X hX => HBA.out X p x p hX HX.out hr)
  clear h91 h93 h60 h62 h40 h47 hD hD0 hr hne h41 h123 h125 h37 hsp
  have i1 : ((p : Int) + 1 - 1) = (p : Int) := by omega
  go_enter Try.func25, Try.ntmps25
  go_upto_region 1 with fail
  rw [← HWW.out, ← HG.out]
  go_upto_region 24 with (go_at_call 31; refine (HTA.out _ _ _ HW1.out.here HX.out).mono ?_; rintro e w3 ⟨rfl, h3⟩; have HB3 := keepf (h3.kb _ _ _ hgR (by decide) HBW.out); have HR3 := keepf (h3.base (HW1.out.kb.trans h3.kb)); clear h3; obtain ⟨c2, c3, c4, f3⟩ := HR3.out.cells)
  go_wp2_with (go_at_call 39; refine (HBA1.out _ (HR3.out.at_ p).here).mono ?_; rintro e w4 ⟨t4, p4, rfl, ht4, hre⟩; have HT4 := keepf ht4; have HB4 := keepf (hre.kb _ _ _ hgR (by decide) (HB3.out.far (p := ⟨R, 3, none⟩) hgR _)); have HR4 := keepf (hre.back (HR3.out.at_ p).kb); clear hre ht4; obtain ⟨r0, r1, r2, r3, r4, r5, r6, r7, z0, z1, z2, z3, z4, z5, z6, z7⟩ := HB4.out.cl8; obtain ⟨k1, k2, k3, k4, k5, k6, k7⟩ := t4; unfold tknV; obtain ⟨S6, hS6⟩ : ∃ S6, S6 = sb k6 := ⟨_, rfl⟩; obtain ⟨S7, hS7⟩ : ∃ S7, S7 = sb k7 := ⟨_, rfl⟩; simp only []; rw [← hS6, ← hS7]; have HS6 := keepf hS6; have HS7 := keepf hS7; clear hS6 hS7)
  refine bodyPost_ret (v := .tuple #[.agg #[.int .i64 (k1 : Nat), .int .i64 (k2 : Nat), .int .i64 (k3 : Nat), .int .i64 (k4 : Nat), .int .i64 k5, .string S6, .slice none 0 0, .string S7], .int .i64 (bareR last p p x (bs.drop p)).1]) (by simp [results, Try.results25, go_sem, r0, r1, r2, r3, r4, r5, r6, r7]) rfl ?_
  exact ⟨⟨k1, k2, k3, k4, k5, k6, k7⟩, p4, by rw [HD.out, HS6.out, HS7.out]; rfl, fun h9 => by rw [HD.out] at h9 ⊢; exact HT4.out h9, (HR4.out.set8 hgR hgW hgw _ _ _ _ _ _ _ _).back HKB.out⟩

end Go.Proofs.Ytaababegolfjeaa

/- The program's Skip: where space and comments end. -/
namespace Go.Proofs.Ytaababegolfjeaa
open Go.RowKit
set_option linter.unusedVariables false
set_option linter.unusedSimpArgs false

def skT (bs : List Nat) (k : Nat) : Nat := if k ≤ bs.length then k + skp false (bs.drop k) else bs.length

def SkJ1 (w : World) (bs : List Nat) (A : Option Addr) (c : Nat) (r : Nat) (n : Nat) (x : Act) (w' : World) : Prop :=
  x.defers = [] ∧ x.tmps.size = 49 ∧ x.tmps.getD 0 undef = .slice A bs.length c ∧ ∃ k : Nat, x.tmps.getD 1 undef = .int .i64 (k : Nat) ∧ n = 3 * (bs.length - k) + 1 ∧ w' = w ∧ Hid (r = skT bs k)

def SkJ0 (w : World) (bs : List Nat) (A : Option Addr) (c : Nat) (r : Nat) (n : Nat) (x : Act) (w' : World) : Prop :=
  x.defers = [] ∧ x.tmps.size = 49 ∧ x.tmps.getD 0 undef = .slice A bs.length c ∧ ∃ k : Nat, x.tmps.getD 1 undef = .int .i64 (k : Nat) ∧ k ≤ bs.length ∧ w' = w ∧ (n = 3 * (bs.length - k) + 2 ∨ (n = 3 * (bs.length - k) ∧ Hid (bs[k]? = some 37))) ∧ Hid (r = k + skp true (bs.drop k))

theorem slots_49 {x : Act} {v0 : Value} {C : Act → Prop} (h1 : x.defers = []) (h2 : x.tmps.size = 49) (h3 : x.tmps.getD 0 undef = v0)
    (k : ∀ f : Nat → Value, f 1 = x.tmps.getD 1 undef → C { tmps := #[v0, f 1, f 2, f 3, f 4, f 5, f 6, f 7, f 8, f 9, f 10, f 11, f 12, f 13, f 14, f 15, f 16, f 17, f 18, f 19, f 20, f 21, f 22, f 23, f 24, f 25, f 26, f 27, f 28, f 29, f 30, f 31, f 32, f 33, f 34, f 35, f 36, f 37, f 38, f 39, f 40, f 41, f 42, f 43, f 44, f 45, f 46, f 47, f 48], defers := [] }) : C x := by
  obtain ⟨t, d⟩ := x
  simp only at h1 h2 h3
  subst h1
  have h5 := k (fun i => t.getD i undef) rfl
  rw [← h3] at h5
  rw [arr_slots t 49 h2]
  exact h5

theorem skp_nl {y : Nat} {l : List Nat} (h : y = 10 ∨ y = 13) : skp true (y :: l) = skp false (y :: l) := skp_eol l h

set_option maxHeartbeats 4000000 in
set_option maxRecDepth 100000 in
theorem pskip_in (bs : List Nat) (A : Option Addr) (c p : Nat) (w : World) (hS : Src w 1 A bs.length c (lcells bs)) (hl : bs.length ≤ 1000000) (hc : bs.length ≤ c) :
    Calls Try.prog 24 #[.slice A bs.length c, .int .i64 (p : Nat)] w fun e w' => e = .returned (.int .i64 (skT bs p : Nat)) ∧ w = w' := by
  have HCELL := keepf (fun (hn : 0 < bs.length) => lcell hS (Chg.refl NoS w) hn)
  obtain ⟨r, hr⟩ : ∃ r, r = skT bs p := ⟨_, rfl⟩
  have HR := keepf hr
  rw [← hr]
  clear hS hr
  go_enter Try.func24, Try.ntmps24
  go_wp2
  refine wp_scope2 (SkJ0 w bs A c r) (SkJ1 w bs A c r) rfl rfl ?pass0 ?pass1 ?first
  case first =>
    intro _ hpass
    have HPass := keepf hpass
    clear hpass
    go_wp2
    go_step3
    rename_i hK
    refine hK _ _ (HPass.out _ _ _ ⟨rfl, rfl, rfl, p, rfl, rfl, rfl, HR⟩)
  case pass1 =>
    intro n x w1 hx
    obtain ⟨h1, h2, h3, k, h4, rfl, rfl, HT⟩ := hx
    refine slots_49 h1 h2 h3 (C := fun y => Code.wp _ _ _ y w1) ?_
    intro f hf
    rw [h4] at hf
    simp only [hf]
    clear h1 h2 h3 h4 hf
    by_cases hkn : bs.length ≤ k
    · have HE := keepf (show r = bs.length from by
        rw [HT.out, skT]
        split
        · rw [List.drop_of_length_le hkn]; show k + 0 = _; omega
        · rfl)
      have d1 : decide ((bs.length : Int) ≤ k) = true := by simp; omega
      go_wp2_with fail
      simp only [hops]
      go_ret
      exact ⟨ret_l64 (by rw [HE.out]), rfl⟩
    obtain ⟨x, hx, hd⟩ := drop_at (bs := bs) (k := k) (by omega)
    obtain ⟨b, off, rfl, hcell⟩ := HCELL.out (by omega)
    have c0 := hcell k x hx
    have d1 : decide ((bs.length : Int) ≤ k) = false := by simp; omega
    have d2 : (k : Int) < bs.length := by omega
    have HV := keepf (show r = k + skp false (x :: bs.drop (k + 1)) from by rw [HT.out, skT, if_pos (by omega), hd])
    have HX := keepf hx
    have HD := keepf hd
    have hkl : k < bs.length := by omega
    clear hcell hx hd hkn
    by_cases h37 : x = 37
    · subst h37
      go_wp2_with fail
      go_step3
      refine ⟨3 * (bs.length - k), by omega, .inl ⟨rfl, rfl, rfl, rfl, k, rfl, by omega, rfl, .inr ⟨rfl, HX⟩, keepf ?_⟩⟩
      rw [HV.out, skp_37, HD.out]
    have e37 : ((x : Int) == 37) = false := by simp; omega
    have HSP := keepf (fun W => pspace_any x W)
    by_cases hs : isSp x = true
    · have HG := keepf hs
      rw [hs] at HSP
      clear hs
      go_wp2_with (go_at_call 30; refine (HSP.out _).mono ?_; rintro e w3 ⟨rfl, rfl⟩)
      go_step3
      exact ⟨3 * (bs.length - (k + 1)) + 1, by omega, .inr ⟨rfl, rfl, rfl, rfl, k + 1, rfl, rfl, rfl, keepf (by rw [HV.out, skp_sp _ HG.out, skT, if_pos (by omega)]; omega)⟩⟩
    · have HG := keepf (show isSp x = false from by simpa using hs)
      rw [HG.out] at HSP
      clear hs
      go_wp2_with (go_at_call 30; refine (HSP.out _).mono ?_; rintro e w3 ⟨rfl, rfl⟩)
      simp only [hops]
      go_ret
      exact ⟨ret_l64 (by rw [HV.out, skp_no _ HG.out h37]; rfl), rfl⟩
  case pass0 =>
    intro n x w1 hx
    obtain ⟨h1, h2, h3, k, h4, hk, rfl, HN, HT⟩ := hx
    refine slots_49 h1 h2 h3 (C := fun y => Code.wp _ _ _ y w1) ?_
    intro f hf
    rw [h4] at hf
    simp only [hf]
    clear h1 h2 h3 h4 hf
    by_cases hkn : k = bs.length
    · subst hkn
      have hn : n = 3 * (bs.length - bs.length) + 2 := by
        rcases HN with h | ⟨_, h⟩
        · exact h
        · have := (List.getElem?_eq_some_iff.1 h.out).1; omega
      go_wp2_with fail
      go_step3
      exact ⟨3 * (bs.length - bs.length) + 1, by omega, .inr ⟨rfl, rfl, rfl, rfl, bs.length, rfl, rfl, rfl, keepf (by rw [HT.out, skT, if_pos (Nat.le_refl _), List.drop_of_length_le (Nat.le_refl _)]; rfl)⟩⟩
    obtain ⟨x, hx, hd⟩ := drop_at (bs := bs) (k := k) (by omega)
    obtain ⟨b, off, rfl, hcell⟩ := HCELL.out (by omega)
    have c0 := hcell k x hx
    have d2 : (k : Int) < bs.length := by omega
    have hkl : k < bs.length := by omega
    have HV := keepf (show r = k + skp true (x :: bs.drop (k + 1)) from by rw [HT.out, hd])
    have HD := keepf hd
    have HX := keepf hx
    clear hcell hx hd
    by_cases hnl : x = 10 ∨ x = 13
    · have hn : n = 3 * (bs.length - k) + 2 := by
        rcases HN with h | ⟨_, h⟩
        · exact h
        · have e := h.out
          rw [HX.out] at e
          injection e with e
          omega
      have HW := keepf (show r = skT bs k from by rw [HV.out, skp_nl hnl, skT, if_pos (by omega), HD.out])
      clear HN
      rcases hnl with rfl | rfl
      all_goals
        go_wp2_with fail
        go_step3
        exact ⟨3 * (bs.length - k) + 1, by omega, .inr ⟨rfl, rfl, rfl, rfl, k, rfl, rfl, rfl, HW⟩⟩
    · have e0 : ((x : Int) != 10) = true := by simp; omega
      have e1 : ((x : Int) != 13) = true := by simp; omega
      have HW := keepf (show r = k + 1 + skp true (bs.drop (k + 1)) from by rw [HV.out, skp_com _ (by omega) (by omega)]; omega)
      have hn : 3 * (bs.length - k) ≤ n := by rcases HN with h | ⟨h, _⟩ <;> omega
      clear hnl HN
      go_wp2_with fail
      go_step3
      exact ⟨3 * (bs.length - (k + 1)) + 2, by omega, .inl ⟨rfl, rfl, rfl, rfl, k + 1, rfl, by omega, rfl, .inl rfl, HW⟩⟩

theorem pskip_any (bs : List Nat) (A : Option Addr) (c : Nat) (p : Int) (w : World) (hS : Src w 1 A bs.length c (lcells bs)) (hl : bs.length ≤ 1000000) (hc : bs.length ≤ c) :
    Calls Try.prog 24 #[.slice A bs.length c, .int .i64 p] w fun e w' => e = .returned (.int .i64 (skipO bs p : Nat)) ∧ w = w' := by
  by_cases h0 : p < 0
  · have HE := keepf (show skipO bs p = 0 from if_pos h0)
    obtain ⟨n, hn⟩ : ∃ n, n = bs.length := ⟨_, rfl⟩
    rw [← hn] at hl ⊢
    clear hS hc hn
    go_enter Try.func24, Try.ntmps24
    go_wp2
    go_step3
    go_wp2_with fail
    (try simp only [Exit.noGoto_ret])
    go_ret
    exact ⟨ret_l64 (by rw [HE.out]; rfl), rfl⟩
  · have h := pskip_in bs A c p.toNat w hS hl hc
    rw [show ((p.toNat : Nat) : Int) = p from by omega] at h
    have e : skT bs p.toNat = skipO bs p := by
      rw [skT, skipO, if_neg h0]
      by_cases h1 : p ≤ bs.length
      · rw [if_pos (by omega), if_pos h1]
      · rw [if_neg (by omega), if_neg h1]
    rwa [e] at h

end Go.Proofs.Ytaababegolfjeaa

/- What the program's functions of words of a file are to answer (to be proved of what lands), the law's own two small functions, and its works. -/
namespace Go.Proofs.Ytaababegolfjeaa
open Go.RowKit
set_option linter.unusedVariables false
set_option linter.unusedSimpArgs false

/-- All tokens from a place on, where the last one ended, and the error. -/
inductive AllIs (bs : List Nat) : Nat → List Tkn → Nat → Int → Prop
  | done {p : Nat} (h : nextO bs p true = (0, noT bs.length)) : AllIs bs p [] p 0
  | err {p q : Nat} {er : Int} (h : nextO bs p true = (er, noT q)) (he : er ≠ 0) : AllIs bs p [] q er
  | tok {p q : Nat} {er : Int} {t : Tkn} {ts : List Tkn} (h : nextO bs p true = (0, t)) (hk : t.kind ≠ 0) (hp : t.to ≤ bs.length) (h2 : AllIs bs t.to ts q er) : AllIs bs p (t :: ts) q er

def tkcells (ts : List Tkn) : List Value := ts.flatMap fun t => [.int .i64 (t.kind : Nat), .int .i64 (t.from_ : Nat), .int .i64 (t.to : Nat), .int .i64 (t.vk : Nat), .int .i64 t.vn, .string (sb t.vs), .slice none 0 0, .string (sb t.s)]

end Go.Proofs.Ytaababegolfjeaa

/- The program's Next (written by mkpnext.py). -/
namespace Go.Proofs.Ytaababegolfjeaa
open Go.RowKit
set_option linter.unusedVariables false
set_option linter.unusedSimpArgs false

set_option maxHeartbeats 1000000 in
theorem pnext_bad (n : Nat) (A : Option Addr) (c : Nat) (p : Int) (last : Bool) (w : World) (h : p < 0 ∨ (n : Int) < p) :
    Calls Try.prog 18 #[.slice A n c, .int .i64 p, .bool last] w (NxTo w (2, noT 0)) := by
  by_cases h1 : p < 0
  · clear h
    go_enter Try.func18, Try.ntmps18
    go_wp2_with fail
    refine bodyPost_ret (v := .tuple #[.agg #[.int .i64 0, .int .i64 0, .int .i64 0, .int .i64 0, .int .i64 0, .string ⟨#[]⟩, .slice none 0 0, .string ⟨#[]⟩], .int .i64 2]) (by simp [results, Try.results18, go_sem]) rfl ?_
    exact ⟨rfl, (Chg.refl NoS w).alloc _⟩
  · have h2 : (n : Int) < p := by omega
    clear h
    go_enter Try.func18, Try.ntmps18
    go_wp2_with fail
    refine bodyPost_ret (v := .tuple #[.agg #[.int .i64 0, .int .i64 0, .int .i64 0, .int .i64 0, .int .i64 0, .string ⟨#[]⟩, .slice none 0 0, .string ⟨#[]⟩], .int .i64 2]) (by simp [results, Try.results18, go_sem]) rfl ?_
    exact ⟨rfl, (Chg.refl NoS w).alloc _⟩

theorem Chg.newc {w X : World} {g i : Nat} {u : Value} (hg : w.heap.size ≤ g) (h : Chg NoS w X) : Chg NoS w (X.setCell ⟨g, i, none⟩ u) :=
  h.setCell (p := ⟨g, i, none⟩) (fun e => absurd e (Nat.not_lt.2 hg)) u

theorem nextO_tk (bs : List Nat) (p : Nat) (last : Bool) : nextO bs p last = tkR last (p + skp false (bs.drop p)) (bs.drop (p + skp false (bs.drop p))) := by
  unfold nextO tkR
  cases bs.drop (p + skp false (bs.drop p)) <;> rfl

theorem tkR_err {last : Bool} {p : Nat} {l : List Nat} (h : (tkR last p l).1 ≠ 0) : (tkR last p l).2 = noT p := by
  cases l with
  | nil => rfl
  | cons x l =>
    rcases tokO_to last p x l with ⟨_, h2⟩ | ⟨h1, _⟩
    · exact h2
    · exact absurd h1 h

theorem tkR_from {last : Bool} {p : Nat} {l : List Nat} (h : (tkR last p l).1 = 0) : (tkR last p l).2.from_ = p := by
  cases l with
  | nil => rfl
  | cons x l =>
    rcases tokO_to last p x l with ⟨h1, _⟩ | ⟨_, _, h3, _⟩
    · exact absurd h h1
    · exact h3

theorem tkR_le {last : Bool} {p : Nat} {l : List Nat} : (tkR last p l).2.to ≤ p + l.length := by
  cases l with
  | nil => exact Nat.le_refl _
  | cons x l =>
    rcases tokO_to last p x l with ⟨_, h2⟩ | ⟨_, _, _, _, h5⟩
    · show (tokO last p x l).2.to ≤ _
      rw [h2]; exact Nat.le_add_right _ _
    · have : (tokO last p x l).2.to ≤ p + 1 + l.length := h5
      show (tokO last p x l).2.to ≤ _
      simp only [List.length_cons]; omega

set_option maxHeartbeats 4000000 in
set_option maxRecDepth 100000 in
theorem pnext_in (bs : List Nat) (A : Option Addr) (c p : Nat) (last : Bool) (w : World) (hS : Src w 1 A bs.length c (lcells bs)) (hl : bs.length ≤ 90000) (hc : bs.length ≤ c) (hp : p ≤ bs.length) (hb : ∀ x ∈ bs, x < 256) :
    Calls Try.prog 18 #[.slice A bs.length c, .int .i64 (p : Nat), .bool last] w (NxTo w (nextO bs p last)) := by
  have hsk := skp_le (bs.drop p) false
  rw [List.length_drop] at hsk
  obtain ⟨f, hf⟩ : ∃ f, f = p + skp false (bs.drop p) := ⟨_, rfl⟩
  have hfl : f ≤ bs.length := by omega
  have hns : ∀ x, bs[f]? = some x → isSp x = false ∧ x ≠ 37 := fun x hx => by
    have hlt : f < bs.length := (List.getElem?_eq_some_iff.1 hx).1
    obtain ⟨y, m, hd, h1, h2⟩ := skp_stop (bs.drop p) false (by rw [List.length_drop]; omega)
    rw [List.drop_drop, ← hf] at hd
    obtain ⟨z, hz, hd2⟩ := drop_at (bs := bs) (k := f) hlt
    rw [hx] at hz
    injection hz with hz
    rw [hd2] at hd
    injection hd with hd _
    rw [hz, hd]
    exact ⟨h1, h2⟩
  have HSK := keepf (fun W (hW : Chg NoS w W) => (show Calls Try.prog 24 #[.slice A bs.length c, .int .i64 (p : Nat)] W fun e w' => e = .returned (.int .i64 (f : Nat)) ∧ W = w' from by
    have h := pskip_any bs A c (p : Int) W (Src.below (w0 := w) hS hW) (by omega) hc
    rw [show skipO bs (p : Int) = f from by rw [skipO, if_neg (by omega), if_pos (by omega), hf]; rfl] at h
    exact h))
  have HTK := keepf (fun X (hX : RD X w X A bs.length c last (w.heap.size + 1) f []) => ptoken_any hX hS (by omega) hc hfl hb hns)
  obtain ⟨r, hr⟩ : ∃ r, r = tkR last f (bs.drop f) := ⟨_, rfl⟩
  have HRN := keepf (show nextO bs p last = r from by rw [nextO_tk, ← hf, hr])
  rw [← hr] at HTK
  have HERR := keepf (fun h : r.1 ≠ 0 => (show r.2 = noT f from by rw [hr] at h ⊢; exact tkR_err h))
  have HFR := keepf (fun h : r.1 = 0 => (show r.2.from_ = f from by rw [hr] at h ⊢; exact tkR_from h))
  have HB0 := keepf (Blk.new w 37 #[.int .i64 0, .int .i64 0, .int .i64 0, .int .i64 0, .int .i64 0, .string ⟨#[]⟩, .slice none 0 0, .string ⟨#[]⟩])
  have HC0 := keepf ((Chg.refl NoS w).alloc (.cells #[.int .i64 0, .int .i64 0, .int .i64 0, .int .i64 0, .int .i64 0, .string ⟨#[]⟩, .slice none 0 0, .string ⟨#[]⟩] 37))
  have HRD := keepf (show RD ((w.alloc (.cells #[.int .i64 0, .int .i64 0, .int .i64 0, .int .i64 0, .int .i64 0, .string ⟨#[]⟩, .slice none 0 0, .string ⟨#[]⟩] 37)).alloc (.cells #[.pointer none, .slice none 0 0, .slice A bs.length c, .int .i64 (f : Nat), .bool last] 58)) w ((w.alloc (.cells #[.int .i64 0, .int .i64 0, .int .i64 0, .int .i64 0, .int .i64 0, .string ⟨#[]⟩, .slice none 0 0, .string ⟨#[]⟩] 37)).alloc (.cells #[.pointer none, .slice none 0 0, .slice A bs.length c, .int .i64 (f : Nat), .bool last] 58)) A bs.length c last (w.heap.size + 1) f [] from
    ⟨.pointer none, none, 0, by have := Blk.new (w.alloc (.cells #[.int .i64 0, .int .i64 0, .int .i64 0, .int .i64 0, .int .i64 0, .string ⟨#[]⟩, .slice none 0 0, .string ⟨#[]⟩] 37)) 58 #[.pointer none, .slice none 0 0, .slice A bs.length c, .int .i64 (f : Nat), .bool last]; rw [show (w.alloc (.cells #[.int .i64 0, .int .i64 0, .int .i64 0, .int .i64 0, .int .i64 0, .string ⟨#[]⟩, .slice none 0 0, .string ⟨#[]⟩] 37)).heap.size = w.heap.size + 1 from by simp] at this; exact this, .inl rfl, own_nil _ _ _ _, ((Chg.refl NoS w).alloc _).alloc _, by omega, KB.refl _ _⟩)
  obtain ⟨N, hN⟩ : ∃ N, bs.length = N := ⟨_, rfl⟩
  rw [hN] at HSK HTK HRD hp hl hc hfl ⊢
  clear hS hb hns hsk hf hr hN
  rw [HRN.out]
  obtain ⟨er, tt⟩ := r
  simp only at HERR HFR HTK
  have HCH2 := keepf (HRD.out.chg)
  have HB1 := keepf (HB0.out.alloc (.cells #[.pointer none, .slice none 0 0, .slice A N c, .int .i64 (f : Nat), .bool last] 58))
  have hgR : w.heap.size ≠ w.heap.size + 1 := by omega
  by_cases he : er = 0
  · subst he
    obtain ⟨tk, tf, tt_, tvk, tvn, tvs, ts⟩ := tt
    obtain rfl : tf = f := HFR.out rfl
    have HTK0 := keepf (fun X hX => (HTK.out X hX))
    clear HTK HERR HFR
    go_enter Try.func18, Try.ntmps18
    go_upto_region 5 with (go_at_call 24; refine (HSK.out _ HC0.out).mono ?_; rintro e w2 ⟨rfl, hw2⟩; subst hw2)
    go_upto_region 8 with (go_at_call 25; refine (HTK0.out _ HRD.out).mono ?_; rintro e w3 ⟨t, q, rfl, ht, hre⟩; obtain ⟨rfl, rfl⟩ := ht rfl; unfold tknV; obtain ⟨S6, hS6⟩ : ∃ S6, S6 = sb tvs := ⟨_, rfl⟩; obtain ⟨S7, hS7⟩ : ∃ S7, S7 = sb ts := ⟨_, rfl⟩; simp only []; rw [← hS6, ← hS7]; have HS6 := keepf hS6; have HS7 := keepf hS7; have HB6 := keepf (hre.kb _ _ _ hgR (by decide) HB1.out); have HRE := keepf hre; have cR := hre.cell; clear hS6 hS7 ht hre)
    have HB64 := keepf (HB6.out.alloc (.cells #[.int .i64 (tk : Nat), .int .i64 0, .int .i64 0, .int .i64 (tvk : Nat), .int .i64 tvn, .string S6, .slice none 0 0, .string S7] 37))
    have HB104 := keepf (Blk.new w3 37 #[.int .i64 (tk : Nat), .int .i64 0, .int .i64 0, .int .i64 (tvk : Nat), .int .i64 tvn, .string S6, .slice none 0 0, .string S7])
    have cR4 := (((Chg.refl NoS w3).alloc (.cells #[.int .i64 (tk : Nat), .int .i64 0, .int .i64 0, .int .i64 (tvk : Nat), .int .i64 tvn, .string S6, .slice none 0 0, .string S7] 37)).cell (p := ⟨w.heap.size + 1, 3, none⟩) (cell_lt cR) (fun h => h)).trans cR
    have HC4 := keepf (HRE.out.chg.alloc (.cells #[.int .i64 (tk : Nat), .int .i64 0, .int .i64 0, .int .i64 (tvk : Nat), .int .i64 tvn, .string S6, .slice none 0 0, .string S7] 37))
    have hlt6 := HB6.out.lt
    have hltR := cell_lt cR
    simp only at hltR
    have hw3 := HRE.out.chg.size
    obtain ⟨W4, hW4⟩ : ∃ W4, W4 = w3.alloc (.cells #[.int .i64 (tk : Nat), .int .i64 0, .int .i64 0, .int .i64 (tvk : Nat), .int .i64 tvn, .string S6, .slice none 0 0, .string S7] 37) := ⟨_, rfl⟩
    rw [← hW4] at HB64 HB104 cR4 HC4 ⊢
    obtain ⟨g6, hg6⟩ : ∃ g6, g6 = w.heap.size := ⟨_, rfl⟩
    obtain ⟨g10, hg10⟩ : ∃ g10, g10 = w3.heap.size := ⟨_, rfl⟩
    obtain ⟨R, hR⟩ : ∃ R, R = w.heap.size + 1 := ⟨_, rfl⟩
    rw [← hR] at cR4 ⊢
    rw [← hg6] at HB64 ⊢
    rw [← hg10] at HB104 ⊢
    have hne1 : g6 ≠ g10 := by omega
    have hne2 : R ≠ g10 := by omega
    have hne3 : R ≠ g6 := by omega
    have hne1' : g10 ≠ g6 := by omega
    have hge6 : w.heap.size ≤ g6 := by omega
    have hge10 : w.heap.size ≤ g10 := by omega
    obtain ⟨q0, q1, q2, q3, q4, q5, q6, q7, y0, y1, y2, y3, y4, y5, y6, y7⟩ := HB104.out.cl8
    obtain ⟨r0, r1, r2, r3, r4, r5, r6, r7, z0, z1, z2, z3, z4, z5, z6, z7⟩ := HB64.out.cl8
    clear hW4 hg6 hg10 hR hlt6 hltR hw3 cR HRE HB6 HRD HB0 HB1 HC0 HCH2 HTK0 HSK
    go_region
    go_wp2_with fail
    refine bodyPost_ret (v := .tuple #[.agg #[.int .i64 (tk : Nat), .int .i64 (tf : Nat), .int .i64 (q : Nat), .int .i64 (tvk : Nat), .int .i64 tvn, .string S6, .slice none 0 0, .string S7], .int .i64 0]) (by simp [results, Try.results18, go_sem, r0, r1, r2, r3, r4, r5, r6, r7, q0, q1, q2, q3, q4, q5, q6, q7, hne1, hne1']) rfl ?_
    refine ⟨by rw [HS6.out, HS7.out]; rfl, ?_⟩
    exact Chg.drew (Chg.newc hge6 (Chg.newc hge6 (Chg.newc hge6 (Chg.newc hge6 (Chg.newc hge6 (Chg.newc hge6 (Chg.newc hge6 (Chg.newc hge6 (Chg.newc hge10 (Chg.newc hge10 HC4.out))))))))))
  · have HNT := keepf (HERR.out he)
    have e1 : (er != 0) = true := by simpa using he
    have e2 : (er == 0) = false := by simpa using he
    clear HERR HFR he
    go_enter Try.func18, Try.ntmps18
    go_upto_region 5 with (go_at_call 24; refine (HSK.out _ HC0.out).mono ?_; rintro e w2 ⟨rfl, hw2⟩; subst hw2)
    go_upto_region 7 with (go_at_call 25; refine (HTK.out _ HRD.out).mono ?_; rintro e w3 ⟨t, q, rfl, ht, hre⟩; obtain ⟨tk, tf, tt_, tvk, tvn, tvs, ts⟩ := t; unfold tknV; obtain ⟨S6, hS6⟩ : ∃ S6, S6 = sb tvs := ⟨_, rfl⟩; obtain ⟨S7, hS7⟩ : ∃ S7, S7 = sb ts := ⟨_, rfl⟩; simp only []; rw [← hS6, ← hS7]; have HB6 := keepf (hre.kb _ _ _ hgR (by decide) HB1.out); have HRE := keepf hre; clear hS6 hS7 ht hre)
    have HB64 := keepf (HB6.out.alloc (.cells #[.int .i64 (tk : Nat), .int .i64 (tf : Nat), .int .i64 (tt_ : Nat), .int .i64 (tvk : Nat), .int .i64 tvn, .string S6, .slice none 0 0, .string S7] 37))
    have HC4 := keepf (HRE.out.chg.alloc (.cells #[.int .i64 (tk : Nat), .int .i64 (tf : Nat), .int .i64 (tt_ : Nat), .int .i64 (tvk : Nat), .int .i64 tvn, .string S6, .slice none 0 0, .string S7] 37))
    obtain ⟨W4, hW4⟩ : ∃ W4, W4 = w3.alloc (.cells #[.int .i64 (tk : Nat), .int .i64 (tf : Nat), .int .i64 (tt_ : Nat), .int .i64 (tvk : Nat), .int .i64 tvn, .string S6, .slice none 0 0, .string S7] 37) := ⟨_, rfl⟩
    rw [← hW4] at HB64 HC4 ⊢
    obtain ⟨g6, hg6⟩ : ∃ g6, g6 = w.heap.size := ⟨_, rfl⟩
    rw [← hg6] at HB64 ⊢
    have hge6 : w.heap.size ≤ g6 := by omega
    obtain ⟨r0, r1, r2, r3, r4, r5, r6, r7, z0, z1, z2, z3, z4, z5, z6, z7⟩ := HB64.out.cl8
    clear hW4 hg6 HRE HB6 HRD HB0 HB1 HC0 HCH2 HTK HSK
    go_wp2_with fail
    refine bodyPost_ret (v := .tuple #[.agg #[.int .i64 0, .int .i64 (f : Nat), .int .i64 (f : Nat), .int .i64 0, .int .i64 0, .string ⟨#[]⟩, .slice none 0 0, .string ⟨#[]⟩], .int .i64 er]) (by simp [results, Try.results18, go_sem, r0, r1, r2, r3, r4, r5, r6, r7]) rfl ?_
    refine ⟨by rw [HNT.out]; rfl, ?_⟩
    exact Chg.newc hge6 (Chg.newc hge6 (Chg.newc hge6 (Chg.newc hge6 (Chg.newc hge6 (Chg.newc hge6 (Chg.newc hge6 (Chg.newc hge6 HC4.out)))))))

theorem pnext_any (bs : List Nat) (A : Option Addr) (c : Nat) (p : Int) (last : Bool) (w : World) (hS : Src w 1 A bs.length c (lcells bs)) (hl : bs.length ≤ 90000) (hc : bs.length ≤ c) (hb : ∀ x ∈ bs, x < 256) :
    Calls Try.prog 18 #[.slice A bs.length c, .int .i64 p, .bool last] w (NxTo w (nextA bs p last)) := by
  unfold nextA
  by_cases h : p < 0 ∨ (bs.length : Int) < p
  · rw [if_pos h]
    exact pnext_bad bs.length A c p last w h
  · rw [if_neg h]
    have h2 := pnext_in bs A c p.toNat last w hS hl hc (by omega) hb
    rwa [show ((p.toNat : Nat) : Int) = p from by omega] at h2

end Go.Proofs.Ytaababegolfjeaa

