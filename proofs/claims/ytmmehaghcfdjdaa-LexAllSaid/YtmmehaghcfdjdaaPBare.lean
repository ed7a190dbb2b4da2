/- The reader's numbers and words (written by mkpbare.py). -/
import Derived.Test.YtmmehaghcfdjdaaPTok
import Derived.Test.YtmmehaghcfdjdaaNPrs
namespace Go.Proofs.Ytmmehaghcfdjdaa
open Go.RowKit
set_option linter.unusedVariables false
set_option linter.unusedSimpArgs false

def bareR (last : Bool) (f p x : Nat) (l : List Nat) : Int × Tkn :=
  if runE last l ≠ 0 then (6, noT f)
  else if isNm x then
    if (numOf (l.take (rgs l))).1 ≠ 0 then ((numOf (l.take (rgs l))).1, noT f) else (0, ⟨1, f, p + rgs l, (numOf (l.take (rgs l))).2.1, (numOf (l.take (rgs l))).2.2, [], []⟩)
  else (0, ⟨6, f, p + rgs l, 0, 0, [], l.take (rgs l)⟩)
set_option maxHeartbeats 2000000 in
set_option maxRecDepth 100000 in
theorem pbare_any {V w W : World} {A : Option Addr} {bs : List Nat} {c R p x : Nat} {last : Bool} (h : RD V w W A bs.length c last R p []) (hS : Src w 1 A bs.length c (lcells bs)) (hl : bs.length ≤ 100000) (hc : bs.length ≤ c) (hb : ∀ d ∈ bs, d < 256) (hx : bs[p]? = some x) (hr : isRg x = true) (f : Nat) :
    Calls Try.prog 34 #[.pointer (some ⟨R, 0, none⟩)] W (PTk V w R (bareR last f p x (bs.drop p))) := by
  have hp : p < bs.length := (List.getElem?_eq_some_iff.1 hx).1
  have hx256 : x < 256 := hb x (List.mem_of_getElem? hx)
  have HRU := keepf (fun X (hX : RD X w X A bs.length c last R p []) => prun_any hX hS hl hc (by omega) (by omega))
  have HCR := keepf (fun X => crune_any x hx256 X)
  have HVA := keepf (fun k n er X => pvalued_any k n er ⟨#[]⟩ X)
  have HKB := keepf h.kb
  have HR0 := keepf h.here
  have hRW := h.lt
  have hwW := h.chg.size
  obtain ⟨g, hg⟩ : ∃ g, g = W.heap.size := ⟨_, rfl⟩
  have HG := keepf hg
  have hgR : g ≠ R := by omega
  have hgW : W.heap.size ≤ g := by omega
  have hgw : w.heap.size ≤ g := by omega
  have HBW := keepf (show Blk (W.alloc (.cells #[.int .i64 0, .int .i64 0, .int .i64 0, .int .i64 0, .int .i64 0, .string ⟨#[]⟩, .slice none 0 0, .string ⟨#[]⟩] 28)) g 28 #[.int .i64 0, .int .i64 0, .int .i64 0, .int .i64 0, .int .i64 0, .string ⟨#[]⟩, .slice none 0 0, .string ⟨#[]⟩] from by rw [hg]; exact Blk.new _ _ _)
  have HW1 := keepf (HR0.out.alloc (.cells #[.int .i64 0, .int .i64 0, .int .i64 0, .int .i64 0, .int .i64 0, .string ⟨#[]⟩, .slice none 0 0, .string ⟨#[]⟩] 28))
  obtain ⟨W1, hW1⟩ : ∃ W1, W1 = W.alloc (.cells #[.int .i64 0, .int .i64 0, .int .i64 0, .int .i64 0, .int .i64 0, .string ⟨#[]⟩, .slice none 0 0, .string ⟨#[]⟩] 28) := ⟨_, rfl⟩
  rw [← hW1] at HW1 HBW
  have HWW := keepf hW1
  obtain ⟨l, hl0⟩ : ∃ l, l = bs.drop p := ⟨_, rfl⟩
  obtain ⟨m, hm⟩ : ∃ m, l = x :: m := by
    obtain ⟨y, hy, hd⟩ := drop_at (bs := bs) hp
    rw [hx] at hy
    injection hy with hy
    exact ⟨bs.drop (p + 1), by rw [hl0, hd, hy]⟩
  have hlb : ∀ d ∈ l, d < 256 := fun d hd => hb d (by rw [hl0] at hd; exact List.mem_of_mem_drop hd)
  have hll : l.length ≤ 100000 := by rw [hl0, List.length_drop]; omega
  obtain ⟨ws, hws⟩ : ∃ ws, ws = l.take (rgs l) := ⟨_, rfl⟩
  have hwsx : ws = x :: m.take (rgs m) := by rw [hws, hm, rgs_go hr, List.take_succ_cons]
  have hwsb : ∀ d ∈ ws, d < 256 := fun d hd => hlb d (by rw [hws] at hd; exact List.mem_of_mem_take hd)
  have hwsl : ws.length ≤ 100000 := by rw [hws, List.length_take]; omega
  have hsl := sl_sb ws hwsb
  have hsz := sb_size ws
  have HPA := keepf (fun X => parse_any (sb ws) X (by rw [sb_size]; exact hwsl))
  rw [hsl] at HPA
  obtain ⟨L, hL⟩ : ∃ L, L = p + rgs l := ⟨_, rfl⟩
  have HB := keepf (show bareR last f p x l = if runE last l ≠ 0 then (6, noT f) else if isNm x then (if (numOf ws).1 ≠ 0 then ((numOf ws).1, noT f) else (0, ⟨1, f, L, (numOf ws).2.1, (numOf ws).2.2, [], []⟩)) else (0, ⟨6, f, L, 0, 0, [], ws⟩) from by unfold bareR; rw [hws, hL])
  rw [← hl0] at HRU ⊢
  rw [← hws, ← hL] at HRU
  obtain ⟨t, ht⟩ : ∃ t, sb ws = t := ⟨_, rfl⟩
  have HTS := keepf ht
  rw [ht] at HRU HPA hsl hsz
  have g0 : ∀ k : 0 < t.size, (t[0]'k).toNat = x := fun k => by rw [sl_at, hsl, hwsx]; rfl
  obtain ⟨N, hN⟩ : ∃ N, t.size = N := ⟨_, rfl⟩
  have hN0 : 0 < N := by rw [← hN, hsz, hwsx]; exact Nat.zero_lt_succ _
  have hN1 : (0 : Int) < N := by omega
  obtain ⟨er0, K, n, hNu⟩ : ∃ er0 K n, numOf ws = (er0, K, n) := ⟨_, _, _, rfl⟩
  rw [hNu] at HB
  have HPA1 := keepf (fun X => (show Calls Try.prog 49 #[.string t] X fun e w' => e = .returned (.tuple #[.agg #[.int .i64 (K : Nat), .int .i64 n, .string ⟨#[]⟩, .slice none 0 0], .int .i64 er0]) ∧ Chg NoS X w' from by
    have h9 := HPA.out X
    unfold PaTo at h9
    rw [hNu] at h9
    exact h9))
  have hw32 : IntKind.i32.wrap (x : Int) = (x : Int) := by rw [IntKind.wrap_i32]; omega
  clear h hS hg hwW hRW hW1 hl0 hm hlb hll hws hwsx hwsb hwsl hsl hsz hL ht hb hx hNu HPA hl hc hp
  rcases runE_two last l with hE | hE
  case inr =>
    rw [hE] at HRU HB
    clear hE
    have HB2 := keepf (HB.out.trans (if_pos (show (6 : Int) ≠ 0 by decide)))
    go_enter Try.func34, Try.ntmps34
    go_upto_region 1 with fail
    rw [← HWW.out, ← HG.out]
    go_wp2_with (go_at_call 43; refine (HRU.out _ HW1.out.here).mono ?_; rintro e w3 ⟨rfl, h3⟩; have HB3 := keepf (h3.kb _ _ _ hgR (by decide) HBW.out); have HR3 := keepf (h3.base (HW1.out.kb.trans h3.kb)); clear h3; obtain ⟨r0, r1, r2, r3, r4, r5, r6, r7, z0, z1, z2, z3, z4, z5, z6, z7⟩ := HB3.out.cl8)
    refine bodyPost_ret (v := .tuple #[.agg #[.int .i64 0, .int .i64 0, .int .i64 0, .int .i64 0, .int .i64 0, .string ⟨#[]⟩, .slice none 0 0, .string ⟨#[]⟩], .int .i64 6]) (by simp [results, Try.results34, go_sem, r0, r1, r2, r3, r4, r5, r6, r7]) rfl ?_
    exact PTk.err (by rw [HB2.out]) (by decide) ((HR3.out.re.set8 hgR hgW hgw _ _ _ _ _ _ _ _).back HKB.out)
  rw [hE] at HRU HB
  clear hE
  have HB1 := keepf (HB.out.trans (if_neg (fun h9 => h9 rfl)))
  cases hNm : isNm x with
  | false =>
    rw [hNm] at HCR HB1
    have HB2 := keepf (HB1.out.trans (if_neg (by decide)))
    clear hNm
    go_enter Try.func34, Try.ntmps34
    go_upto_region 1 with fail
    rw [← HWW.out, ← HG.out]
    go_wp2_with first
      | (go_at_call 43; refine (HRU.out _ HW1.out.here).mono ?_; rintro e w3 ⟨rfl, h3⟩; have HB3 := keepf (h3.kb _ _ _ hgR (by decide) HBW.out); have HR3 := keepf (h3.base (HW1.out.kb.trans h3.kb)); clear h3)
      | (go_at_call 48; refine (HCR.out _).mono ?_; rintro e w4 ⟨rfl, hc4⟩; have HR4 := keepf (HR3.out.call hc4); have HB4 := keepf (HB3.out.chg hc4 (fun h => h)); clear hc4; obtain ⟨r0, r1, r2, r3, r4, r5, r6, r7, z0, z1, z2, z3, z4, z5, z6, z7⟩ := HB4.out.cl8)
    refine bodyPost_ret (v := .tuple #[.agg #[.int .i64 6, .int .i64 0, .int .i64 0, .int .i64 0, .int .i64 0, .string ⟨#[]⟩, .slice none 0 0, .string t], .int .i64 0]) (by simp [results, Try.results34, go_sem, r0, r1, r2, r3, r4, r5, r6, r7]) rfl ?_
    exact ⟨⟨6, 0, 0, 0, 0, [], ws⟩, L, by rw [HB2.out, ← HTS.out]; rfl, fun _ => by rw [HB2.out]; exact ⟨rfl, rfl⟩, (HR4.out.re.set8 hgR hgW hgw _ _ _ _ _ _ _ _).back HKB.out⟩
  | true =>
    rw [hNm] at HCR HB1
    have HB2 := keepf (HB1.out.trans (if_pos rfl))
    clear hNm
    go_enter Try.func34, Try.ntmps34
    go_upto_region 1 with fail
    rw [← HWW.out, ← HG.out]
    go_wp2_with first
      | (go_at_call 43; refine (HRU.out _ HW1.out.here).mono ?_; rintro e w3 ⟨rfl, h3⟩; have HB3 := keepf (h3.kb _ _ _ hgR (by decide) HBW.out); have HR3 := keepf (h3.base (HW1.out.kb.trans h3.kb)); clear h3)
      | (go_at_call 48; refine (HCR.out _).mono ?_; rintro e w4 ⟨rfl, hc4⟩; have HR4 := keepf (HR3.out.call hc4); have HB4 := keepf (HB3.out.chg hc4 (fun h => h)); clear hc4)
      | (go_at_call 49; refine (HPA1.out _).mono ?_; rintro e w5 ⟨rfl, hc5⟩; have HR5 := keepf (HR4.out.call hc5); have HB5 := keepf (HB4.out.chg hc5 (fun h => h)); clear hc5)
      | (go_at_call 28; refine (HVA.out _ _ _ _).mono ?_; rintro e w6 ⟨rfl, hc6⟩; have HR6 := keepf (HR5.out.call hc6); have HB6 := keepf (HB5.out.chg hc6 (fun h => h)); clear hc6; obtain ⟨r0, r1, r2, r3, r4, r5, r6, r7, z0, z1, z2, z3, z4, z5, z6, z7⟩ := HB6.out.cl8)
    refine bodyPost_ret (v := .tuple #[.agg #[.int .i64 1, .int .i64 0, .int .i64 0, .int .i64 (K : Nat), .int .i64 n, .string ⟨#[]⟩, .slice none 0 0, .string ⟨#[]⟩], .int .i64 er0]) (by simp [results, Try.results34, go_sem, r0, r1, r2, r3, r4, r5, r6, r7]) rfl ?_
    have HRF := keepf ((HR6.out.re.set8 hgR hgW hgw (.int .i64 1) (.int .i64 0) (.int .i64 0) (.int .i64 (K : Nat)) (.int .i64 n) (.string ⟨#[]⟩) (.slice none 0 0) (.string ⟨#[]⟩)).back HKB.out)
    by_cases he : er0 = 0
    · have HB3 := keepf (HB2.out.trans (if_neg (fun h9 => h9 he)))
      exact ⟨⟨1, 0, 0, K, n, [], []⟩, L, by rw [HB3.out, he]; rfl, fun _ => by rw [HB3.out]; exact ⟨rfl, rfl⟩, HRF.out⟩
    · have HB3 := keepf (HB2.out.trans (if_pos he))
      exact ⟨⟨1, 0, 0, K, n, [], []⟩, L, by rw [HB3.out]; rfl, fun h9 => absurd (by rw [HB3.out] at h9; exact h9) he, HRF.out⟩
end Go.Proofs.Ytmmehaghcfdjdaa
