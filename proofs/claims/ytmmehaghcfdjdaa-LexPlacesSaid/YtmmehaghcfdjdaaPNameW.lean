/- The reader's names: the walk (written by mkpnamew.py). -/
import Derived.Test.YtmmehaghcfdjdaaPName
namespace Go.Proofs.Ytmmehaghcfdjdaa
open Go.RowKit
set_option linter.unusedVariables false
set_option linter.unusedSimpArgs false

theorem TxR.call {V w X X' : World} {A : Option Addr} {bs : List Nat} {c : Nat} {last : Bool} {R g p k deep : Nat} {out : List Nat} (h : TxR V w A bs c last R g p k deep out X) (hc : Chg NoS X X') : TxR V w A bs c last R g p k deep out X' :=
  ⟨h.1.call hc, h.2.1.chg hc (fun h => h), h.2.2⟩
theorem rgs_mem : ∀ (l : List Nat), ∀ d ∈ l.take (rgs l), isRg d = true
  | [], d, h => by simp at h
  | x :: l, d, h => by
    rw [rgs] at h
    by_cases hx : isRg x = true
    · rw [if_pos hx, List.take_succ_cons] at h
      rcases List.mem_cons.1 h with rfl | h
      · exact hx
      · exact rgs_mem l d h
    · rw [if_neg hx] at h; simp at h
/-- Behind the reading of a name. -/
def nmTo (last : Bool) (p : Nat) (l : List Nat) : Int × List Nat × Nat := if runE last l ≠ 0 then (6, [], 0) else ((nameO (l.take (rgs l))).1, (nameO (l.take (rgs l))).2, p + rgs l)
theorem runE_two (last : Bool) (l : List Nat) : runE last l = 0 ∨ runE last l = 6 := by
  unfold runE
  split
  · exact .inr rfl
  · exact .inl rfl
def NmJ (V w : World) (A : Option Addr) (bs : List Nat) (c : Nat) (last : Bool) (R g k : Nat) (ws : List Nat) (n : Nat) (x : Act) (w' : World) : Prop :=
  x.defers = [] ∧ x.tmps.size = 57 ∧ x.tmps.getD 0 undef = .pointer (some ⟨R, 0, none⟩) ∧ x.tmps.getD 2 undef = .pointer (some ⟨g, 0, none⟩) ∧ ∃ (m out : List Nat), x.tmps.getD 4 undef = .string (sb m) ∧ n = m.length + 1 ∧ out.length + m.length ≤ 100000 ∧
    Hid (TxR V w A bs c last R g 0 k 0 out w' ∧ nmR [] ws = nmR out m ∧ 0 ∉ out ∧ 0 ∉ m ∧ ∀ d ∈ m, d < 256)
theorem slots_57n {x : Act} {v0 v2 v4 : Value} {C : Act → Prop} (h1 : x.defers = []) (h2 : x.tmps.size = 57) (h3 : x.tmps.getD 0 undef = v0) (h4 : x.tmps.getD 2 undef = v2) (h5 : x.tmps.getD 4 undef = v4)
    (k : ∀ f : Nat → Value, C { tmps := #[v0, f 1, v2, f 3, v4, f 5, f 6, f 7, f 8, f 9, f 10, f 11, f 12, f 13, f 14, f 15, f 16, f 17, f 18, f 19, f 20, f 21, f 22, f 23, f 24, f 25, f 26, f 27, f 28, f 29, f 30, f 31, f 32, f 33, f 34, f 35, f 36, f 37, f 38, f 39, f 40, f 41, f 42, f 43, f 44, f 45, f 46, f 47, f 48, f 49, f 50, f 51, f 52, f 53, f 54, f 55, f 56], defers := [] }) : C x := by
  obtain ⟨t, d⟩ := x
  simp only at h1 h2 h3 h4 h5
  subst h1
  have h6 := k (fun i => t.getD i undef)
  rw [← h3, ← h4, ← h5] at h6
  rw [arr_slots t 57 h2]
  exact h6
set_option maxHeartbeats 4000000 in
set_option maxRecDepth 100000 in
theorem pname_any {V w W : World} {A : Option Addr} {bs : List Nat} {c R p : Nat} {last : Bool} (h : RD V w W A bs.length c last R p []) (hS : Src w 1 A bs.length c (lcells bs)) (hl : bs.length ≤ 100000) (hc : bs.length ≤ c) (hp : p ≤ bs.length) (hb : ∀ d ∈ bs, d < 256) (hn0 : 0 < bs.length) :
    Calls Try.prog 33 #[.pointer (some ⟨R, 0, none⟩)] W (PTo V w R 5 (nmTo last p (bs.drop p))) := by
  have HRU := keepf (fun X (hX : RD X w X A bs.length c last R p []) => prun_any hX hS hl hc hp hn0)
  have HWB := keepf (fun X out k y (hX : RD X w X A bs.length c last R k out) (ho : out.length ≤ 1000000) => pwbyte_any hX y ho)
  have HWS := keepf (fun X out k m (hX : RD X w X A bs.length c last R k out) (hm : ∀ d ∈ m, d < 256) (ho : out.length ≤ 1000000) (ho2 : m.length ≤ 1000000) => pwstr_any hX m hm ho ho2)
  have HLE := keepf (fun X out k (hX : RD X w X A bs.length c last R k out) => plen_any hX)
  have HBU := keepf (fun X out k (hX : RD X w X A bs.length c last R k out) (ho : ∀ d ∈ out, d < 256) (hm : out.length ≤ 1000000) => pbuilt_any hX ho hm 5)
  have HCT := keepf (fun m (hm : ∀ d ∈ m, d < 256) (ho : m.length ≤ 1000000) X => cutF_any 35 m hm ho X)
  have HCO := keepf (fun m (hm : ∀ d ∈ m, d < 256) (ho : m.length ≤ 1000000) X => pcode_any m hm ho X)
  have HKB := keepf h.kb
  have HR0 := keepf h.here
  have hRW := h.lt
  have hwW := h.chg.size
  obtain ⟨g, hg⟩ : ∃ g, g = W.heap.size := ⟨_, rfl⟩
  have HG := keepf hg
  have hgR : g ≠ R := by omega
  have hgW : W.heap.size ≤ g := by omega
  have hgw : w.heap.size ≤ g := by omega
  obtain ⟨l, hl0⟩ : ∃ l, l = bs.drop p := ⟨_, rfl⟩
  have hll : l.length ≤ 100000 := by rw [hl0, List.length_drop]; omega
  have hlb : ∀ d ∈ l, d < 256 := fun d hd => hb d (by rw [hl0] at hd; exact List.mem_of_mem_drop hd)
  obtain ⟨ws, hws⟩ : ∃ ws, ws = l.take (rgs l) := ⟨_, rfl⟩
  have hwl : ws.length ≤ 100000 := by rw [hws, List.length_take]; omega
  have HWB2 := keepf (show ∀ d ∈ ws, d < 256 from fun d hd => hlb d (by rw [hws] at hd; exact List.mem_of_mem_take hd))
  have HW0 := keepf (show 0 ∉ ws from fun hd => by rw [hws] at hd; exact absurd (rgs_mem l 0 hd) (by decide))
  obtain ⟨L, hL⟩ : ∃ L, L = p + rgs l := ⟨_, rfl⟩
  have HTO := keepf (show nmTo last p l = if runE last l ≠ 0 then (6, [], 0) else ((nameO ws).1, (nameO ws).2, L) from by unfold nmTo; rw [hws, hL])
  rw [← hl0] at HRU ⊢
  rw [← hws, ← hL] at HRU
  have HTR := keepf (fun (X X' : World) (k k' deep deep' : Nat) (out out' : List Nat) (h : TxR W w A bs c last R g 0 k deep out X) (h' : RD X w X' A bs.length c last R k' out') (hb : ∀ d ∈ out', d < 256) => TxR.step (deep' := deep') h h' hgR hb)
  have HT0 := keepf (show TxR W w A bs c last R g 0 p 0 [] (W.alloc (.cells #[.int .i64 0, .int .i64 0, .string ⟨#[]⟩, .slice none 0 0] 26)) from ⟨HR0.out.alloc _, by rw [HG.out]; exact Blk.new _ _ _, fun d hd => by cases hd⟩)
  clear h hS hb hc hg hwW hRW hl0 hll hlb hws hL hl hp hn0
  rcases runE_two last l with hE | hE
  case inr =>
    rw [hE] at HRU HTO
    clear hE
    obtain ⟨t, ht⟩ : ∃ t, sb ws = t := ⟨_, rfl⟩
    rw [ht] at HRU
    clear ht
    go_enter Try.func33, Try.ntmps33
    go_wp2
    go_step3
    go_wp2_with (go_at_call 43; refine (HRU.out _ HT0.out.1.here).mono ?_; rintro e w3 ⟨rfl, h3⟩; have HT3 := keepf (HTR.out _ _ _ _ _ 0 _ _ HT0.out h3 HT0.out.2.2); clear h3; obtain ⟨r0, r1, r2, r3, z0, z1, z2, z3⟩ := HT3.out.2.1.cl4; rw [HG.out] at r0 r1 r2 r3 z0 z1 z2 z3)
    all_goals (try simp only [Exit.noGoto_ret])
    refine bodyPost_ret (v := .tuple #[.agg #[.int .i64 0, .int .i64 0, .string ⟨#[]⟩, .slice none 0 0], .int .i64 6]) (by simp [results, Try.results33, go_sem, r0, r1, r2, r3]) rfl ?_
    have HTO6 := keepf (HTO.out.trans (if_pos (show (6 : Int) ≠ 0 by decide)))
    refine ⟨by rw [HTO6.out]; rfl, L, fun e => absurd (by rw [HTO6.out] at e; exact e) (show ¬ (6 : Int) = 0 by decide), ?_⟩
    exact (HT3.out.1.re.set4 (by have h9 := HG.out; omega) (Nat.le_refl _) (by have h9 := HG.out; omega) _ _ _ _).back HKB.out
  rw [hE] at HRU HTO
  clear hE
  have HTOK := keepf (show nmTo last p l = ((nmR [] ws).1, (nmR [] ws).2, L) from by rw [HTO.out, if_neg (fun h9 => h9 rfl), nmR_nil])
  go_enter Try.func33, Try.ntmps33
  go_wp2
  refine wp_scope1 (NmJ W w A bs c last R g L ws) rfl ?pass0 ?first
  case first =>
    intro hpass
    have HPass := keepf hpass
    clear hpass
    obtain ⟨t, ht⟩ : ∃ t, sb ws = t := ⟨_, rfl⟩
    have HTS := keepf ht
    rw [ht] at HRU
    clear ht
    · go_wp2_with (go_at_call 43; refine (HRU.out _ HT0.out.1.here).mono ?_; rintro e w3 ⟨rfl, h3⟩; have HT3 := keepf (HTR.out _ _ _ _ _ 0 _ _ HT0.out h3 HT0.out.2.2); clear h3)
      go_step3
      rename_i hK
      refine hK _ _ (HPass.out _ _ _ ⟨rfl, rfl, rfl, by rw [HG.out]; rfl, ws, [], by rw [HTS.out]; rfl, rfl, by simpa using hwl, keepf ⟨HT3.out, rfl, by simp, HW0.out, HWB2.out⟩⟩)
  case pass0 =>
    intro n x w1 hx
    obtain ⟨h1, h2, h3, h4, m, out, h5, rfl, hm, HT⟩ := hx
    refine slots_57n h1 h2 h3 h4 h5 (C := fun y => Code.wp _ _ _ y w1) ?_
    intro f
    clear h1 h2 h3 h4 h5
    have HX := keepf HT.out.2
    have HT1 := keepf HT.out.1
    have HCT1 := keepf (HCT.out m HX.out.2.2.2 (by omega))
    rw [show (35 : UInt8).toNat = 35 from rfl] at HCT1
    obtain ⟨t, ht⟩ : ∃ t, sb m = t := ⟨_, rfl⟩
    rw [ht] at HCT1 ⊢
    clear ht HT HCT
    cases hf : (cutB 35 m).2.2 with
    | false =>
      have hcb := cutB_no hf
      have hnm := cutB_nomem (c := 35) (m := m)
      rw [hcb] at HCT1 hnm
      simp only at HCT1 hnm
      have HTO1 := keepf (show nmR [] ws = if 127 < (out ++ m).length then (17, []) else (0, out ++ m) from by rw [HX.out.1, nmR_end hnm HX.out.2.1 HX.out.2.2.1])
      have HWS1 := keepf (fun X hX => HWS.out X out L m hX HX.out.2.2.2 (by omega) (by omega))
      obtain ⟨t1, ht1⟩ : ∃ t1, sb m = t1 := ⟨_, rfl⟩
      rw [ht1] at HCT1 HWS1
      obtain ⟨N, hN⟩ : ∃ N, (out ++ m).length = N := ⟨_, rfl⟩
      have hN2 : N ≤ 100000 := by rw [← hN, List.length_append]; exact hm
      have HLE1 := keepf (fun X hX => HLE.out X (out ++ m) L hX)
      have HNN := keepf hN
      rw [hN] at HLE1 HTO1
      have HMB := keepf (show ∀ d ∈ out ++ m, d < 256 from fun d hd => by rcases List.mem_append.1 hd with h9 | h9; exact HT1.out.2.2 d h9; exact HX.out.2.2.2 d h9)
      clear hf hcb hnm ht1 hN
      by_cases h127 : 127 < N
      · have HTO2 := keepf (HTO1.out.trans (if_pos h127))
        have d1 : decide ((127 : Int) < N) = true := by simp; omega
        go_wp2_with first
          | (go_at_call 44; refine (HCT1.out _).mono ?_; rintro e w2 ⟨rfl, hc2⟩; have HT2 := keepf (HT1.out.call hc2); clear hc2)
          | (go_at_call 45; refine (HWS1.out _ HT2.out.1.here).mono ?_; rintro e w3 ⟨rfl, h3⟩; have HT3 := keepf (HTR.out _ _ _ _ _ 0 _ _ HT2.out h3 HMB.out); clear h3; obtain ⟨r0, r1, r2, r3, z0, z1, z2, z3⟩ := HT3.out.2.1.cl4)
          | (go_at_call 47; refine (HLE1.out _ HT3.out.1.here).mono ?_; rintro e w4 ⟨rfl, rfl⟩)
        all_goals (try simp only [hops])
        refine bodyPost_ret (v := .tuple #[.agg #[.int .i64 0, .int .i64 0, .string ⟨#[]⟩, .slice none 0 0], .int .i64 17]) (by simp [results, Try.results33, go_sem, r0, r1, r2, r3]) rfl ?_
        refine ⟨by rw [HTOK.out, HTO2.out]; rfl, L, fun e => absurd (by rw [HTOK.out, HTO2.out] at e; exact e) (show ¬ (17 : Int) = 0 by decide), ?_⟩
        exact (HT3.out.1.re.set4 hgR hgW hgw _ _ _ _).back HKB.out
      · have HTO2 := keepf (HTO1.out.trans (if_neg h127))
        have d1 : decide ((127 : Int) < N) = false := by simp; omega
        have HBU1 := keepf (fun X hX => HBU.out X (out ++ m) L hX HMB.out (by rw [HNN.out]; omega))
        obtain ⟨u, hu⟩ : ∃ u, sb (out ++ m) = u := ⟨_, rfl⟩
        have HU := keepf hu
        rw [hu] at HBU1
        clear hu
        go_wp2_with first
          | (go_at_call 44; refine (HCT1.out _).mono ?_; rintro e w2 ⟨rfl, hc2⟩; have HT2 := keepf (HT1.out.call hc2); clear hc2)
          | (go_at_call 45; refine (HWS1.out _ HT2.out.1.here).mono ?_; rintro e w3 ⟨rfl, h3⟩; have HT3 := keepf (HTR.out _ _ _ _ _ 0 _ _ HT2.out h3 HMB.out); clear h3)
          | (go_at_call 47; refine (HLE1.out _ HT3.out.1.here).mono ?_; rintro e w4 ⟨rfl, rfl⟩)
          | (go_at_call 38; refine (HBU1.out _ HT3.out.1.here).mono ?_; rintro e w5 ⟨rfl, h5⟩; obtain ⟨r0, r1, r2, r3, z0, z1, z2, z3⟩ := (h5.kb _ _ _ hgR (by decide) HT3.out.2.1).cl4; have HRE := keepf (h5.back HT3.out.1.kb); clear h5)
        all_goals (try simp only [hops])
        refine bodyPost_ret (v := .tuple #[.agg #[.int .i64 5, .int .i64 0, .string u, .slice none 0 0], .int .i64 0]) (by simp [results, Try.results33, go_sem, r0, r1, r2, r3]) rfl ?_
        refine ⟨by rw [HTOK.out, HTO2.out, ← HU.out]; rfl, L, fun e => by rw [HTOK.out], ?_⟩
        exact (HRE.out.set4 hgR hgW hgw _ _ _ _).back HKB.out
    | true =>
      have hcb := cutB_yes hf
      have hnm := cutB_nomem (c := 35) (m := m)
      rw [hf] at HCT1
      obtain ⟨a, ha⟩ : ∃ a, (cutB 35 m).1 = a := ⟨_, rfl⟩
      obtain ⟨d, hd⟩ : ∃ d, (cutB 35 m).2.1 = d := ⟨_, rfl⟩
      rw [ha, hd] at HCT1 hcb
      rw [ha] at hnm
      have hml : m.length = a.length + (d.length + 1) := by rw [hcb, List.length_append, List.length_cons]
      have hab : ∀ y ∈ a, y < 256 := fun y hy => HX.out.2.2.2 y (by rw [hcb]; exact List.mem_append.2 (.inl hy))
      have hdb : ∀ y ∈ d, y < 256 := fun y hy => HX.out.2.2.2 y (by rw [hcb]; exact List.mem_append.2 (.inr (List.mem_cons_of_mem _ hy)))
      have ha0 : 0 ∉ a := fun hy => HX.out.2.2.1 (by rw [hcb]; exact List.mem_append.2 (.inl hy))
      have hd0 : 0 ∉ d := fun hy => HX.out.2.2.1 (by rw [hcb]; exact List.mem_append.2 (.inr (List.mem_cons_of_mem _ hy)))
      have HWS1 := keepf (fun X hX => HWS.out X out L a hX hab (by omega) (by omega))
      have HCO1 := keepf (fun X => HCO.out d hdb (by omega) X)
      have HOB := keepf (show ∀ y ∈ out ++ a, y < 256 from fun y hy => by rcases List.mem_append.1 hy with h9 | h9; exact HT1.out.2.2 y h9; exact hab y h9)
      have HDB := keepf hdb
      have HML := keepf hml
      have hol : (out ++ a).length = out.length + a.length := List.length_append
      have HWBo := keepf (fun X y hX => HWB.out X (out ++ a) L y hX (by omega))
      have HOL := keepf hol
      obtain ⟨u, hu⟩ : ∃ u, sb a = u := ⟨_, rfl⟩
      have hsd := sb_size d
      have hdrop := cutB_drop (l := d) 2 d.length rfl
      obtain ⟨v, hv⟩ : ∃ v, sb d = v := ⟨_, rfl⟩
      rw [hu, hv] at HCT1
      rw [hu] at HWS1
      rw [hv] at HCO1 hsd hdrop
      have HC0 := keepf hcb
      have hm3 : out.length + a.length + d.length + 1 ≤ 100000 := by omega
      cases hcB : codeB d with
      | false =>
        have HTO2 := keepf (show nmR [] ws = (17, []) from by rw [HX.out.1, HC0.out, nmR_bad hnm hcB])
        rw [hcB] at HCO1
        obtain ⟨y, hy⟩ : ∃ y, codeV d = y := ⟨_, rfl⟩
        rw [hy] at HCO1
        clear hcb hnm ha hd hml hab hdb ha0 hd0 hu hv hf hol hsd hdrop hcB hy
        go_wp2_with first
          | (go_at_call 44; refine (HCT1.out _).mono ?_; rintro e w2 ⟨rfl, hc2⟩; have HT2 := keepf (HT1.out.call hc2); clear hc2)
          | (go_at_call 45; refine (HWS1.out _ HT2.out.1.here).mono ?_; rintro e w3 ⟨rfl, h3⟩; have HT3 := keepf (HTR.out _ _ _ _ _ 0 _ _ HT2.out h3 HOB.out); clear h3; obtain ⟨r0, r1, r2, r3, z0, z1, z2, z3⟩ := HT3.out.2.1.cl4)
          | (go_at_call 46; refine (HCO1.out _).mono ?_; rintro e w4 ⟨rfl, rfl⟩)
        all_goals (try simp only [hops])
        refine bodyPost_ret (v := .tuple #[.agg #[.int .i64 0, .int .i64 0, .string ⟨#[]⟩, .slice none 0 0], .int .i64 17]) (by simp [results, Try.results33, go_sem, r0, r1, r2, r3]) rfl ?_
        refine ⟨by rw [HTOK.out, HTO2.out]; rfl, L, fun e => absurd (by rw [HTOK.out, HTO2.out] at e; exact e) (show ¬ (17 : Int) = 0 by decide), ?_⟩
        exact (HT3.out.1.re.set4 hgR hgW hgw _ _ _ _).back HKB.out
      | true =>
        obtain ⟨k2, k0, kE⟩ := nmR_good (out := out) hnm hcB
        have HTO2 := keepf (show nmR [] ws = nmR (out ++ a ++ [codeV d]) (d.drop 2) from by rw [HX.out.1, HC0.out, kE])
        rw [hcB] at HCO1
        have hy256 := codeV_lt d
        obtain ⟨y, hy⟩ : ∃ y, codeV d = y := ⟨_, rfl⟩
        rw [hy] at HCO1 hy256 k0 HTO2
        have HN0 := keepf (show 0 ∉ out ++ a ++ [y] from fun h9 => by
          rcases List.mem_append.1 h9 with h9 | h9
          · rcases List.mem_append.1 h9 with h9 | h9
            · exact HX.out.2.1 h9
            · exact ha0 h9
          · exact k0 (List.mem_singleton.1 h9).symm)
        have HD0 := keepf (show 0 ∉ d.drop 2 from fun h9 => hd0 (List.mem_of_mem_drop h9))
        have HDB2 := keepf (show ∀ z ∈ d.drop 2, z < 256 from fun z hz => HDB.out z (List.mem_of_mem_drop hz))
        obtain ⟨b, hb2⟩ : ∃ b, sb (d.drop 2) = b := ⟨_, rfl⟩
        rw [hb2] at hdrop
        have HB2 := keepf hb2
        obtain ⟨D, hD⟩ : ∃ D, d.length = D := ⟨_, rfl⟩
        have HDL := keepf hD
        have HD2 := keepf (show (d.drop 2).length = D - 2 from by rw [List.length_drop, hD])
        have HMM := keepf (show m.length = a.length + (D + 1) from by rw [hml, hD])
        rw [hD] at hsd hdrop k2 hm3
        have i2 : (2 : Int) ≤ D := by omega
        clear hcb hnm ha hd hml hab hdb ha0 hd0 hu hv hf hol hcB hy k0 kE hb2 hD
        go_wp2_with first
          | (go_at_call 44; refine (HCT1.out _).mono ?_; rintro e w2 ⟨rfl, hc2⟩; have HT2 := keepf (HT1.out.call hc2); clear hc2)
          | (go_at_call 45; refine (HWS1.out _ HT2.out.1.here).mono ?_; rintro e w3 ⟨rfl, h3⟩; have HT3 := keepf (HTR.out _ _ _ _ _ 0 _ _ HT2.out h3 HOB.out); clear h3)
          | (go_at_call 46; refine (HCO1.out _).mono ?_; rintro e w4 ⟨rfl, rfl⟩)
          | (go_at_call 39; refine (HWBo.out _ y HT3.out.1.here).mono ?_; rintro e w5 ⟨rfl, h5⟩; have HT5 := keepf (HTR.out _ _ _ _ _ 0 _ _ HT3.out h5 (mem_snoc HOB.out hy256)); clear h5)
        go_step3
        exact ⟨(d.drop 2).length + 1, by rw [HMM.out, HD2.out]; omega, rfl, rfl, rfl, rfl, rfl, d.drop 2, out ++ a ++ [y], by rw [HB2.out]; rfl, rfl, by rw [HD2.out, List.length_append, HOL.out]; simp only [List.length_cons, List.length_nil]; omega, keepf ⟨HT5.out, HTO2.out, HN0.out, HD0.out, HDB2.out⟩⟩
end Go.Proofs.Ytmmehaghcfdjdaa
