/- Merged by program: ZPk. -/
import Derived.Test.YtmmilchmnimjoaaGreatN33
import Derived.Test.YtmmilchmnimjoaaGreatN35
import Derived.Test.YtmmilchmnimjoaaGreatN36
import Derived.BigRegion
import Derived.Deep.RegionWith
import Derived.Deep.Cut
/- Pack of zlib: a deferred call sets the bytes to nothing beside an error. -/
namespace Go.Proofs.YtmmilchmnimjoaaGreat
open Go.RowKit
set_option linter.unusedVariables false
set_option linter.unusedSimpArgs false
theorem zbytes_own (x : Nat) (w : World) (hx : x < 4294967296) : Calls Tryz.prog 26 #[.int .u32 x] w fun e w' => ∃ A, e = .returned (.slice A 4 4) ∧ w'.ownsRow 0 5 1 (.slice A 4 4) 4 (ucells (b4 x)) ∧ Chg NoS w w' := by
  refine (a3_bytes_any x w hx).mono ?_
  rintro e w' ⟨rfl, rfl⟩
  exact ⟨_, rfl, own_of w 5 (ucells (b4 x)).toArray 4 (by simp [ucells, b4]) (by omega), (Chg.refl NoS w).alloc _⟩
theorem zconcat3 (B1 B2 B3 : List Nat) (A1 A2 A3 : Option Addr) (n1 n2 n3 c1 c2 c3 : Nat) (t : TypeId) (W : World) (e1 : B1.length = n1) (e2 : B2.length = n2) (e3 : B3.length = n3) (hl : n1 + n2 + n3 ≤ 100000) (h1 : Src W 1 A1 n1 c1 (ucells B1)) (h2 : Src W 1 A2 n2 c2 (ucells B2)) (h3 : Src W 1 A3 n3 c3 (ucells B3)) :
    Calls Tryz.prog 25 #[.slice (some ⟨W.heap.size, 0, none⟩) 3 3] (W.alloc (.cells #[.slice A1 n1 c1, .slice A2 n2 c2, .slice A3 n3 c3] t)) fun e w' => ∃ A c, e = .returned (.slice A (n1 + n2 + n3) c) ∧ w'.ownsRow 0 5 1 (.slice A (n1 + n2 + n3) c) (n1 + n2 + n3) (ucells (B1 ++ B2 ++ B3)) ∧ Chg NoS W w' ∧ ∀ a, A = some a → W.heap.size ≤ a.block := by
  subst e1 e2 e3
  have hc := (Chg.refl NoS W).alloc (.cells #[.slice A1 B1.length c1, .slice A2 B2.length c2, .slice A3 B3.length c3] t)
  have h := concatB_any [(A1, c1, B1), (A2, c2, B2), (A3, c3, B3)] (some ⟨W.heap.size, 0, none⟩) 3 (W.alloc (.cells #[.slice A1 B1.length c1, .slice A2 B2.length c2, .slice A3 B3.length c3] t)) (by simp) (by simp) (by simp [allB]; omega) (src_own (own_of W t #[.slice A1 B1.length c1, .slice A2 B2.length c2, .slice A3 B3.length c3] 3 rfl (by omega))) (fun x hx => by
    simp only [List.mem_cons, List.not_mem_nil, or_false] at hx
    rcases hx with rfl | rfl | rfl
    · exact Src.below (w0 := W) h1 hc
    · exact Src.below (w0 := W) h2 hc
    · exact Src.below (w0 := W) h3 hc)
  refine h.mono ?_
  rintro e w' ⟨A, c, rfl, ho, hc2, hn⟩
  have ea : allB [(A1, c1, B1), (A2, c2, B2), (A3, c3, B3)] = B1 ++ B2 ++ B3 := by simp [allB]
  have el : (B1 ++ B2 ++ B3).length = B1.length + B2.length + B3.length := by simp [Nat.add_assoc]
  rw [ea] at ho ⊢
  unfold OwnBy at ho
  rw [el] at ho ⊢
  refine ⟨A, c, rfl, ho, hc.trans hc2 (fun _ _ e => e), fun a ha => ?_⟩
  have := hn a ha
  have := hc.size
  omega
set_option maxHeartbeats 4000000 in
set_option maxRecDepth 100000 in
theorem zpack_ok (bs : List Nat) (A : Option Addr) (c k : Nat) (w : World) (hS : Src w 1 A bs.length c (ucells bs)) (hc : bs.length ≤ c) (hb : ∀ x ∈ bs, x < 256) (hl : bs.length ≤ 1500) (hk : k ≤ 3) :
    Calls Tryz.prog 14 #[.slice A bs.length c, .int .i64 (k : Nat)] w (ZpTo w k bs) := by
  have hmf : ∀ (fn : Fn) (first cap : Array Value) (w : World), (Instr.makeFunc fn first cap).run Tryz.prog w = .ok (.func fn first cap) w := fun _ _ _ _ => rfl
  have HF0 := keepf (PF.new w)
  have HHD := keepf (fun (W : World) => zhead_own W)
  have HD := keepf (fun (W : World) (h : Chg NoS w W) => deflate_ok bs A c k W (Src.below (w0 := w) hS h) hc hb (by omega) hk)
  have HSU := keepf (fun (W : World) (h : Chg NoS w W) => asum_src bs A c W (Src.below (w0 := w) hS h) hc hb (by omega))
  have HBY := keepf (fun (W : World) => zbytes_own (sumA bs) W (sum_lt bs))
  have HLE := keepf hl
  obtain ⟨x, hx⟩ : ∃ x, x = sumA bs := ⟨_, rfl⟩
  rw [← hx] at HSU HBY
  have HX := keepf hx
  obtain ⟨n, hn⟩ : ∃ n, n = bs.length := ⟨_, rfl⟩
  rw [← hn] at HD HSU hc hl ⊢
  clear hS hb hx hn
  go_enter_defers Tryz.func14, Tryz.ntmps14
  go_upto_region 3 with (go_at_call 12; refine (HHD.out _).mono ?_; rintro e wh ⟨Ah, rfl, hoh, hch⟩; have hf := HF0.out.call hch; have q4 := hf.c4; have z4 := hf.b4.frozen 0; have HFH := keepf hf; have HOH := keepf hoh; clear hf hoh hch)
  obtain ⟨W1, hW1⟩ : ∃ W1, W1 = wh.setCell ⟨w.heap.size, 0, none⟩ (.slice Ah 2 2) := ⟨_, rfl⟩
  rw [← hW1]
  have hf1 := HFH.out.set4 (.slice Ah 2 2)
  have ho1 := own_set HOH.out HFH.out.b4 (by decide) (.slice Ah 2 2)
  rw [← hW1] at hf1 ho1
  have HF1 := keepf hf1
  have HO1 := keepf ho1
  have HD1 := keepf (HD.out W1 hf1.chg)
  clear hW1 hf1 ho1 q4 z4
  go_upto_region 5 with (go_at_call 24; refine HD1.out.mono ?_; rintro e w2 ⟨L, hL, A1, c1, rfl, ho2, hc2⟩; have hf := HF1.out.call hc2; have q5 := hf.c5; have z5 := hf.b5.frozen 0; have HFD := keepf hf; have HL := keepf hL; have HOP := keepf ho2; have HOG := keepf (own_chg (S := NoS) HO1.out hc2 (fun _ _ e => e)); clear hf hL ho2 hc2)
  have hpl := packed_len HL.out
  have hbl : (bytesOf false L).length ≤ 90000 := by rw [bytesOf_length]; unfold nby; have := HLE.out; omega
  obtain ⟨m, hm⟩ : ∃ m, m = (bytesOf false L).length := ⟨_, rfl⟩
  rw [← hm] at HOP hbl ⊢
  have HM := keepf hm
  obtain ⟨W2, hW2⟩ : ∃ W2, W2 = w2.setCell ⟨w.heap.size + 1, 0, none⟩ (.int .i64 0) := ⟨_, rfl⟩
  rw [← hW2]
  have hf2 := HFD.out.set5 (.int .i64 0)
  have ho2 := own_set HOP.out HFD.out.b5 (by decide) (.int .i64 0)
  have hg2 := own_set HOG.out HFD.out.b5 (by decide) (.int .i64 0)
  rw [← hW2] at hf2 ho2 hg2
  have HF2 := keepf hf2
  have HO2 := keepf ho2
  have HG2 := keepf hg2
  have q42 := hf2.c4
  have q52 := hf2.c5
  clear hf2 ho2 hg2 hW2 hm hpl q5 z5
  go_upto_region 6 with fail
  first
    | (go_region_with (first
          | (go_at_call 27; refine (HSU.out _ (HF2.out.chg.trans (Chg.refl NoS W2).drew (fun _ _ e => e))).mono ?_; rintro e ws ⟨rfl, hcs⟩; have HCS := keepf ((Chg.refl NoS W2).drew.trans hcs (fun _ _ e => e)); have q4s := (HF2.out.call HCS.out).c4; clear hcs)
          | (go_at_call 26; refine (HBY.out _).mono ?_; rintro e wb ⟨Ab, rfl, hob, hcb⟩; have HOB := keepf hob; have HCB := keepf (HCS.out.trans hcb (fun _ _ e => e)); have q4b := (HF2.out.call HCB.out).c4; clear hob hcb)
          | (go_at_call 25; refine (zconcat3 [120, 156] (bytesOf false L) (b4 x) Ah A1 Ab 2 m 4 2 c1 4 _ wb rfl HM.out.symm rfl (by omega) (src_own (own_chg (S := NoS) HG2.out HCB.out (fun _ _ e => e))) (src_own (own_chg (S := NoS) HO2.out HCB.out (fun _ _ e => e))) (src_own HOB.out)).mono ?_; rintro e wc ⟨A9, c9, rfl, ho9, hc9, hn9⟩; have HO9 := keepf ho9; have hfc := HF2.out.call (HCB.out.trans hc9 (fun _ _ e => e)); have q4c := hfc.c4; have z4c := hfc.b4.frozen 0; have HFC := keepf hfc; have HN9 := keepf hn9; have HSB := keepf (HF2.out.chg.trans HCB.out (fun _ _ e => e)).size; clear ho9 hc9 hfc hn9)))
    | fail
  all_goals
    go_wp2_with fail
    refine zpleave_ok (HFC.out.set4 (.slice A9 (2 + m + 4) c9)) ?_
    refine ⟨L, A9, c9, 2 + m + 4, by rw [zpk_len, ← HM.out]; omega, rfl, HL.out, ?_, (HFC.out.set4 (.slice A9 (2 + m + 4) c9)).chg, fun a ha => Nat.le_trans HSB.out (HN9.out a ha)⟩
    have e : zpk L bs = [120, 156] ++ bytesOf false L ++ b4 x := by rw [HX.out]; simp [zpk]
    rw [e]
    exact own_set HO9.out HFC.out.b4 (by decide) (.slice A9 (2 + m + 4) c9)
set_option maxHeartbeats 4000000 in
set_option maxRecDepth 100000 in
theorem zpack_no (bs : List Nat) (A : Option Addr) (c : Nat) (k : Int) (w : World) (hS : Src w 1 A bs.length c (ucells bs)) (hc : bs.length ≤ c) (hb : ∀ x ∈ bs, x < 256) (hl : bs.length ≤ 1500) (hk : k < 0 ∨ 3 < k) (h0 : -9223372036854775808 ≤ k) (h1 : k ≤ 9223372036854775807) :
    Calls Tryz.prog 14 #[.slice A bs.length c, .int .i64 k] w fun e w' => ∃ A2 c2, e = .returned (.tuple #[.slice A2 0 c2, .int .i64 2]) ∧ Chg NoS w w' := by
  have hmf : ∀ (fn : Fn) (first cap : Array Value) (w : World), (Instr.makeFunc fn first cap).run Tryz.prog w = .ok (.func fn first cap) w := fun _ _ _ _ => rfl
  have HF0 := keepf (PF.new w)
  have HHD := keepf (fun (W : World) => zhead_own W)
  have HD := keepf (fun (W : World) => deflate_no bs A c k W hk h0 h1)
  obtain ⟨n, hn⟩ : ∃ n, n = bs.length := ⟨_, rfl⟩
  rw [← hn] at HD ⊢
  clear hS hc hl hb hn hk h0 h1
  go_enter_defers Tryz.func14, Tryz.ntmps14
  go_upto_region 3 with (go_at_call 12; refine (HHD.out _).mono ?_; rintro e wh ⟨Ah, rfl, hoh, hch⟩; have hf := HF0.out.call hch; have q4 := hf.c4; have z4 := hf.b4.frozen 0; have HFH := keepf hf; clear hf hoh hch)
  obtain ⟨W1, hW1⟩ : ∃ W1, W1 = wh.setCell ⟨w.heap.size, 0, none⟩ (.slice Ah 2 2) := ⟨_, rfl⟩
  rw [← hW1]
  have hf1 := HFH.out.set4 (.slice Ah 2 2)
  rw [← hW1] at hf1
  have HF1 := keepf hf1
  have q5 := hf1.c5
  have z5 := hf1.b5.frozen 0
  clear hW1 hf1 q4 z4
  go_upto_region 5 with (go_at_call 24; refine (HD.out _).mono ?_; rintro e w2 ⟨rfl, rfl⟩)
  have hf2 := HF1.out.set5 (.int .i64 2)
  obtain ⟨W2, hW2⟩ : ∃ W2, W2 = W1.setCell ⟨w.heap.size + 1, 0, none⟩ (.int .i64 2) := ⟨_, rfl⟩
  rw [← hW2] at hf2 ⊢
  have q52 := hf2.c5
  have HF2 := keepf hf2
  clear hW2 hf2 q5 z5
  go_wp2
  refine zpleave_no (by decide) HF2.out (fun W' h => ?_)
  exact ⟨none, 0, rfl, h.chg⟩
end Go.Proofs.YtmmilchmnimjoaaGreat
