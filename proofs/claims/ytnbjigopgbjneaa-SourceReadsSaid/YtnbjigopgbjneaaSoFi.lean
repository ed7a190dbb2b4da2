/- blocks.fill: bytes are put in, block by block. -/
import Derived.Test.YtnbjigopgbjneaaSoOf
import Derived.LoopTactic
namespace Go.Proofs.Ytnbjigopgbjneaa
open Go.RowKit
set_option linter.unusedVariables false

/-- copy, of as many as the shorter of the two has, into a block that is known whole. -/
theorem copy_min {P : Program} {ops : Array Oper} {rest : List Oper} {o : Oper} {a : Act} {w : World} {Q : Exit → Act → World → Prop} (hgd : o.guard = none) (d s : Operand) (dT sT : TypeId) (ho : o.op = .call { callee := .builtin .copy, args := #[d, s], argTypes := #[dT, sT] }) (elem : TypeId) (hu : P.underlying dT = some (.slice elem)) (hsz : (P.info? elem).map (·.size) = some 1)
    (g off dLen dCap : Nat) (hd : a.eval d = .slice (some ⟨g, off, none⟩) dLen dCap) (A : Option Addr) (sLen sCap : Nat) (hs : a.eval s = .slice A sLen sCap) (t : TypeId) (cur : Array Value) (hg : Blk w g t cur)
    (xs : List Value) (hS : Src w 1 A sLen sCap xs) (n : Nat) (hn : n = min sLen dLen) (hfit : off + n ≤ cur.size) (h1 : ∀ v ∈ xs, v.oneCell' = true)
    (h : ∀ w', Blk w' g t (splice cur.toList off (xs.take n)).toArray → Chg (fun i => i = g) w w' → wpList P ops Q rest (a.put o.dst (.int .i64 (n : Nat))) w') : wpList P ops Q (o :: rest) a w := by
  have hl := hS.1
  have hlen : (xs.take n).length = n := by rw [List.length_take]; omega
  rcases A with _ | ad
  · obtain ⟨rfl, rfl⟩ := hS.2.1 rfl
    have hn0 : n = 0 := by omega
    subst hn0
    refine wpList_copy_nothing hgd d s dT sT ho elem hu hsz _ _ _ _ _ _ hd hs (by show min 0 dLen = 0; omega) ?_
    have := h w (by simpa [splice] using hg) (Chg.refl _ _)
    simpa [goInt] using this
  · refine wpList_copy_own hgd d s dT sT ho elem hu hsz g off dLen dCap ad sLen sCap hd hs cur t hg (xs.take n) (by rw [hlen]; exact hn) (fun j v hv => hS.2.2 ad rfl j v (by
      rw [List.getElem?_take] at hv
      split at hv
      · exact hv
      · cases hv)) (by rw [hlen]; exact hfit) (fun v hv => h1 v (List.mem_of_mem_take hv)) ?_
    have := h _ (blk_setRow hg _) (chg_setRow w g _)
    rw [hlen]
    unfold splice at this
    rw [hlen] at this
    exact this

theorem sizeB8 (w : World) : (sizeOf (Try.prog.elem 85)).run Try.prog w = .ok 1 w := by go_simp

theorem arr8 : Try.prog.underlying 85 = some (.array (Try.prog.arrayLen 85) (Try.prog.elem 85)) := by kernel_rfl

theorem arrLen8 : Try.prog.arrayLen 85 = 1024 := by kernel_rfl

theorem blk_from (d r : Nat) (h : r < 1024) (w : World) : (Instr.sliceAt 85 (.pointer (some ⟨d, 0, none⟩)) (some (.int .i64 (r : Nat))) none none).run Try.prog w = .ok (.slice (some ⟨d, r, none⟩) (1024 - r) (1024 - r)) w := by
  rw [run_sliceAt_array_l w _ ⟨d, 0, none⟩ arr8 .i64 (r : Nat) (by omega) (by rw [arrLen8]; omega), sizeB8, arrLen8]
  simp only [Result.andThen, slicedAt, Int.toNat_natCast]
  rw [if_neg (by omega)]
  by_cases h0 : r = 0
  · subst h0; simp [Addr.add]
  · simp [Addr.add, h0]

theorem size_u8S : (Try.prog.info? 5).map (·.size) = some 1 := by kernel_rfl

/-- Nothing but the map and blocks that it had has changed. -/
def FpS (b : Nat) (a : Nat → Option Nat) : Nat → Prop := fun i => i = b ∨ ∃ k, a k = some i

theorem fp_ext {w : World} {b : Nat} {a a' : Nat → Option Nat} (h : Ext w a a') {i : Nat} (hi : i < w.heap.size) (hf : FpS b a' i) : FpS b a i := by
  rcases hf with h1 | ⟨k, h1⟩
  · exact .inl h1
  · rcases h.2 k i h1 with h2 | h2
    · exact .inr ⟨k, h2⟩
    · omega

/-- The bytes are there. -/
def FillTo (w : World) (b m : Nat) (a : Nat → Option Nat) (c : Nat → Nat) (p : Nat) (bs : List Nat) (e : Ending) (w' : World) : Prop :=
  ∃ a' m', e = .returned (.tuple #[]) ∧ MapP w' b m' a' ∧ m' ≤ m + bs.length ∧ BlAt w' a' (putB c p bs) ∧ Ext w a a' ∧ (∀ q, p ≤ q → q < p + bs.length → ∃ d, a' (q / 1024) = some d) ∧ Chg (FpS b a) w w'

/-- Behind j bytes. -/
structure FillI (w : World) (b m : Nat) (a : Nat → Option Nat) (c : Nat → Nat) (p : Nat) (bs : List Nat) (A : Option Addr) (j : Nat) (A2 : Option Addr) (l2 c2 : Nat) (a2 : Nat → Option Nat) (m2 : Nat) (wr : World) : Prop where
  map : MapP wr b m2 a2
  mle : m2 ≤ m + j
  bl : BlAt wr a2 (putB c p (bs.take j))
  ext : Ext w a a2
  cov : ∀ q, p ≤ q → q < p + j → ∃ d, a2 (q / 1024) = some d
  chg : Chg (FpS b a) w wr
  jle : j ≤ bs.length
  leq : l2 = bs.length - j
  cle : l2 ≤ c2
  src : Src wr 1 A2 l2 c2 (lcells (bs.drop j))
  at_ : ∀ ad, A2 = some ad → ∃ ad0, A = some ad0 ∧ ad.block = ad0.block

/-- The source lies apart. -/
def Apart (b : Nat) (a : Nat → Option Nat) (A : Option Addr) : Prop := ∀ ad, A = some ad → ¬ FpS b a ad.block

theorem FillI.src_lt {w : World} {b m : Nat} {a : Nat → Option Nat} {c : Nat → Nat} {p : Nat} {bs : List Nat} {A : Option Addr} {j : Nat} {A2 : Option Addr} {l2 c2 : Nat} {a2 : Nat → Option Nat} {m2 : Nat} {wr : World}
    (h : FillI w b m a c p bs A j A2 l2 c2 a2 m2 wr) (hA : Apart b a A) (hw : ∀ ad, A = some ad → 0 < bs.length → ad.block < w.heap.size) {ad : Addr} (he : A2 = some ad) (hl : 0 < l2) : ¬ FpS b a2 ad.block := by
  obtain ⟨ad0, h0, h1⟩ := h.at_ ad he
  rw [h1]
  intro hf
  have := h.leq
  exact hA ad0 h0 (fp_ext h.ext (hw ad0 h0 (by omega)) hf)

/-- One round. -/
theorem FillI.next {w : World} {b m : Nat} {a : Nat → Option Nat} {c : Nat → Nat} {p : Nat} {bs : List Nat} {A : Option Addr} {j : Nat} {A2 : Option Addr} {l2 c2 : Nat} {a2 : Nat → Option Nat} {m2 : Nat} {wr w3 w4 : World} {a3 : Nat → Option Nat} {m3 d n r q : Nat}
    (h : FillI w b m a c p bs A j A2 l2 c2 a2 m2 wr) (hA : Apart b a A) (hw : ∀ ad, A = some ad → 0 < bs.length → ad.block < w.heap.size)
    (hM3 : MapP w3 b m3 a3) (hm3 : m3 ≤ m2 + 1) (hB3 : BlAt w3 a3 (putB c p (bs.take j))) (hd : a3 q = some d) (hx3 : Ext wr a2 a3) (hc3 : Chg (fun i => i = b) wr w3)
    (hq : p + j = q * 1024 + r) (hr : r < 1024) (hn : n = min l2 (1024 - r)) (hn0 : 0 < n)
    (hb4 : Blk w4 d 85 (splice (blkCs (putB c p (bs.take j)) q).toList r ((lcells (bs.drop j)).take n)).toArray) (hc4 : Chg (fun i => i = d) w3 w4) :
    FillI w b m a c p bs A (j + n) (cutL A2 n c2) (l2 - n) (c2 - n) a3 m3 w4 := by
  have hj := h.jle
  have hl := h.leq
  have hcc := h.cle
  have hs := h.chg.size
  have hs3 := hc3.size
  have hxx : Ext w a a3 := h.ext.trans hx3 hs
  have hbd : b ≠ d := fun e => by
    subst e
    exact hM3.ne (hB3.lie q b hd) rfl
  have htk : (lcells (bs.drop j)).take n = lcells ((bs.drop j).take n) := by simp [lcells]
  have hlen : ((bs.drop j).take n).length = n := by simp; omega
  have hput : putB (putB c p (bs.take j)) (q * 1024 + r) ((bs.drop j).take n) = putB c p (bs.take (j + n)) := by
    have e1 : q * 1024 + r = p + (bs.take j).length := by rw [List.length_take]; omega
    rw [e1, putB_app, List.take_add]
  have hc34 : Chg (FpS b a) w w4 := by
    refine (h.chg.trans hc3 (fun i _ e => .inl e)).trans hc4 (fun i hi e => ?_)
    subst e
    exact fp_ext hxx hi (.inr ⟨q, hd⟩)
  refine ⟨hM3.chg hc4 hbd, by have := h.mle; omega, ?_, hxx, fun x h1 h2 => ?_, hc34, by omega, by omega, by omega, ?_, fun ad e => ?_⟩
  · rw [← hput]
    rw [htk] at hb4
    exact hB3.put hd (by rw [hlen]; omega) hb4 hc4
  · by_cases h3 : x < p + j
    · obtain ⟨d2, hd2⟩ := h.cov x h1 h3
      exact ⟨d2, hx3.1 _ _ hd2⟩
    · exact ⟨d, by rw [show x / 1024 = q from by omega]; exact hd⟩
  · have hsrc := src_cutL (lo := n) (m := l2 - n) h.src h.cle (by omega)
    rw [List.take_of_length_le (by simp [lcells]; omega)] at hsrc
    have e2 : (lcells (bs.drop j)).drop n = lcells (bs.drop (j + n)) := by simp [lcells, List.drop_drop]
    rw [e2] at hsrc
    have hne : ∀ ad, cutL A2 n c2 = some ad → 0 < l2 - n → ¬ FpS b a2 ad.block := fun ad e h0 => by
      obtain ⟨b0, e3, e4⟩ := cutL_block e
      rw [← e4]
      exact h.src_lt hA hw e3 (by omega)
    have hs4 := hsrc.chg hc3 (fun ad e h0 e5 => hne ad e h0 (.inl e5)) (by simp [lcells]; omega)
    refine hs4.chg hc4 (fun ad e h0 e5 => ?_) (by simp [lcells]; omega)
    have hlt : ad.block < wr.heap.size := by
      have := hsrc.2.2 ad e 0
      have h0b : 0 < l2 - n := h0
      rcases hx : (lcells (bs.drop (j + n)))[0]? with _ | u
      · rw [List.getElem?_eq_none_iff] at hx
        simp [lcells] at hx
        omega
      · have h6 := this u hx
        have := cell_lt h6
        have h8 : (ad.add 0).block = ad.block := by unfold Addr.add; split <;> rfl
        omega
    rcases hx3.2 q d hd with h6 | h6
    · exact hne ad e h0 (.inr ⟨q, by rw [e5]; exact h6⟩)
    · omega
  · obtain ⟨b0, e3, e4⟩ := cutL_block e
    obtain ⟨ad0, h0, h1⟩ := h.at_ b0 e3
    exact ⟨ad0, h0, by omega⟩

def slLen : Value → Nat
  | .slice _ n _ => n
  | _ => 0

set_option maxHeartbeats 1000000 in
theorem fill_any (b m : Nat) (a : Nat → Option Nat) (c : Nat → Nat) (p : Nat) (A : Option Addr) (len cap : Nat) (bs : List Nat) (w : World) (hM : MapP w b m a) (hB : BlAt w a c) (hS : Src w 1 A len cap (lcells bs)) (hl : bs.length = len) (hcap : len ≤ cap) (hmax : len ≤ 900000000)
    (hp : p + len ≤ 9000000000) (hm : m + len ≤ 900000000) (hA : Apart b a A) :
    Calls Try.prog 26 #[.map (some b), .int .i64 (p : Nat), .slice A len cap] w (FillTo w b m a c p bs) := by
  have hw : ∀ ad, A = some ad → 0 < bs.length → ad.block < w.heap.size := fun ad e h0 => by
    have := hS.2.2 ad e 0
    rcases hx : (lcells bs)[0]? with _ | u
    · rw [List.getElem?_eq_none_iff, lcells_len] at hx
      omega
    · have h6 := this u hx
      have := cell_lt h6
      have h8 : (ad.add 0).block = ad.block := by unfold Addr.add; split <;> rfl
      omega
  have HW := keepf hw
  have HA := keepf hA
  have HI0 := keepf (show FillI w b m a c p bs A 0 A len cap a m w from ⟨hM, by omega, by rw [List.take_zero, putB_nil]; exact hB, Ext.refl _ _, fun q h1 h2 => by omega, Chg.refl _ _, by omega, by omega, hcap, by rw [List.drop_zero]; exact hS, fun ad e => ⟨ad, e, rfl⟩⟩)
  clear hM hB hS hA hw
  go_enter Try.func26, Try.ntmps26
  go_wp2_with fail
  go_loopw [1, 2] (fun v1 v2 wr => ∃ (j : Nat) (A2 : Option Addr) (l2 c2 : Nat) (a2 : Nat → Option Nat) (m2 : Nat), v1 = .int .i64 ((p + j : Nat) : Int) ∧ v2 = .slice A2 l2 c2 ∧ Hid (FillI w b m a c p bs A j A2 l2 c2 a2 m2 wr)) (fun _ v2 _ => slLen v2)
  case atStart => exact ⟨0, A, len, cap, a, m, rfl, rfl, HI0.out⟩
  case round =>
    obtain ⟨j, A2, l2, c2, a2, m2, rfl, rfl, HI⟩ := hrel
    have hlj := HI.out.leq
    have hjj := HI.out.jle
    have hcc := HI.out.cle
    have hmm := HI.out.mle
    by_cases h0 : 0 < l2
    · obtain ⟨T, hT⟩ : ∃ T, T = p + j := ⟨_, rfl⟩
      obtain ⟨r, hr⟩ : ∃ r, r = T % 1024 := ⟨_, rfl⟩
      obtain ⟨q, hq⟩ : ∃ q, q = T / 1024 := ⟨_, rfl⟩
      obtain ⟨n, hn⟩ : ∃ n, n = min l2 (1024 - r) := ⟨_, rfl⟩
      have hrm : (T : Int).tmod 1024 = (r : Int) := by rw [Int.tmod_eq_emod_of_nonneg (by omega)]; omega
      have hr2 : r < 1024 := by omega
      have hn2 : n ≤ l2 := by omega
      have hn0 : 0 < n := by omega
      have hn3 : n ≤ 1024 := by omega
      have hTb : T ≤ 9000000000 := by omega
      have HTq := keepf (show p + j = q * 1024 + r by omega)
      have HN := keepf hn
      have HT := keepf hT
      have HLJ := keepf hlj
      have HFT := keepf (show r + n ≤ (blkCs (putB c p (bs.take j)) q).size by rw [blkCs_size]; omega)
      have HSZ := keepf (show 0 < (lcells (bs.drop j)).length → 0 < l2 from fun _ => h0)
      have HOf := keepf (of_any b m2 a2 (putB c p (bs.take j)) T wr HI.out.map HI.out.bl (by omega) (by omega))
      rw [← hq] at HOf
      rw [← hT]
      have hsl := blk_from b r hr2
      have hfr := fun W => fromL A2 l2 c2 n hn2 W
      have hsb := fun dd W => blk_from dd r hr2 W
      clear hsl hr hq hn hT hlj hjj hmm HI0
      go_wp2_with (first
        | (go_at_call 39; refine HOf.out.mono ?_; rintro e w3 ⟨d, a3, m3, rfl, hM3, hm3, hB3, hd3, hx3, hc3⟩; have HM3 := keepf hM3; have Hm3 := keepf hm3; have HB3 := keepf hB3; have HD3 := keepf hd3; have HX3 := keepf hx3; have HC3 := keepf hc3; clear hM3 hm3 hB3 hd3 hx3 hc3)
        | (go_loud (refine copy_min rfl (.tmp 16) (.tmp 17) 30 30 rfl 5 Try.underlying30 size_u8S d r (1024 - r) (1024 - r) rfl A2 l2 c2 rfl _ _ (HB3.out.lie q d HD3.out) _ (HI.out.src.chg HC3.out (fun ad e h0' e5 => HI.out.src_lt HA.out HW.out e h0' (.inl e5)) HSZ.out) n HN.out HFT.out (lcells_one _) ?_); intro w4 hb4 hc4; have HB4 := keepf hb4; have HC4 := keepf hc4; clear hb4 hc4))
      go_roundw
      case rel => exact ⟨j + n, _, _, _, a3, m3, by have := HT.out; go_num, rfl, HI.out.next HA.out HW.out HM3.out Hm3.out HB3.out HD3.out HX3.out HC3.out HTq.out hr2 HN.out hn0 HB4.out HC4.out⟩
      case measure => simp [slLen]; omega
    · obtain rfl : l2 = 0 := by omega
      go_wp2_with fail
      go_end0
      have hje : j = bs.length := by omega
      refine ⟨a2, m2, rfl, HI.out.map, by omega, ?_, HI.out.ext, fun q h1 h2 => HI.out.cov q h1 (by omega), HI.out.chg⟩
      have := HI.out.bl
      rw [List.take_of_length_le (by omega)] at this
      exact this

end Go.Proofs.Ytnbjigopgbjneaa
