/- repetitions: those of bytes, each from where the one ahead ends. -/
import Derived.Test.YtomkejeofcpchaaLongest
import Derived.Lib.SmallJoins
namespace Go.Proofs.Ytomkejeofcpchaa
open Go.RowKit
set_option linter.unusedVariables false
set_option linter.unusedSimpArgs false

/-- A row of new cells. -/
theorem src_new {w : World} (cs : Array Value) (t : TypeId) {n m size : Nat} (h : n = w.heap.size) (hs : cs.size = m * size) : Src (w.alloc (.cells cs t)) size (some ⟨n, 0, none⟩) m m cs.toList := by
  subst h
  refine ⟨by simpa using hs, fun h => (by cases h), fun ad hA j u hu => ?_⟩
  cases hA
  have hc := (Blk.new w t cs).cell j
  rw [← Array.getElem?_toList, hu] at hc
  by_cases hj : j = 0
  · subst hj; simpa [Addr.add] using hc
  · simpa [Addr.add, hj] using hc

abbrev Rp := Nat × Nat
def Rp.size (r : Rp) : Nat := if r.1 = 0 then 1 else r.1
def encR (r : Rp) : List Value := [.int .u16 (r.1 : Nat), .int .u16 (r.2 : Nat)]
def rcells (L : List Rp) : List Value := L.flatMap encR
theorem rcells_len (L : List Rp) : (rcells L).length = L.length * 2 := flat_len encR 2 (fun _ => rfl) L
theorem rcells_app (L M : List Rp) : rcells (L ++ M) = rcells L ++ rcells M := by simp [rcells]
theorem rcells_one (L : List Rp) : ∀ u ∈ rcells L, u.oneCell' = true := by
  intro u hu
  obtain ⟨x, _, hx⟩ := List.mem_flatMap.1 hu
  simp only [encR, List.mem_cons, List.not_mem_nil, or_false] at hx
  rcases hx with rfl | rfl <;> rfl
theorem encR_one (r : Rp) : ∀ u ∈ encR r, u.oneCell' = true := by
  intro u hu
  simp only [encR, List.mem_cons, List.not_mem_nil, or_false] at hu
  rcases hu with rfl | rfl <;> rfl
theorem rcells_0 {L : List Rp} {k : Nat} {r : Rp} (h : L[k]? = some r) : (rcells L)[k * 2]? = some (.int .u16 (r.1 : Nat)) := flat_get encR 2 (fun _ => rfl) L k 0 r h (by decide)
theorem rcells_1 {L : List Rp} {k : Nat} {r : Rp} (h : L[k]? = some r) : (rcells L)[k * 2 + 1]? = some (.int .u16 (r.2 : Nat)) := flat_get encR 2 (fun _ => rfl) L k 1 r h (by decide)

/-- Repetitions that lead from the place p to the place q. -/
def Lead (bs : List Nat) (g : Nat → Nat) : List Rp → Nat → Nat → Prop
  | [], p, q => p = q
  | r :: L, p, q => RepOk bs p r.1 r.2 ∧ (g p ≠ 0 → r.1 ≠ 0) ∧ p < bs.length ∧ Lead bs g L (p + r.size) q
theorem Lead.snoc {bs : List Nat} {g : Nat → Nat} {r : Rp} : ∀ {L : List Rp} {p q : Nat}, Lead bs g L p q → RepOk bs q r.1 r.2 → (g q ≠ 0 → r.1 ≠ 0) → q < bs.length → Lead bs g (L ++ [r]) p (q + r.size)
  | [], p, q, h, h1, h2, h3 => by cases h; exact ⟨h1, h2, h3, rfl⟩
  | s :: L, p, q, h, h1, h2, h3 => ⟨h.1, h.2.1, h.2.2.1, Lead.snoc h.2.2.2 h1 h2 h3⟩
theorem Rp.size_pos (r : Rp) : 1 ≤ r.size := by unfold Rp.size; split <;> omega
theorem RepOk.size_le {bs : List Nat} {p : Nat} {r : Rp} (h : RepOk bs p r.1 r.2) (hp : p < bs.length) : p + r.size ≤ bs.length := by
  unfold Rp.size
  rcases h with ⟨h1, _⟩ | ⟨_, _, _, _, _, h1, _⟩
  · rw [if_pos h1]; omega
  · split <;> omega
theorem Lead.len {bs : List Nat} {g : Nat → Nat} : ∀ {L : List Rp} {p q : Nat}, Lead bs g L p q → p + L.length ≤ q
  | [], p, q, h => by cases h; exact Nat.le_refl _
  | r :: L, p, q, h => by
    have := Lead.len h.2.2.2
    have := r.size_pos
    simp only [List.length_cons]
    omega
/-- Where all are single bytes, no place had anything to repeat. -/
theorem Lead.single {bs : List Nat} {g : Nat → Nat} : ∀ {L : List Rp} {p q : Nat}, Lead bs g L p q → (∀ r ∈ L, r.1 = 0) → ∀ k, p ≤ k → k < q → g k = 0
  | [], p, q, h, _, k, h1, h2 => by cases h; omega
  | r :: L, p, q, h, ha, k, h1, h2 => by
    have h0 := ha r (List.mem_cons_self ..)
    have hs : r.size = 1 := by unfold Rp.size; rw [if_pos h0]
    rcases Decidable.em (k = p) with e | e
    · subst e
      rcases Decidable.em (g k = 0) with h3 | h3
      · exact h3
      · exact absurd h0 (h.2.1 h3)
    · have h4 := h.2.2.2
      rw [hs] at h4
      exact Lead.single h4 (fun x hx => ha x (List.mem_cons_of_mem _ hx)) k (by omega) h2

def RepsTo (w : World) (bs : List Nat) (e : Ending) (w' : World) : Prop :=
  ∃ (L : List Rp) (g : Nat → Nat) (A : Option Addr) (c : Nat), e = .returned (.slice A L.length c) ∧ w'.ownsRow 0 51 2 (.slice A L.length c) L.length (rcells L) ∧ Lead bs g L 0 bs.length ∧ StepsOk bs g ∧ Chg NoS w w' ∧ ∀ a, A = some a → w.heap.size ≤ a.block

/-- A row of the call's own, made behind the world w1, that grows. -/
theorem grow_chg {w1 wr w2 wr' : World} {A : Option Addr} {n c : Nat} (h : Chg NoS w1 wr) (hn : ∀ a, A = some a → w1.heap.size ≤ a.block) (hc : Chg NoS wr w2) (hg : w2.grownBy wr' (Value.slice A n c).ownBlock) : Chg NoS w1 wr' := by
  have h4 := ((Chg.refl (fun i => (Value.slice A n c).ownBlock = some i) w2).grown hg (fun k e _ => e))
  refine (h.trans hc (fun _ _ h => h)).trans h4 (fun i hi e => ?_)
  rcases A with _ | a
  · simp [Value.ownBlock] at e
  · have := hn a rfl
    simp [Value.ownBlock] at e
    omega
theorem grow_new {w1 w2 : World} {A A2 : Option Addr} {n c m c2 : Nat} (hn : ∀ a, A = some a → w1.heap.size ≤ a.block) (hs : w1.heap.size ≤ w2.heap.size)
    (hat : (Value.slice A2 m c2).ownBlock = (Value.slice A n c).ownBlock ∨ (Value.slice A2 m c2).ownBlock = some w2.heap.size) : ∀ a, A2 = some a → w1.heap.size ≤ a.block := by
  rintro a rfl
  rcases hat with e | e
  · rcases A with _ | b
    · simp [Value.ownBlock] at e
    · have := hn b rfl
      simp [Value.ownBlock] at e
      omega
  · simp [Value.ownBlock] at e
    omega

/-- What the loop carries, from the world w1 on. -/
structure RLoop (w w1 wr : World) (bs : List Nat) (g : Nat → Nat) (L : List Rp) (A : Option Addr) (c p : Nat) : Prop where
  own : wr.ownsRow 0 51 2 (.slice A L.length c) L.length (rcells L)
  lead : Lead bs g L 0 p
  chg : Chg NoS w1 wr
  new : ∀ a, A = some a → w1.heap.size ≤ a.block
theorem RLoop.turn {w w1 wr w2 wr' : World} {bs : List Nat} {g : Nat → Nat} {L : List Rp} {A A2 : Option Addr} {c c2 p : Nat} {r : Rp} (h : RLoop w w1 wr bs g L A c p) (hc : Chg NoS wr w2)
    (hg : w2.grownBy wr' (Value.slice A L.length c).ownBlock) (ho : wr'.ownsRow 0 51 2 (.slice A2 (L.length + 1) c2) (L.length + 1) (rcells L ++ encR r))
    (hat : (Value.slice A2 (L.length + 1) c2).ownBlock = (Value.slice A L.length c).ownBlock ∨ (Value.slice A2 (L.length + 1) c2).ownBlock = some w2.heap.size)
    (h1 : RepOk bs p r.1 r.2) (h2 : g p ≠ 0 → r.1 ≠ 0) (h3 : p < bs.length) : RLoop w w1 wr' bs g (L ++ [r]) A2 c2 (p + r.size) := by
  have hs := h.chg.size
  have hs2 := hc.size
  refine ⟨?_, h.lead.snoc h1 h2 h3, grow_chg h.chg h.new hc hg, grow_new h.new (by omega) hat⟩
  rw [List.length_append, List.length_singleton, rcells_app, show rcells [r] = encR r from by simp [rcells]]
  exact ho

set_option maxHeartbeats 1000000 in
theorem reps_any (bs : List Nat) (A : Option Addr) (c : Nat) (w : World) (hS : Src w 1 A bs.length c (ocells bs)) (hl : bs.length ≤ 16777216) (hc : bs.length ≤ c) (hg : ∀ b ∈ bs, b < 256) :
    Calls Try.prog 18 #[.slice A bs.length c] w (RepsTo w bs) := by
  have HST := keepf (steps_any bs A c w hS hl hg)
  have HL := keepf (fun (W : World) (g : Nat → Nat) (go p : Nat) (hS : Src W 1 A bs.length c (ocells bs)) (hR : SRow W (.slice (some ⟨go, 0, none⟩) bs.length bs.length) bs.length g) (hO : StepsOk bs g) (hp : p < bs.length) => longest_any bs A c p go g W hS hl hc hg hR hO hp)
  have HS := keepf hS
  obtain ⟨n, hn⟩ : ∃ n, n = bs.length := ⟨_, rfl⟩
  have HN := keepf hn
  rw [← hn] at hl hc HST HL HS ⊢
  clear hS hg hn
  obtain ⟨i0, hi, hz0, hz1, hz2⟩ := info_parts info_rep
  go_enter Try.func18, Try.ntmps18
  go_wp2_with (go_at_call 21; refine HST.out.mono ?_; rintro e w1 ⟨go, g, rfl, hrow, hok, hch, hgo⟩; have HROW := keepf hrow; have HOK := keepf hok; have HCH := keepf hch; clear hrow hok hch)
  go_loopw [4, 5] (fun vo va wr => ∃ p : Nat, ∃ L : List Rp, ∃ A2 : Option Addr, ∃ c2 : Nat, p ≤ n ∧ va = .int .i64 p ∧ vo = .slice A2 L.length c2 ∧ Hid (RLoop w w1 wr bs g L A2 c2 p)) (fun _ va _ => n - (intOf va).toNat)
  case atStart => exact ⟨0, [], none, 0, Nat.zero_le _, rfl, rfl, ⟨own_nil _ _ _ _, rfl, Chg.refl _ _, fun a h => by cases h⟩⟩
  case round =>
    obtain ⟨p, L, A2, c2, hp, rfl, rfl, HR⟩ := hrel
    obtain ⟨m, hm⟩ : ∃ m, m = L.length := ⟨_, rfl⟩
    have hmp := HR.out.lead.len
    rw [← hm] at hmp ⊢
    have HMM := keepf hm
    clear hm
    by_cases hlt : p < n
    · have HLC := keepf (HL.out wr g go p (Src.below (w0 := w) HS.out (HCH.out.trans HR.out.chg (fun _ _ h => h))) (own_chg HROW.out HR.out.chg (fun _ _ h => h)) HOK.out hlt)
      have HOWN := keepf (show wr.ownsRow 0 51 2 (.slice A2 m c2) m (rcells L) by rw [HMM.out]; exact HR.out.own)
      go_upto_region 5 with fail
      go_wp2_with (first
        | (go_at_call 22; refine HLC.out.mono ?_; rintro e w3 ⟨l, f, rfl, hro, hgt, hc3⟩; have HRO := keepf hro; have HGT := keepf hgt; have HC3 := keepf hc3; have hll := hro.le; have hsl := RepOk.size_le (r := (l, f)) hro (by have := HN.out; omega); clear hro hgt hc3; rcases Decidable.em ((l : Int) < 1) with h1 | h1)
        | (at_builtin; refine wpList_append_src rfl (.tmp 17) (.tmp 19) 47 rfl 51 i0 _ 2 4 Try.underlying47 hi hz0 hz1 hz2 rfl (by decide) (.slice A2 m c2) m (rcells L) rfl (own_chg (S := NoS) HOWN.out ((HC3.out.alloc _).alloc _) (fun _ _ h => h)) (some ⟨w3.heap.size + 1, 0, none⟩) 1 1 (encR (l, f)) rfl (src_new #[.int .u16 (l : Nat), .int .u16 (f : Nat)] _ (by simp) rfl) (encR_one _) (by unfold maxLen; omega) (by omega) ?_
           intro S2 w4 hown4 hgr4 hat4
           obtain ⟨A3, c3, rfl, hA3⟩ := own_slice hown4
           have hne : some w3.heap.size ≠ (Value.slice A2 m c2).ownBlock := fun e => by have h5 := own_lt HOWN.out e.symm; have h6 := HC3.out.size; omega
           have hb4 := (((Blk.new w3 51 #[.int .u16 (l : Nat), .int .u16 (f : Nat)]).alloc (.cells #[.int .u16 (l : Nat), .int .u16 (f : Nat)] 51)).grown hgr4 hne)
           have d0 := hb4.cell 0
           simp at d0
           have HG4 := keepf hgr4
           have HO4 := keepf hown4
           have HA4 := keepf hat4
           clear hown4 hgr4 hat4 hA3 hne hb4))
      all_goals
        go_roundw
        case rel =>
          refine ⟨p + Rp.size (l, f), L ++ [(l, f)], A3, c3, by have := HN.out; omega, ?_, by rw [List.length_append, ← HMM.out]; rfl, ?_⟩
          · have e : Rp.size (l, f) = if l = 0 then 1 else l := rfl
            first
              | (rw [e, if_pos (by omega)]; go_num)
              | (rw [e, if_neg (by omega)]; go_num)
          · refine HR.out.turn (r := (l, f)) ((HC3.out.alloc _).alloc _) (by rw [← HMM.out]; exact HG4.out) (by rw [← HMM.out]; exact HO4.out) (by rw [← HMM.out]; exact HA4.out) HRO.out HGT.out (by have := HN.out; omega)
        case measure => simp [intOf]; omega
    · have HP := keepf (show p = bs.length by have := HN.out; omega)
      go_wp2_with fail
      go_ret
      refine ⟨L, g, A2, c2, by rw [HMM.out]; rfl, HR.out.own, by rw [← HP.out]; exact HR.out.lead, HOK.out, HCH.out.trans HR.out.chg (fun _ _ h => h), fun a ha => ?_⟩
      have := HR.out.new a ha
      have := HCH.out.size
      omega
end Go.Proofs.Ytomkejeofcpchaa
