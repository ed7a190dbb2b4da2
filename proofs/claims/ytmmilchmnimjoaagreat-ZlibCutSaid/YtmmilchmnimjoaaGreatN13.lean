/- Merged by program: Laid Srch Syms RunM RowP Cut7 RunsP. -/
import Derived.Test.YtmmilchmnimjoaaGreatN02
import Derived.Test.YtmmilchmnimjoaaGreatN07
import Derived.Test.YtmmilchmnimjoaaGreatN08
import Derived.Test.YtmmilchmnimjoaaGreatN11
import Derived.Test.YtmmilchmnimjoaaGreatN12
import Derived.Shelf.Abstract
import Derived.BigQuiet
import Derived.Shelf.Small.Bits
/- What is laid bit by bit is unpacked: plain mathematics of the machine (no program): bits at a place, codes, tokens, blocks. -/
namespace Go.Proofs.YtmmilchmnimjoaaGreat
open Go.RowKit
set_option linter.unusedVariables false
set_option linter.unusedSimpArgs false
theorem repL_rep (far : Nat) : ∀ (n : Nat) (out : List Nat), repL far n out = rep far n out
  | 0, out => rfl
  | n + 1, out => by rw [repL, rep, repL_rep far n]
structure Lies (L : List Bool) (a : Nat) (B : List Bool) : Prop where
  le : a + B.length ≤ L.length
  eq : (L.drop a).take B.length = B
section
variable {L B C : List Bool} {a : Nat}
theorem Lies.all (L : List Bool) : Lies L 0 L := ⟨by simp, by simp⟩
theorem Lies.left (h : Lies L a (B ++ C)) : Lies L a B := by
  have h1 := h.le
  have h2 := h.eq
  rw [List.length_append] at h1 h2
  refine ⟨by omega, ?_⟩
  have h3 := congrArg (List.take B.length) h2
  rw [List.take_take, Nat.min_eq_left (by omega), List.take_left] at h3
  exact h3
theorem Lies.right (h : Lies L a (B ++ C)) : Lies L (a + B.length) C := by
  have h1 := h.le
  have h2 := h.eq
  rw [List.length_append] at h1 h2
  refine ⟨by omega, ?_⟩
  have h3 := congrArg (List.drop B.length) h2
  rw [List.drop_left, List.drop_take, List.drop_drop, Nat.add_sub_cancel_left] at h3
  exact h3
theorem Lies.more {M : List Bool} (h : Lies L a B) : Lies (L ++ M) a B := by
  have h1 := h.le
  refine ⟨by rw [List.length_append]; omega, ?_⟩
  rw [List.drop_append_of_le_length (by omega), List.take_append_of_le_length (by rw [List.length_drop]; omega)]
  exact h.eq
theorem Lies.put (L B : List Bool) : Lies (L ++ B) L.length B := ⟨by simp, by rw [List.drop_left, List.take_length]⟩
theorem Lies.room (h : Lies L a B) : ¬ 8 * (bytesOf false L).length < a + B.length := by
  have := h.le
  rw [bytesOf_length]
  unfold nby
  omega
theorem Lies.parts (h : Lies L a B) : L = L.take a ++ (B ++ L.drop (a + B.length)) := by
  have h1 := List.take_append_drop a L
  have h2 := List.take_append_drop B.length (L.drop a)
  rw [h.eq, List.drop_drop] at h2
  rw [← h2] at h1
  exact h1.symm
theorem Lies.num {x n : Nat} (h : Lies L a (numBits false x n)) (hx : x < 2 ^ n) : numAt false (bytesOf false L) a n = x := by
  have e := h.parts
  have h1 := numAt_put false (L.take a) (L.drop (a + (numBits false x n).length)) x n hx
  rw [← e, List.length_take, Nat.min_eq_left (by have := h.le; omega)] at h1
  exact h1
theorem Lies.code {ls : List Int} {s : Nat} (h : Lies L a (codeBits ls s)) (hM : May ls) (hs : s < ls.length) (hn : lenAt ls s ≠ 0) : Out ls (leftBits false (bytesOf false L) a) s (lenAt ls s) 0 := by
  have hle := h.le
  rw [codeBits_len] at hle
  have hls := some_lenAt hM.2.2.1 hs
  have hcl := cd_lt hM hn hls
  have htake : ∀ m, m ≤ lenAt ls s → (leftBits false (bytesOf false L) a).take m = (codeBits ls s).take m := by
    intro m hm
    have h2 := h.eq
    rw [codeBits_len] at h2
    rw [left_take _ _ _ _ (by omega)]
    have h3 := congrArg (List.take m) h2
    rw [List.take_take, Nat.min_eq_left hm] at h3
    exact h3
  have hv : ∀ m, m ≤ lenAt ls s → vl ((leftBits false (bytesOf false L) a).take m) = cd ls s / 2 ^ (lenAt ls s - m) := by
    intro m hm
    rw [htake m hm]
    exact vl_code _ _ _ hcl hm
  refine .ok _ _ ⟨hn, ?_, hls, ?_⟩ (fun m q hm hh => ?_)
  · rw [leftBits_len, bytesOf_length]; unfold nby; omega
  · rw [hv _ (Nat.le_refl _), Nat.sub_self, Nat.pow_zero, Nat.div_one]
  · obtain ⟨h1, h2, h3, h4⟩ := hh
    rw [hv m (by omega)] at h4
    have hne : q ≠ s := by
      rintro rfl
      rw [hls] at h3
      have := Option.some.inj h3
      omega
    exact apart h1 (by omega) h3 hls hne h4.symm
end
structure SymIn (ls : List Int) (s : Nat) : Prop where
  may : May ls
  lt : s < ls.length
  has : lenAt ls s ≠ 0
inductive Laid1 (L : List Bool) (ls ds : List Int) : Nat → Tk → Nat → Prop
  | lit {a x : Nat} (hx : x < 256) (hs : SymIn ls x) (h : Lies L a (codeBits ls x)) : Laid1 L ls ds a ⟨x, 0, 0⟩ (a + lenAt ls x)
  | rep {a s n x0 k s' n' y0 k' : Nat} (h1 : lenOf s = some (x0, n)) (h2 : k < 2 ^ n) (hs : SymIn ls s) (h3 : distOf s' = some (y0, n')) (h4 : k' < 2 ^ n') (hd : SymIn ds s')
      (h : Lies L a (codeBits ls s ++ (numBits false k n ++ (codeBits ds s' ++ numBits false k' n')))) : Laid1 L ls ds a ⟨0, (x0 + k : Nat), (y0 + k' : Nat)⟩ (a + lenAt ls s + n + lenAt ds s' + n')
theorem lenOf_ge {s x n : Nat} (h : lenOf s = some (x, n)) : 257 ≤ s ∧ 3 ≤ x := by
  unfold lenOf at h
  repeat' split at h
  · cases h
  · simp only [Option.some.injEq, Prod.mk.injEq] at h; omega
  · simp only [Option.some.injEq, Prod.mk.injEq] at h; omega
  · simp only [Option.some.injEq, Prod.mk.injEq] at h
    refine ⟨by omega, ?_⟩
    have : 0 ≤ (4 + (s - 261) % 4) * 2 ^ ((s - 261) / 4) := Nat.zero_le _
    omega
theorem tok_leads {L : List Bool} {ls ds : List Int} {a b : Nat} {t : Tk} (h : Laid1 L ls ds a t b) {out : List Nat} {most : Nat} (ht : t.err out.length most = 0) (last : Nat) :
    Leads (bytesOf false L) most ⟨a, out, .coded ls ds last⟩ ⟨b, t.put out, .coded ls ds last⟩ := by
  obtain ⟨hw, hf, hz⟩ := err_ok ht
  cases h with
  | @lit x hx hs h =>
    have hz1 : (⟨x, 0, 0⟩ : Tk).size = 1 := rfl
    rw [hz1] at hz
    refine Leads.step (.coded (h.code hs.may hs.lt hs.has) ?_)
    unfold stCoded
    rw [if_neg (by simp), if_neg (by omega), if_pos hx, if_neg (by omega)]
    rfl
  | @rep s n x0 k s' n' y0 k' h1 h2 hs h3 h4 hd h =>
    have hge := lenOf_ge h1
    have hA := h.left
    have hB := h.right.left
    have hC := h.right.right.left
    have hD := h.right.right.right
    rw [codeBits_len] at hB hC hD
    rw [numBits_length] at hC hD
    rw [codeBits_len] at hD
    have rB := hB.room
    have rD := hD.room
    rw [numBits_length] at rB rD
    have hl0 : ((x0 + k : Nat) : Int) ≠ 0 := by omega
    have hsz : (⟨0, (x0 + k : Nat), (y0 + k' : Nat)⟩ : Tk).size = (x0 + k : Nat) := by unfold Tk.size; rw [if_neg (by simp only; omega)]
    rw [hsz] at hz
    have hput : (⟨0, (x0 + k : Nat), (y0 + k' : Nat)⟩ : Tk).put out = rep (y0 + k') (x0 + k) out := by
      unfold Tk.put
      rw [if_neg hl0, repL_rep]
      rfl
    rw [hput]
    have s1 : Step (bytesOf false L) most ⟨a, out, .coded ls ds last⟩ (.inl ⟨a + lenAt ls s + n, out, .dist (x0 + k) ls ds last⟩) := by
      refine .coded (hA.code hs.may hs.lt hs.has) ?_
      unfold stCoded
      rw [if_neg (by simp), if_neg (by omega), if_neg (by omega), h1]
      simp only
      rw [if_neg rB, hB.num h2]
    have s2 : Step (bytesOf false L) most ⟨a + lenAt ls s + n, out, .dist (x0 + k) ls ds last⟩ (.inl ⟨a + lenAt ls s + n + lenAt ds s' + n', rep (y0 + k') (x0 + k) out, .coded ls ds last⟩) := by
      refine .dist (hC.code hd.may hd.lt hd.has) ?_
      unfold stDist
      rw [if_neg (by simp), h3]
      simp only
      simp only at hf
      rw [if_neg rD, hD.num h4, if_neg (by omega), if_neg (by omega)]
    exact (Leads.step s1).then s2
inductive LaidAll (L : List Bool) (ls ds : List Int) : Nat → List Tk → Nat → Prop
  | nil (a : Nat) : LaidAll L ls ds a [] a
  | cons {a b c : Nat} {t : Tk} {ts : List Tk} (h : Laid1 L ls ds a t b) (k : LaidAll L ls ds b ts c) : LaidAll L ls ds a (t :: ts) c
theorem LaidAll.append {L : List Bool} {ls ds : List Int} : ∀ {a b c : Nat} {ts us : List Tk}, LaidAll L ls ds a ts b → LaidAll L ls ds b us c → LaidAll L ls ds a (ts ++ us) c
  | _, _, _, [], us, .nil _, k => k
  | _, _, _, t :: ts, us, .cons h1 h2, k => .cons h1 (h2.append k)
theorem toks_leads {L : List Bool} {ls ds : List Int} {most : Nat} (last : Nat) : ∀ {ts : List Tk} {a b : Nat} {out r : List Nat}, LaidAll L ls ds a ts b → runT most ts out = .ok r → Leads (bytesOf false L) most ⟨a, out, .coded ls ds last⟩ ⟨b, r, .coded ls ds last⟩
  | [], _, _, out, r, .nil _, h => by cases h; exact .refl _
  | t :: ts, _, _, out, r, .cons h1 h2, h => by
    rw [runT] at h
    split at h
    · rename_i he
      exact (tok_leads h1 he last).trans (toks_leads last h2 h)
    · cases h
section
variable {L : List Bool} {most a last : Nat} {out : List Nat}
theorem eob_leads {ls ds : List Int} (hs : SymIn ls 256) (h : Lies L a (codeBits ls 256)) : Leads (bytesOf false L) most ⟨a, out, .coded ls ds last⟩ ⟨a + lenAt ls 256, out, .plain 0 last⟩ :=
  .step (.coded (h.code hs.may hs.lt hs.has) (by simp [stCoded]))
theorem next_leads : Leads (bytesOf false L) most ⟨a, out, .plain 0 0⟩ ⟨a, out, .head⟩ := .step (.plain (by simp [stPlain]))
theorem last_stop (h : last ≠ 0) : Runs (bytesOf false L) most ⟨a, out, .plain 0 last⟩ (.ok out a) := .stop (.plain (by simp [stPlain, h]))
theorem head_num (hl : last < 2) {k : Nat} (hk : k < 4) (h : Lies L a (numBits false last 1 ++ numBits false k 2)) :
    ¬ 8 * (bytesOf false L).length < a + 3 ∧ numAt false (bytesOf false L) a 1 = last ∧ numAt false (bytesOf false L) (a + 1) 2 = k := by
  have h1 := h.left
  have h2 := h.right
  have h3 := h2.room
  rw [numBits_length] at h2 h3
  rw [numBits_length] at h3
  exact ⟨by omega, h1.num (by omega), h2.num (by omega)⟩
theorem head_stored (hl : last < 2) (h : Lies L a (numBits false last 1 ++ numBits false 0 2)) : Leads (bytesOf false L) most ⟨a, out, .head⟩ ⟨a + 3, out, .stored last⟩ := by
  obtain ⟨h1, h2, h3⟩ := head_num hl (by decide) h
  refine .step (.head ?_)
  unfold stHead
  rw [if_neg h1, if_pos h3, h2]
theorem head_fixed (hl : last < 2) (h : Lies L a (numBits false last 1 ++ numBits false 1 2)) : Leads (bytesOf false L) most ⟨a, out, .head⟩ ⟨a + 3, out, .coded fixS fixD last⟩ := by
  obtain ⟨h1, h2, h3⟩ := head_num hl (by decide) h
  refine .step (.head ?_)
  unfold stHead
  rw [if_neg h1, if_neg (by omega), if_pos h3, h2]
theorem head_own (hl : last < 2) (h : Lies L a (numBits false last 1 ++ numBits false 2 2)) : Leads (bytesOf false L) most ⟨a, out, .head⟩ ⟨a + 3, out, .own last⟩ := by
  obtain ⟨h1, h2, h3⟩ := head_num hl (by decide) h
  refine .step (.head ?_)
  unfold stHead
  rw [if_neg h1, if_neg (by omega), if_neg (by omega), if_pos h3, h2]
theorem stored_leads {k : Nat} (hk : k < 65536) (h : Lies L ((a + 7) / 8 * 8) (numBits false k 16 ++ numBits false (k ^^^ 65535) 16)) :
    Leads (bytesOf false L) most ⟨a, out, .stored last⟩ ⟨(a + 7) / 8 * 8 + 32, out, .plain k last⟩ := by
  have h1 := h.left
  have h2 := h.right
  have h3 := h2.room
  rw [numBits_length] at h2 h3
  rw [numBits_length] at h3
  have hx : k ^^^ 65535 < 2 ^ 16 := Nat.xor_lt_two_pow (by omega) (by decide)
  have e1 := h1.num (by omega)
  have e2 := h2.num hx
  refine .step (.stored ?_)
  unfold stStored
  rw [if_neg (by omega), e1, e2, if_neg (by simp)]
theorem plain_leads : ∀ (xs : List Nat) (a : Nat) (out : List Nat), (∀ x ∈ xs, x < 256) → Lies L a (xs.flatMap fun x => numBits false x 8) → out.length + xs.length ≤ most →
    Leads (bytesOf false L) most ⟨a, out, .plain xs.length last⟩ ⟨a + 8 * xs.length, out ++ xs, .plain 0 last⟩
  | [], a, out, _, _, _ => by simpa using Leads.refl _
  | x :: xs, a, out, hx, h, hm => by
    rw [List.flatMap_cons] at h
    have h1 := h.left
    have h2 := h.right
    have h3 := h1.room
    rw [numBits_length] at h2 h3
    have e1 := h1.num (hx x (List.mem_cons_self ..))
    simp only [List.length_cons] at hm
    have s1 : Step (bytesOf false L) most ⟨a, out, .plain (x :: xs).length last⟩ (.inl ⟨a + 8, out ++ [x], .plain xs.length last⟩) := by
      refine .plain ?_
      unfold stPlain
      rw [if_neg (by simp), if_neg h3, if_neg (by omega), e1]
      rfl
    have ih := plain_leads xs (a + 8) (out ++ [x]) (fun y hy => hx y (List.mem_cons_of_mem _ hy)) h2 (by simp; omega)
    have e : a + 8 + 8 * xs.length = a + 8 * (x :: xs).length := by simp only [List.length_cons]; omega
    rw [e, List.append_assoc] at ih
    exact (Leads.step s1).trans ih
theorem own_leads {hlit hdist hclen : Nat} (h1 : hlit ≤ 29) (h2 : hdist ≤ 29) (h3 : hclen < 16) (h : Lies L a (numBits false hlit 5 ++ (numBits false hdist 5 ++ numBits false hclen 4))) :
    Leads (bytesOf false L) most ⟨a, out, .own last⟩ ⟨a + 14, out, .kinds (order.take (4 + hclen)) (List.replicate 19 0) (257 + hlit + (1 + hdist)) (257 + hlit) last⟩ := by
  have a1 := h.left
  have a2 := h.right.left
  have a3 := h.right.right
  have r3 := a3.room
  rw [numBits_length] at a2 a3 r3
  rw [numBits_length] at a3 r3
  rw [numBits_length] at r3
  have e1 := a1.num (x := hlit) (by omega)
  have e2 := a2.num (x := hdist) (by omega)
  have e3 := a3.num (x := hclen) (by omega)
  rw [show a + 5 + 5 = a + 10 from rfl] at e3
  refine .step (.own ?_)
  unfold stOwn
  rw [if_neg (by omega), e1, e2, e3, if_neg (by omega)]
theorem kinds_leads {n ns : Nat} (c : Nat → Nat) (hc : ∀ s, c s < 8) : ∀ (todo : List Nat) (l : List Int) (a : Nat), Lies L a (todo.flatMap fun s => numBits false (c s) 3) →
    Leads (bytesOf false L) most ⟨a, out, .kinds todo l n ns last⟩ ⟨a + 3 * todo.length, out, .kinds [] (todo.foldl (fun l s => l.set s (c s : Nat)) l) n ns last⟩
  | [], l, a, _ => by simpa using Leads.refl _
  | s :: todo, l, a, h => by
    rw [List.flatMap_cons] at h
    have h1 := h.left
    have h2 := h.right
    have h3 := h1.room
    rw [numBits_length] at h2 h3
    have e1 := h1.num (x := c s) (hc s)
    have s1 : Step (bytesOf false L) most ⟨a, out, .kinds (s :: todo) l n ns last⟩ (.inl ⟨a + 3, out, .kinds todo (l.set s (c s : Nat)) n ns last⟩) := by
      refine .kinds ?_
      unfold stKinds
      simp only
      rw [if_neg h3, e1]
    have ih := kinds_leads (n := n) (ns := ns) c hc todo (l.set s (c s : Nat)) (a + 3) h2
    have e : a + 3 + 3 * todo.length = a + 3 * (s :: todo).length := by simp only [List.length_cons]; omega
    rw [e] at ih
    exact (Leads.step s1).trans ih
theorem kinds_end {n ns : Nat} {l : List Int} (h : May l) : Leads (bytesOf false L) most ⟨a, out, .kinds [] l n ns last⟩ ⟨a, out, .lens l [] n ns last⟩ :=
  .step (.kinds (by simp [stKinds, h]))
def runBits (s : Nat) : Nat := if s = 16 then 2 else if s = 17 then 3 else if s = 18 then 7 else 0
def runAdds (l : List Int) (s v : Nat) : List Int :=
  if s = 16 then l ++ List.replicate (3 + v) (l.getD (l.length - 1) 0) else if s = 17 then l ++ List.replicate (3 + v) 0 else if s = 18 then l ++ List.replicate (11 + v) 0 else l ++ [(s : Int)]
theorem run_leads {cl l : List Int} {n ns s v : Nat} (hs : SymIn cl s) (hv : v < 2 ^ runBits s) (h : Lies L a (codeBits cl s ++ numBits false v (runBits s))) (h0 : s = 16 → l ≠ []) (hn : (runAdds l s v).length ≤ n) :
    Leads (bytesOf false L) most ⟨a, out, .lens cl l n ns last⟩ ⟨a + lenAt cl s + runBits s, out, .lens cl (runAdds l s v) n ns last⟩ := by
  have h1 := h.left
  have h2 := h.right
  have h3 := h2.room
  rw [codeBits_len] at h2 h3
  rw [numBits_length] at h3
  have e2 := h2.num hv
  have hl : l.length < n := by
    unfold runAdds at hn
    repeat' split at hn
    all_goals (simp at hn; omega)
  refine .step (.lens hl (h1.code hs.may hs.lt hs.has) ?_)
  unfold stLens
  rw [if_neg (by simp)]
  unfold runBits at h3 e2 ⊢
  unfold runAdds at hn ⊢
  by_cases c1 : s = 16
  · subst c1
    have hne := h0 rfl
    have hlen : l.length ≠ 0 := fun e => hne (List.eq_nil_of_length_eq_zero e)
    simp only [if_true] at h3 e2 hn ⊢
    simp at hn
    rw [if_neg h3, if_neg hlen, e2]
    unfold stRun
    rw [if_neg (by omega)]
  · rw [if_neg c1] at h3 e2 hn ⊢
    rw [if_neg c1, if_neg c1]
    by_cases c2 : s = 17
    · subst c2
      simp only [if_true] at h3 e2 hn ⊢
      simp at hn
      rw [if_neg h3, e2]
      unfold stRun
      rw [if_neg (by omega)]
    · rw [if_neg c2] at h3 e2 hn ⊢
      rw [if_neg c2, if_neg c2]
      by_cases c3 : s = 18
      · subst c3
        simp only [if_true] at h3 e2 hn ⊢
        simp at hn
        rw [if_neg h3, e2]
        unfold stRun
        rw [if_neg (by omega)]
      · rw [if_neg c3] at hn ⊢
        rw [if_neg c3, if_neg c3]
        simp at hn
        unfold stRun
        rw [if_neg (by omega)]
        rfl
theorem lens_end {cl l : List Int} {n ns : Nat} (hn : n ≤ l.length) (h0 : l.getD 256 0 ≠ 0) (h1 : May (l.take ns)) (h2 : May (l.drop ns)) :
    Leads (bytesOf false L) most ⟨a, out, .lens cl l n ns last⟩ ⟨a, out, .coded (l.take ns) (l.drop ns) last⟩ := by
  refine .step (.lensEnd hn ?_)
  unfold stEnd
  rw [if_neg h0, if_neg (by simpa using h1), if_neg (by simpa using h2)]
end
end Go.Proofs.YtmmilchmnimjoaaGreat
/- The library's Search, IndexFunc and ContainsFunc, with any function value that only reads. -/
namespace Go.Proofs.YtmmilchmnimjoaaGreat
open Go.RowKit
set_option linter.unusedVariables false
set_option linter.unusedSimpArgs false
def AskOf (g : Nat) (lb : Array Value) (p : Nat → Bool) (n : Nat) (w : World) : Prop :=
  ∀ j, j < n → Calls Tryz.prog g (#[.int .i64 (j : Nat)] ++ lb) w fun e w' => e = .returned (.bool (p j)) ∧ w = w'
set_option maxRecDepth 100000 in
theorem search_any (g : Nat) (lb : Array Value) (eg : ∀ args w, (callFunc g args).run Tryz.prog w = .ok (.enter g args) w) (p : Nat → Bool) (n r : Nat) (w : World)
    (hn : n ≤ 1000000) (hr : r ≤ n) (h0 : ∀ j, j < r → p j = false) (h1 : ∀ j, r ≤ j → j < n → p j = true) (hp : AskOf g lb p n w) :
    Calls Tryz.prog 157 #[.int .i64 (n : Nat), .func (.func g) #[] lb] w fun e w' => e = .returned (.int .i64 (r : Nat)) ∧ w = w' := by
  have H0 := keepf h0
  have H1 := keepf h1
  have HP := keepf hp
  clear h0 h1 hp
  go_enter Tryz.func157, Tryz.ntmps157
  go_wp2_with fail
  go_loop [5, 6] (fun i j => ∃ a b : Nat, a ≤ r ∧ r ≤ b ∧ b ≤ n ∧ i = .int .i64 a ∧ j = .int .i64 b) (fun i j => (intOf j - intOf i).toNat)
  case atStart => exact ⟨0, n, Nat.zero_le _, hr, Nat.le_refl _, rfl, rfl⟩
  case round =>
    obtain ⟨a, b, ha, hb, hbn, rfl, rfl⟩ := hrel
    by_cases hlt : a < b
    · obtain ⟨m, hm⟩ : ∃ m : Nat, m = (a + b) / 2 := ⟨_, rfl⟩
      have hmn : m < n := by omega
      have hab : a ≤ m ∧ m < b := by omega
      have HQ := HP.out m hmn
      rw [show ((m : Nat) : Int) = ((a : Int) + b) / 2 from by omega] at HQ
      have HM := keepf hm
      clear hm
      cases hq : p m with
      | true =>
        rw [hq] at HQ
        have hrm : r ≤ m := Nat.le_of_not_lt (fun h => by have := H0.out m h; rw [hq] at this; cases this)
        go_wp2_with (go_at_fn g; refine HQ.mono ?_; rintro e w' ⟨rfl, rfl⟩)
        go_round
        case rel => exact ⟨a, m, ha, hrm, by omega, rfl, by have := HM.out; congr 1; omega⟩
        case measure => have := HM.out; simp [intOf]; omega
      | false =>
        rw [hq] at HQ
        have hrm : m < r := Nat.lt_of_not_le (fun h => by have := H1.out m h hmn; rw [hq] at this; cases this)
        go_wp2_with (go_at_fn g; refine HQ.mono ?_; rintro e w' ⟨rfl, rfl⟩)
        go_round
        case rel => exact ⟨m + 1, b, by omega, hb, hbn, by have := HM.out; congr 1; omega, rfl⟩
        case measure => have := HM.out; simp [intOf]; omega
    · have e1 : a = r := by omega
      have e2 : b = r := by omega
      subst e1 e2
      go_wp2_with fail
      go_ret
      exact ⟨rfl, rfl⟩
def AskI (g : Nat) (lb : Array Value) (p : Int → Bool) (xs : List Int) (w : World) : Prop :=
  ∀ x, x ∈ xs → Calls Tryz.prog g (#[.int .i64 x] ++ lb) w fun e w' => e = .returned (.bool (p x)) ∧ w = w'
def idx (p : Int → Bool) (xs : List Int) : Int := if xs.any p then (xs.findIdx p : Nat) else -1
theorem idx_hit {p : Int → Bool} {xs : List Int} {k : Nat} {x : Int} (h : ∀ y ∈ xs.take k, p y = false) (hx : xs[k]? = some x) (hp : p x = true) : idx p xs = (k : Nat) := by
  obtain ⟨hk, rfl⟩ := List.getElem?_eq_some_iff.1 hx
  have ha : xs.any p = true := List.any_eq_true.2 ⟨_, List.getElem_mem hk, hp⟩
  unfold idx
  rw [if_pos ha]
  congr 1
  refine (List.findIdx_eq hk).2 ⟨hp, fun j hj => h _ ?_⟩
  rw [List.mem_take_iff_getElem]
  exact ⟨j, by omega, rfl⟩
theorem idx_miss {p : Int → Bool} {xs : List Int} (h : ∀ y ∈ xs, p y = false) : idx p xs = -1 := by
  unfold idx
  rw [if_neg]
  intro ha
  obtain ⟨x, hx, hp⟩ := List.any_eq_true.1 ha
  rw [h x hx] at hp
  cases hp
set_option maxRecDepth 100000 in
theorem indexI_any (g : Nat) (lb : Array Value) (eg : ∀ args w, (callFunc g args).run Tryz.prog w = .ok (.enter g args) w) (p : Int → Bool) (xs : List Int) (A : Option Addr) (c : Nat) (w : World)
    (hS : Src w 1 A xs.length c (icells xs)) (hL : xs.length ≤ 100000000) (hp : AskI g lb p xs w) :
    Calls Tryz.prog 151 #[.slice A xs.length c, .func (.func g) #[] lb] w fun e w' => e = .returned (.int .i64 (idx p xs)) ∧ w = w' := by
  have H := keepf hS
  have HP := keepf hp
  clear hS hp
  obtain ⟨n, hn⟩ : ∃ n, n = xs.length := ⟨_, rfl⟩
  have HN := keepf hn
  rw [← hn] at H hL ⊢
  clear hn
  go_enter Tryz.func151, Tryz.ntmps151
  go_wp2_with fail
  go_loop [8] (fun i => ∃ k : Nat, k ≤ n ∧ i = .int .i64 k ∧ Hid (∀ y ∈ xs.take k, p y = false)) (fun i => n - (intOf i).toNat)
  case atStart => exact ⟨0, Nat.zero_le _, rfl, fun y hy => by simp at hy⟩
  case round =>
    obtain ⟨k, hk, rfl, HT⟩ := hrel
    by_cases hlt : k < n
    · obtain ⟨x, hx⟩ : ∃ x, xs[k]? = some x := ⟨_, List.getElem?_eq_getElem (by have := HN.out; omega)⟩
      obtain ⟨b, off, rfl, hc⟩ := H.out.plain (by rw [icells_len, ← HN.out]; omega)
      have cx := hc k _ (icells_get hx)
      have HX := keepf hx
      have HQ := HP.out x (List.mem_of_getElem? hx)
      clear hx hc
      cases hq : p x with
      | true =>
        rw [hq] at HQ
        have HH := keepf hq
        clear hq
        go_wp2_with (go_at_fn g; refine HQ.mono ?_; rintro e w' ⟨rfl, rfl⟩)
        go_ret
        exact ⟨by rw [idx_hit HT.out HX.out HH.out]; rfl, rfl⟩
      | false =>
        rw [hq] at HQ
        have HH := keepf hq
        clear hq
        go_wp2_with (go_at_fn g; refine HQ.mono ?_; rintro e w' ⟨rfl, rfl⟩)
        go_round
        case rel =>
          refine ⟨k + 1, by omega, by go_num, fun y hy => ?_⟩
          rw [List.take_add_one, HX.out, List.mem_append] at hy
          rcases hy with hy | hy
          · exact HT.out y hy
          · simp at hy; subst hy; exact HH.out
        case measure => simp [intOf]; omega
    · obtain rfl : k = n := by omega
      go_wp2_with fail
      go_ret
      refine ⟨?_, rfl⟩
      have h1 := HT.out
      rw [List.take_of_length_le (by have := HN.out; omega)] at h1
      rw [idx_miss h1]
      rfl
theorem containsI_any (g : Nat) (lb : Array Value) (eg : ∀ args w, (callFunc g args).run Tryz.prog w = .ok (.enter g args) w) (p : Int → Bool) (xs : List Int) (A : Option Addr) (c : Nat) (w : World)
    (hS : Src w 1 A xs.length c (icells xs)) (hL : xs.length ≤ 100000000) (hp : AskI g lb p xs w) :
    Calls Tryz.prog 137 #[.slice A xs.length c, .func (.func g) #[] lb] w fun e w' => e = .returned (.bool (xs.any p)) ∧ w = w' := by
  have HI := keepf (indexI_any g lb eg p xs A c w hS hL hp)
  have hd : decide (0 ≤ idx p xs) = xs.any p := by
    unfold idx
    split
    · rename_i h; rw [h]; simp
    · rename_i h
      cases h2 : xs.any p with
      | true => exact absurd h2 h
      | false => rfl
  obtain ⟨r, hr⟩ : ∃ r, r = idx p xs := ⟨_, rfl⟩
  rw [← hr] at HI hd
  have HD := keepf hd
  clear hS hp hr hd
  go_enter Tryz.func137, Tryz.ntmps137
  go_wp2_with (go_at_call 151; refine HI.out.mono ?_; rintro e w' ⟨rfl, rfl⟩)
  go_ret
  exact ⟨by rw [← HD.out]; rfl, rfl⟩
end Go.Proofs.YtmmilchmnimjoaaGreat
/- The symbols of lengths and distances: the greatest one whose number is at most x. -/
namespace Go.Proofs.YtmmilchmnimjoaaGreat
open Go.RowKit
set_option linter.unusedVariables false
set_option linter.unusedSimpArgs false
theorem cellNew {w : World} {cs : Array Value} {t n i : Nat} {v : Value} (h : n = w.heap.size) (hv : cs[i]? = some v) : (w.alloc (.cells cs t)).cell? ⟨n, i, none⟩ = some v := by
  subst h
  exact ((Blk.new w t cs).cell i).trans hv
theorem cellOld {w : World} {o : Obj} {n i : Nat} {v : Value} (h : n < w.heap.size) (hv : w.cell? ⟨n, i, none⟩ = some v) : (w.alloc o).cell? ⟨n, i, none⟩ = some v :=
  (World.cell?_of_block (Below.heap_alloc w o n h)).trans hv
def topOf (f : Nat → Nat) (x : Nat) : Nat → Nat
  | 0 => 0
  | n + 1 => if f n ≤ x then n else topOf f x n
theorem topOf_spec {f : Nat → Nat} {x : Nat} (h0 : f 0 ≤ x) : ∀ n, 1 ≤ n → f (topOf f x n) ≤ x ∧ topOf f x n < n ∧ ∀ i, i < n → f i ≤ x → i ≤ topOf f x n
  | 0, h => by omega
  | n + 1, _ => by
    unfold topOf
    split
    · rename_i h
      exact ⟨h, by omega, fun i hi _ => by omega⟩
    · rename_i h
      rcases Nat.eq_zero_or_pos n with rfl | hn
      · exact absurd h0 h
      · obtain ⟨h1, h2, h3⟩ := topOf_spec h0 n hn
        refine ⟨h1, by omega, fun i hi hx => ?_⟩
        rcases Nat.lt_or_ge i n with h4 | h4
        · exact h3 i h4 hx
        · have : i = n := by omega
          subst this
          exact absurd hx h
def numL (i : Nat) : Nat := ((lenOf (257 + i)).getD (0, 0)).1
def bitL (i : Nat) : Nat := ((lenOf (257 + i)).getD (0, 0)).2
def numD (i : Nat) : Nat := ((distOf i).getD (0, 0)).1
def bitD (i : Nat) : Nat := ((distOf i).getD (0, 0)).2
theorem numL_all : ∀ i : Nat, i < 29 → lenOf (257 + i) = some (numL i, bitL i) ∧ numL i ≤ 258 ∧ bitL i ≤ 5 := by decide +kernel
theorem numD_all : ∀ i : Nat, i < 30 → distOf i = some (numD i, bitD i) ∧ numD i ≤ 32768 ∧ bitD i ≤ 13 := by decide +kernel
theorem numL_up : ∀ i : Nat, i < 28 → numL i < numL (i + 1) ∧ (i < 27 → numL (i + 1) = numL i + 2 ^ bitL i) := by decide +kernel
theorem numD_up : ∀ i : Nat, i < 29 → numD i < numD (i + 1) ∧ numD (i + 1) = numD i + 2 ^ bitD i := by decide +kernel
theorem up_lt {f : Nat → Nat} {n : Nat} (h : ∀ i, i + 1 < n → f i < f (i + 1)) : ∀ j i, i < j → j < n → f i < f j
  | 0, i, h1, _ => by omega
  | j + 1, i, h1, h2 => by
    have hj := h j h2
    rcases Nat.lt_or_ge i j with h3 | h3
    · have := up_lt h j i h3 (by omega)
      omega
    · have : i = j := by omega
      subst this
      exact hj
def lsym (x : Nat) : Nat := topOf numL x 29
def dsym (x : Nat) : Nat := topOf numD x 30
theorem lsym_ok {x : Nat} (h1 : 3 ≤ x) (h2 : x ≤ 258) : lsym x < 29 ∧ numL (lsym x) ≤ x ∧ x - numL (lsym x) < 2 ^ bitL (lsym x) ∧ ∀ i, i < 29 → numL i ≤ x → i ≤ lsym x := by
  have h0 : numL 0 = 3 := by decide +kernel
  obtain ⟨a, b, c⟩ := topOf_spec (f := numL) (x := x) (by omega) 29 (by omega)
  refine ⟨b, a, ?_, c⟩
  unfold lsym
  generalize topOf numL x 29 = i at *
  have h28 : numL 28 = 258 := by decide +kernel
  have h27 : numL 27 = 227 ∧ bitL 27 = 5 := by decide +kernel
  rcases Nat.lt_or_ge i 27 with hi | hi
  · have hu := (numL_up i (by omega)).2 hi
    have : ¬ numL (i + 1) ≤ x := fun h => by have := c (i + 1) (by omega) h; omega
    omega
  · rcases Nat.lt_or_ge i 28 with hj | hj
    · have e : i = 27 := by omega
      subst e
      have : ¬ numL 28 ≤ x := fun h => by have := c 28 (by omega) h; omega
      rw [h27.2]
      omega
    · have e : i = 28 := by omega
      subst e
      have := Nat.two_pow_pos (bitL 28)
      omega
theorem dsym_ok {x : Nat} (h1 : 1 ≤ x) (h2 : x ≤ 32768) : dsym x < 30 ∧ numD (dsym x) ≤ x ∧ x - numD (dsym x) < 2 ^ bitD (dsym x) ∧ ∀ i, i < 30 → numD i ≤ x → i ≤ dsym x := by
  have h0 : numD 0 = 1 := by decide +kernel
  obtain ⟨a, b, c⟩ := topOf_spec (f := numD) (x := x) (by omega) 30 (by omega)
  refine ⟨b, a, ?_, c⟩
  unfold dsym
  generalize topOf numD x 30 = i at *
  have h29 : numD 29 = 24577 ∧ bitD 29 = 13 := by decide +kernel
  rcases Nat.lt_or_ge i 29 with hi | hi
  · have hu := (numD_up i hi).2
    have : ¬ numD (i + 1) ≤ x := fun h => by have := c (i + 1) (by omega) h; omega
    omega
  · have e : i = 29 := by omega
    subst e
    rw [h29.2]
    omega
def NumOf (g : Nat) (lo n : Nat) (f b : Nat → Nat) : Prop :=
  ∀ (i : Nat) (W : World), i < n → Calls Tryz.prog g #[.int .i64 (lo + i : Nat)] W fun e w' => e = .returned (.tuple #[.int .i64 (f i : Nat), .int .i64 (b i : Nat), .bool true]) ∧ W = w'
theorem numOf_len : NumOf 79 257 29 numL bitL := fun i W hi => length_ok (257 + i) (numL i) (bitL i) W (numL_all i hi).1
theorem numOf_dist : NumOf 80 0 30 numD bitD := fun i W hi => by
  rw [Nat.zero_add]
  exact distance_ok i (numD i) (bitD i) W (numD_all i hi).1
set_option maxRecDepth 100000 in
theorem ask_any (g lo n x : Nat) (f b : Nat → Nat) (eg : ∀ args w, (callFunc g args).run Tryz.prog w = .ok (.enter g args) w) (hg : NumOf g lo n f b) (hlo : lo ≤ 1000) (hn : n ≤ 1000)
    (b1 b2 b3 : Nat) (w : World) (h1 : w.cell? ⟨b1, 0, none⟩ = some (.func (.func g) #[] #[])) (h2 : w.cell? ⟨b2, 0, none⟩ = some (.int .i64 (lo : Nat))) (h3 : w.cell? ⟨b3, 0, none⟩ = some (.int .i64 (x : Nat))) :
    AskOf 158 #[.pointer (some ⟨b1, 0, none⟩), .pointer (some ⟨b2, 0, none⟩), .pointer (some ⟨b3, 0, none⟩)] (fun j => decide (x < f j)) n w := by
  intro j hj
  show Calls Tryz.prog 158 #[.int .i64 (j : Nat), .pointer (some ⟨b1, 0, none⟩), .pointer (some ⟨b2, 0, none⟩), .pointer (some ⟨b3, 0, none⟩)] w _
  have HQ := keepf (hg j)
  rw [show ((lo + j : Nat) : Int) = (lo : Int) + j from by omega] at HQ
  have hs : (lo : Int) + j ≤ 2000 := by omega
  go_enter Tryz.func158, Tryz.ntmps158
  go_wp2_with (go_at_fn g; refine (HQ.out w hj).mono ?_; rintro e w' ⟨rfl, rfl⟩)
  go_ret
  refine ⟨?_, rfl⟩
  congr 2
set_option maxRecDepth 100000 in
theorem symbolOf_any (g lo n x : Nat) (f b : Nat → Nat) (eg : ∀ args w, (callFunc g args).run Tryz.prog w = .ok (.enter g args) w) (hg : NumOf g lo n f b) (hlo : lo ≤ 1000) (hn : n ≤ 1000) (hn0 : 1 ≤ n)
    (hf : ∀ i, i + 1 < n → f i < f (i + 1)) (h0 : f 0 ≤ x) (hx : x ≤ 100000) (w : World) :
    Calls Tryz.prog 143 #[.int .i64 (x : Nat), .int .i64 (lo : Nat), .int .i64 ((lo : Int) + n - 1), .func (.func g) #[] #[]] w fun e w' =>
      e = .returned (.tuple #[.int .i64 ((lo : Int) + topOf f x n), .int .i64 ((x : Int) - f (topOf f x n)), .int .i64 (b (topOf f x n) : Nat)]) ∧ Chg NoS w w' := by
  obtain ⟨t1, t2, t3⟩ := topOf_spec h0 n hn0
  have eq : ∀ args w, (callFunc 158 args).run Tryz.prog w = .ok (.enter 158 args) w := enters_of Tryz.func158 (by kernel_rfl) rfl
  have HS : Hid (∀ (b1 b2 b3 : Nat) (W : World), W.cell? ⟨b1, 0, none⟩ = some (.func (.func g) #[] #[]) → W.cell? ⟨b2, 0, none⟩ = some (.int .i64 (lo : Nat)) → W.cell? ⟨b3, 0, none⟩ = some (.int .i64 (x : Nat)) →
      Calls Tryz.prog 157 #[.int .i64 (n : Nat), .func (.func 158) #[] #[.pointer (some ⟨b1, 0, none⟩), .pointer (some ⟨b2, 0, none⟩), .pointer (some ⟨b3, 0, none⟩)]] W fun e w' => e = .returned (.int .i64 (topOf f x n + 1 : Nat)) ∧ W = w') := by
    intro b1 b2 b3 W k1 k2 k3
    refine search_any _ _ eq (fun j => decide (x < f j)) n (topOf f x n + 1) W (by omega) (by omega) (fun j hj => ?_) (fun j h1 h2 => ?_) (ask_any g lo n x f b eg hg hlo hn b1 b2 b3 W k1 k2 k3)
    · have : f j ≤ f (topOf f x n) := by
        rcases Nat.lt_or_ge j (topOf f x n) with h | h
        · exact Nat.le_of_lt (up_lt hf _ _ h t2)
        · have : j = topOf f x n := by omega
          rw [this]; exact Nat.le_refl _
      simp; omega
    · have : ¬ f j ≤ x := fun h => by have := t3 j h2 h; omega
      simp; omega
  generalize topOf f x n = t at *
  have HG := keepf (hg t)
  obtain ⟨ft, hft⟩ : ∃ ft, ft = f t := ⟨_, rfl⟩
  obtain ⟨bt, hbt⟩ : ∃ bt, bt = b t := ⟨_, rfl⟩
  rw [← hft, ← hbt] at HG
  rw [← hft] at t1
  rw [← hft, ← hbt]
  obtain ⟨hi, hhi⟩ : ∃ hi : Int, hi = (lo : Int) + n - 1 := ⟨_, rfl⟩
  rw [← hhi]
  rw [show ((n : Nat) : Int) = hi - lo + 1 from by omega, show ((t + 1 : Nat) : Int) = (t : Int) + 1 from by omega] at HS
  rw [show ((lo + t : Nat) : Int) = (lo : Int) + ((t : Int) + 1) - 1 from by omega] at HG
  have q1 : IntKind.i64.wrap (hi - lo) = hi - lo := by rw [IntKind.wrap_i64]; omega
  have q2 : IntKind.i64.wrap (hi - lo + 1) = hi - lo + 1 := by rw [IntKind.wrap_i64]; omega
  have q3 : IntKind.i64.wrap ((lo : Int) + ((t : Int) + 1)) = (lo : Int) + ((t : Int) + 1) := by rw [IntKind.wrap_i64]; omega
  have q4 : IntKind.i64.wrap ((lo : Int) + ((t : Int) + 1) - 1) = (lo : Int) + ((t : Int) + 1) - 1 := by rw [IntKind.wrap_i64]; omega
  have q5 : IntKind.i64.wrap ((x : Int) - ft) = (x : Int) - ft := by rw [IntKind.wrap_i64]; omega
  have HT := keepf t2
  clear hg hf h0 t3 hft hbt eq hhi t2 hn hn0
  go_enter Tryz.func143, Tryz.ntmps143
  go_upto_region 1 with fail
  go_quiet ((go_at_call 157; exact quiet_left (HS.out _ _ _ _ (cellNew (by simp) rfl) (cellOld (by simp <;> omega) (cellNew (by simp) rfl)) (cellOld (by simp <;> omega) (cellOld (by simp <;> omega) (cellNew (by simp) rfl))))))
  go_upto_region 3 with (go_at_fn g; refine (HG.out _ HT.out).mono ?_; rintro e w' ⟨rfl, rfl⟩)
  go_quiet (fail)
  go_wp2_with fail
  go_ret3
  refine ⟨?_, (((((Chg.refl _ _).alloc _).alloc _).alloc _).drewN _).drewN _⟩
  rw [show (lo : Int) + t = (lo : Int) + ((t : Int) + 1) - 1 from by omega]
  rfl
theorem symbol_ok (x : Nat) (w : World) (h1 : 3 ≤ x) (h2 : x ≤ 258) :
    Calls Tryz.prog 126 #[.int .i64 (x : Nat)] w fun e w' =>
      e = .returned (.tuple #[.int .i64 ((257 : Int) + lsym x), .int .i64 ((x : Int) - numL (lsym x)), .int .i64 (bitL (lsym x) : Nat)]) ∧ Chg NoS w w' := by
  have z0 : numL 0 ≤ x := by rw [show numL 0 = 3 from by decide +kernel]; exact h1
  have HS := keepf (symbolOf_any 79 257 29 x numL bitL (enters_of Tryz.func79 (by kernel_rfl) rfl) numOf_len (by omega) (by omega) (by omega) (fun i hi => (numL_up i (by omega)).1) z0 (by omega) w)
  have d1 : decide ((x : Int) < 3) = false := by simp; omega
  have d2 : decide ((258 : Int) < x) = false := by simp; omega
  have e1 : topOf numL x 29 = lsym x := rfl
  rw [e1, show (((257 : Nat) : Int) + (29 : Nat) - 1) = 285 from by decide, show ((257 : Nat) : Int) = 257 from rfl] at HS
  generalize numL (lsym x) = nx at *
  generalize bitL (lsym x) = bx at *
  generalize lsym x = sx at *
  clear e1 z0
  go_enter Tryz.func126, Tryz.ntmps126
  go_wp2_with (go_at_call 143; refine HS.out.mono ?_; rintro e w' ⟨rfl, hc⟩; have HC := keepf hc; clear hc)
  go_ret3
  exact ⟨rfl, HC.out⟩
theorem far_ok (x : Nat) (w : World) (h1 : 1 ≤ x) (h2 : x ≤ 32768) :
    Calls Tryz.prog 127 #[.int .i64 (x : Nat)] w fun e w' =>
      e = .returned (.tuple #[.int .i64 (dsym x : Nat), .int .i64 ((x : Int) - numD (dsym x)), .int .i64 (bitD (dsym x) : Nat)]) ∧ Chg NoS w w' := by
  have z0 : numD 0 ≤ x := by rw [show numD 0 = 1 from by decide +kernel]; exact h1
  have HS := keepf (symbolOf_any 80 0 30 x numD bitD (enters_of Tryz.func80 (by kernel_rfl) rfl) numOf_dist (by omega) (by omega) (by omega) (fun i hi => (numD_up i (by omega)).1) z0 (by omega) w)
  have d1 : decide ((x : Int) < 1) = false := by simp; omega
  have d2 : decide ((32768 : Int) < x) = false := by simp; omega
  have e1 : topOf numD x 30 = dsym x := rfl
  rw [e1, show (((0 : Nat) : Int) + (30 : Nat) - 1) = 29 from by decide, show ((0 : Nat) : Int) = 0 from rfl, Int.zero_add] at HS
  generalize numD (dsym x) = nx at *
  generalize bitD (dsym x) = bx at *
  generalize dsym x = sx at *
  clear e1 z0
  go_enter Tryz.func127, Tryz.ntmps127
  go_wp2_with (go_at_call 143; refine HS.out.mono ?_; rintro e w' ⟨rfl, hc⟩; have HC := keepf hc; clear hc)
  go_ret3
  exact ⟨rfl, HC.out⟩
end Go.Proofs.YtmmilchmnimjoaaGreat
/- Lengths as symbols: plain mathematics, no program. -/
namespace Go.Proofs.YtmmilchmnimjoaaGreat
open Go.RowKit
set_option linter.unusedVariables false
set_option linter.unusedSimpArgs false
abbrev Rn := Nat × Nat
def encX (r : Rn) : List Value := [.int .i64 (r.1 : Nat), .int .i64 (r.2 : Nat)]
def xcells (L : List Rn) : List Value := L.flatMap encX
theorem xcells_len (L : List Rn) : (xcells L).length = L.length * 2 := flat_len encX 2 (fun _ => rfl) L
theorem xcells_app (L M : List Rn) : xcells (L ++ M) = xcells L ++ xcells M := by simp [xcells]
theorem encX_one (r : Rn) : ∀ u ∈ encX r, u.oneCell' = true := by
  intro u hu
  simp only [encX, List.mem_cons, List.not_mem_nil, or_false] at hu
  rcases hu with rfl | rfl <;> rfl
theorem xcells_one (L : List Rn) : ∀ u ∈ xcells L, u.oneCell' = true := by
  intro u hu
  obtain ⟨x, _, hx⟩ := List.mem_flatMap.1 hu
  exact encX_one x u hx
theorem xcells_0 {L : List Rn} {k : Nat} {r : Rn} (h : L[k]? = some r) : (xcells L)[k * 2]? = some (.int .i64 (r.1 : Nat)) := flat_get encX 2 (fun _ => rfl) L k 0 r h (by decide)
theorem xcells_1 {L : List Rn} {k : Nat} {r : Rn} (h : L[k]? = some r) : (xcells L)[k * 2 + 1]? = some (.int .i64 (r.2 : Nat)) := flat_get encX 2 (fun _ => rfl) L k 1 r h (by decide)
def adds (l : List Int) (rs : List Rn) : List Int := rs.foldl (fun l r => runAdds l r.1 r.2) l
def RunsOk : List Int → List Rn → Prop
  | _, [] => True
  | l, r :: rs => r.1 ≤ 18 ∧ r.2 < 2 ^ runBits r.1 ∧ (r.1 = 16 → l ≠ []) ∧ RunsOk (runAdds l r.1 r.2) rs
theorem adds_app (l : List Int) (a b : List Rn) : adds l (a ++ b) = adds (adds l a) b := List.foldl_append ..
theorem RunsOk.app : ∀ {a b : List Rn} {l : List Int}, RunsOk l a → RunsOk (adds l a) b → RunsOk l (a ++ b)
  | [], _, _, _, h => h
  | r :: a, b, l, h, k => ⟨h.1, h.2.1, h.2.2.1, RunsOk.app h.2.2.2 k⟩
theorem runAdds_pre (l : List Int) (s v : Nat) : l <+: runAdds l s v := by
  unfold runAdds
  repeat' split
  all_goals exact List.prefix_append ..
theorem runAdds_len (l : List Int) (s v : Nat) : l.length + 1 ≤ (runAdds l s v).length := by
  unfold runAdds
  repeat' split
  all_goals (simp <;> omega)
theorem adds_pre : ∀ (rs : List Rn) (l : List Int), l <+: adds l rs
  | [], l => List.prefix_refl l
  | r :: rs, l => (runAdds_pre l r.1 r.2).trans (adds_pre rs _)
theorem adds_len : ∀ (rs : List Rn) (l : List Int), l.length + rs.length ≤ (adds l rs).length
  | [], l => Nat.le_refl _
  | r :: rs, l => by
    have h1 := runAdds_len l r.1 r.2
    have h2 := adds_len rs (runAdds l r.1 r.2)
    have e : adds l (r :: rs) = adds (runAdds l r.1 r.2) rs := rfl
    rw [e, List.length_cons]
    omega
def manyR (s least most n : Nat) : List Rn × Nat :=
  if h : least ≤ n ∧ 1 ≤ least ∧ 1 ≤ most then ((s, min n most - least) :: (manyR s least most (n - min n most)).1, (manyR s least most (n - min n most)).2) else ([], n)
termination_by n
decreasing_by all_goals omega
theorem manyR_less {s least most n : Nat} (h : n < least) : manyR s least most n = ([], n) := by
  rw [manyR, dif_neg (by omega)]
theorem manyR_more {s least most n : Nat} (h : least ≤ n) (h1 : 1 ≤ least) (h2 : least ≤ most) :
    manyR s least most n = ((s, min n most - least) :: (manyR s least most (n - min n most)).1, (manyR s least most (n - min n most)).2) := by
  rw [manyR, dif_pos ⟨h, h1, by omega⟩]
theorem manyR_gen {s least most : Nat} {x : Int} (P : List Int → Prop) (hadd : ∀ l v, P l → runAdds l s v = l ++ List.replicate (least + v) x) (hP : ∀ l k, P l → P (l ++ List.replicate k x))
    (h1 : 1 ≤ least) (h2 : least ≤ most) (hs : s ≤ 18) (hb : most < least + 2 ^ runBits s) (hne : s = 16 → ∀ l, P l → l ≠ []) : ∀ (m n : Nat) (l : List Int), n ≤ m → P l →
    adds l (manyR s least most n).1 = l ++ List.replicate (n - (manyR s least most n).2) x ∧ (manyR s least most n).2 ≤ n ∧ (manyR s least most n).2 < least ∧ RunsOk l (manyR s least most n).1
  | 0, n, l, hn, hl => by
    rw [manyR_less (by omega)]
    exact ⟨by simp [adds], Nat.le_refl _, by simp only; omega, trivial⟩
  | m + 1, n, l, hn, hl => by
    rcases Nat.lt_or_ge n least with h | h
    · rw [manyR_less h]
      exact ⟨by simp [adds], Nat.le_refl _, h, trivial⟩
    · rw [manyR_more h h1 h2]
      have e1 := hadd l (min n most - least) hl
      rw [show least + (min n most - least) = min n most from by omega] at e1
      obtain ⟨i1, i2, i3, i4⟩ := manyR_gen P hadd hP h1 h2 hs hb hne m (n - min n most) (l ++ List.replicate (min n most) x) (by omega) (hP l _ hl)
      refine ⟨?_, by simp only; omega, i3, ⟨hs, by simp only; omega, fun e => hne e l hl, ?_⟩⟩
      · show adds (runAdds l s (min n most - least)) _ = _
        rw [e1, i1, List.append_assoc, List.replicate_append_replicate]
        congr 2
        omega
      · simp only
        rw [e1]
        exact i4
def rowR (x : Int) (n : Nat) : List Rn :=
  if x = 0 then (manyR 18 11 138 n).1 ++ ((manyR 17 3 10 (manyR 18 11 138 n).2).1 ++ List.replicate (manyR 17 3 10 (manyR 18 11 138 n).2).2 (0, 0))
  else (x.toNat, 0) :: ((manyR 16 3 6 (n - 1)).1 ++ List.replicate (manyR 16 3 6 (n - 1)).2 (x.toNat, 0))
theorem single_adds {x : Int} (h0 : 0 ≤ x) (h1 : x ≤ 15) : ∀ (n : Nat) (l : List Int), adds l (List.replicate n (x.toNat, 0)) = l ++ List.replicate n x ∧ RunsOk l (List.replicate n (x.toNat, 0))
  | 0, l => ⟨by simp [adds], trivial⟩
  | n + 1, l => by
    have e : runAdds l x.toNat 0 = l ++ [x] := by
      unfold runAdds
      rw [if_neg (by omega), if_neg (by omega), if_neg (by omega), Int.toNat_of_nonneg h0]
    obtain ⟨i1, i2⟩ := single_adds h0 h1 n (l ++ [x])
    refine ⟨?_, ⟨by simp only; omega, ?_, fun e => absurd e (by simp only; omega), ?_⟩⟩
    · show adds (runAdds l x.toNat 0) _ = _
      rw [e, i1, List.append_assoc]
      rfl
    · exact Nat.two_pow_pos _
    · simp only
      rw [e]
      exact i2
theorem rowR_ok {x : Int} (h0 : 0 ≤ x) (h1 : x ≤ 15) {n : Nat} (hn : 1 ≤ n) (l : List Int) : adds l (rowR x n) = l ++ List.replicate n x ∧ RunsOk l (rowR x n) := by
  unfold rowR
  by_cases hx : x = 0
  · subst hx
    rw [if_pos rfl]
    obtain ⟨a1, a2, a3, a4⟩ := manyR_gen (s := 18) (least := 11) (most := 138) (x := 0) (fun _ => True) (fun l v _ => by simp [runAdds]) (fun _ _ _ => trivial) (by omega) (by omega) (by omega) (by decide) (fun e => by cases e) n n l (Nat.le_refl _) trivial
    generalize manyR 18 11 138 n = A at *
    obtain ⟨b1, b2, b3, b4⟩ := manyR_gen (s := 17) (least := 3) (most := 10) (x := 0) (fun _ => True) (fun l v _ => by simp [runAdds]) (fun _ _ _ => trivial) (by omega) (by omega) (by omega) (by decide) (fun e => by cases e) A.2 A.2 (l ++ List.replicate (n - A.2) 0) (Nat.le_refl _) trivial
    generalize manyR 17 3 10 A.2 = B at *
    obtain ⟨c1, c2⟩ := single_adds (x := 0) (by omega) (by omega) B.2 (l ++ List.replicate (n - A.2) 0 ++ List.replicate (A.2 - B.2) 0)
    refine ⟨?_, a4.app ?_⟩
    · rw [adds_app, a1, adds_app, b1]
      refine c1.trans ?_
      rw [List.append_assoc, List.append_assoc, List.replicate_append_replicate, List.replicate_append_replicate]
      congr 2
      omega
    · rw [a1]
      refine b4.app ?_
      rw [b1]
      exact c2
  · rw [if_neg hx]
    have e : runAdds l x.toNat 0 = l ++ [x] := by
      unfold runAdds
      rw [if_neg (by omega), if_neg (by omega), if_neg (by omega), Int.toNat_of_nonneg h0]
    obtain ⟨a1, a2, a3, a4⟩ := manyR_gen (s := 16) (least := 3) (most := 6) (x := x) (fun l => l.getD (l.length - 1) 0 = x ∧ l ≠ [])
      (fun l v h => by rw [runAdds, if_pos rfl, h.1])
      (fun l k h => by
        refine ⟨?_, by simp [h.2]⟩
        rcases Nat.eq_zero_or_pos k with rfl | hk
        · simpa using h.1
        · rw [List.length_append, List.length_replicate, List.getD_eq_getElem?_getD, List.getElem?_append_right (by omega), List.getElem?_replicate, if_pos (by omega)]
          rfl)
      (by omega) (by omega) (by omega) (by decide) (fun _ l h => h.2) (n - 1) (n - 1) (l ++ [x]) (Nat.le_refl _) ⟨by simp, by simp⟩
    generalize manyR 16 3 6 (n - 1) = A at *
    obtain ⟨c1, c2⟩ := single_adds h0 h1 A.2 (l ++ [x] ++ List.replicate (n - 1 - A.2) x)
    refine ⟨?_, ⟨by simp only; omega, Nat.two_pow_pos _, fun e => absurd e (by simp only; omega), ?_⟩⟩
    · show adds (runAdds l x.toNat 0) _ = _
      rw [e, adds_app, a1]
      refine c1.trans ?_
      rw [List.append_assoc, List.append_assoc, List.replicate_append_replicate]
      show l ++ x :: List.replicate _ x = _
      rw [← List.replicate_succ]
      congr 2
      omega
    · simp only
      rw [e]
      refine a4.app ?_
      rw [a1]
      exact c2
def notA (x : Int) : Int → Bool := fun y => !(decide (y = x))
def sameN (xs : List Int) : Nat := if idx (notA (xs.headD 0)) xs < 0 then xs.length else (idx (notA (xs.headD 0)) xs).toNat
theorem sameN_ok {xs : List Int} (h : xs ≠ []) : 1 ≤ sameN xs ∧ sameN xs ≤ xs.length ∧ xs = List.replicate (sameN xs) (xs.headD 0) ++ xs.drop (sameN xs) := by
  have hx0 : 0 < xs.length := List.length_pos_iff.2 h
  have h0 : notA (xs.headD 0) xs[0] = false := by
    cases xs with
    | nil => exact absurd rfl h
    | cons y l => simp [notA]
  have key : ∀ m, m ≤ xs.length → (∀ j, (hj : j < m) → (hm : j < xs.length) → notA (xs.headD 0) xs[j] = false) → xs = List.replicate m (xs.headD 0) ++ xs.drop m := by
    intro m hm hj
    refine List.ext_getElem? (fun i => ?_)
    rcases Nat.lt_or_ge i m with hi | hi
    · rw [List.getElem?_append_left (by simpa using hi), List.getElem?_replicate, if_pos hi, List.getElem?_eq_getElem (by omega)]
      have := hj i hi (by omega)
      simp [notA] at this
      rw [this]
      cases xs with
      | nil => exact absurd rfl h
      | cons y l => rfl
    · rw [List.getElem?_append_right (by simpa using hi), List.length_replicate, List.getElem?_drop]
      congr 1
      omega
  unfold sameN
  unfold idx
  by_cases ha : xs.any (notA (xs.headD 0)) = true
  · rw [if_pos ha, if_neg (by omega), Int.toNat_natCast]
    have hlt : xs.findIdx (notA (xs.headD 0)) < xs.length := List.findIdx_lt_length.2 (by simpa using List.any_eq_true.1 ha)
    refine ⟨?_, Nat.le_of_lt hlt, key _ (Nat.le_of_lt hlt) (fun j hj hm => ?_)⟩
    · rcases Nat.eq_zero_or_pos (xs.findIdx (notA (xs.headD 0))) with e | e
      · have := List.findIdx_getElem (w := hlt)
        simp only [e] at this
        rw [h0] at this
        cases this
      · exact e
    · have := List.not_of_lt_findIdx hj
      simpa using this
  · rw [if_neg ha, if_pos (by omega)]
    refine ⟨by omega, Nat.le_refl _, key _ (Nat.le_refl _) (fun j _ hm => ?_)⟩
    cases hq : notA (xs.headD 0) xs[j] with
    | false => rfl
    | true => exact absurd (List.any_eq_true.2 ⟨_, List.getElem_mem hm, hq⟩) ha
def runsR (xs : List Int) : List Rn :=
  if h : xs.length = 0 ∨ sameN xs = 0 then [] else rowR (xs.headD 0) (sameN xs) ++ runsR (xs.drop (sameN xs))
termination_by xs.length
decreasing_by simp; omega
theorem runsR_nil : runsR [] = [] := by rw [runsR, dif_pos (.inl rfl)]
theorem runsR_more {xs : List Int} (h : xs ≠ []) : runsR xs = rowR (xs.headD 0) (sameN xs) ++ runsR (xs.drop (sameN xs)) := by
  rw [runsR, dif_neg]
  have := (sameN_ok h).1
  have := List.length_pos_iff.2 h
  omega
theorem runsR_ok : ∀ (m : Nat) (xs : List Int), xs.length ≤ m → (∀ z ∈ xs, 0 ≤ z ∧ z ≤ 15) → ∀ l : List Int, adds l (runsR xs) = l ++ xs ∧ RunsOk l (runsR xs)
  | 0, xs, hm, hz, l => by
    have : xs = [] := List.eq_nil_of_length_eq_zero (by omega)
    subst this
    rw [runsR_nil]
    exact ⟨by simp [adds], trivial⟩
  | m + 1, xs, hm, hz, l => by
    by_cases hx : xs = []
    · subst hx
      rw [runsR_nil]
      exact ⟨by simp [adds], trivial⟩
    · obtain ⟨s1, s2, s3⟩ := sameN_ok hx
      have hh : xs.headD 0 ∈ xs := by
        cases xs with
        | nil => exact absurd rfl hx
        | cons y l => exact List.mem_cons_self ..
      obtain ⟨a1, a2⟩ := rowR_ok (hz _ hh).1 (hz _ hh).2 s1 l
      obtain ⟨b1, b2⟩ := runsR_ok m (xs.drop (sameN xs)) (by simp; omega) (fun z hz2 => hz z (List.mem_of_mem_drop hz2)) (l ++ List.replicate (sameN xs) (xs.headD 0))
      rw [runsR_more hx]
      refine ⟨?_, a2.app ?_⟩
      · rw [adds_app, a1, b1, List.append_assoc, ← s3]
      · rw [a1]
        exact b2
end Go.Proofs.YtmmilchmnimjoaaGreat
/- row: n times a length, as symbols. -/
namespace Go.Proofs.YtmmilchmnimjoaaGreat
open Go.RowKit
set_option linter.unusedVariables false
set_option linter.unusedSimpArgs false
theorem info_run : (Tryz.prog.info? 191).map (fun i => (i.zero, i.size, i.bytes)) = some (some (.agg #[.int .i64 0, .int .i64 0]), 2, 16) := by kernel_rfl
structure RowSt (w wr : World) (bo bn : Nat) (L : List Rn) (A : Option Addr) (c m : Nat) : Prop where
  bo_ : Blk wr bo 170 #[.slice A L.length c]
  bn_ : Blk wr bn 3 #[.int .i64 (m : Nat)]
  own : wr.ownsRow 0 191 2 (.slice A L.length c) L.length (xcells L)
  chg : Chg NoS w wr
  go : w.heap.size ≤ bo
  gn : w.heap.size ≤ bn
  new : ∀ a, A = some a → w.heap.size ≤ a.block
theorem RowSt.snoc {w wr w2 : World} {bo bn : Nat} {L : List Rn} {A A2 : Option Addr} {c c2 m : Nat} {r : Rn} {o : Obj} (h : RowSt w wr bo bn L A c m)
    (hg : (wr.alloc o).grownBy w2 (Value.slice A L.length c).ownBlock) (ho : w2.ownsRow 0 191 2 (.slice A2 (L.length + 1) c2) (L.length + 1) (xcells L ++ encX r))
    (hat : (Value.slice A2 (L.length + 1) c2).ownBlock = (Value.slice A L.length c).ownBlock ∨ (Value.slice A2 (L.length + 1) c2).ownBlock = some (wr.alloc o).heap.size) :
    RowSt w (w2.setCell ⟨bo, 0, none⟩ (.slice A2 (L.length + 1) c2)) bo bn (L ++ [r]) A2 c2 m := by
  have hs := h.chg.size
  have hbo : Blk w2 bo 170 #[.slice A L.length c] := (h.bo_.alloc o).grown hg (fun e => own_ne_blk h.own h.bo_ (by decide) e.symm)
  have hbn : Blk w2 bn 3 #[.int .i64 (m : Nat)] := (h.bn_.alloc o).grown hg (fun e => own_ne_blk h.own h.bn_ (by decide) e.symm)
  have hne : (Value.slice A2 (L.length + 1) c2).ownBlock ≠ some bo := own_ne_blk ho hbo (by decide)
  have hob : bo ≠ bn := Blk.ne_ hbo hbn (by decide)
  refine ⟨?_, hbn.far hob.symm _, ?_, ?_, h.go, h.gn, grow_new h.new (by simp; omega) hat⟩
  · rw [List.length_append, List.length_singleton]
    simpa using hbo.set_ 0 (.slice A2 (L.length + 1) c2)
  · rw [List.length_append, List.length_singleton, xcells_app, show xcells [r] = encX r from by simp [xcells]]
    exact own_chg (S := fun k => k = bo) ho ((Chg.refl (fun k => k = bo) _).setCell (p := ⟨bo, 0, none⟩) (fun _ => rfl) _) (fun i hi e => hne (by rw [hi, e]))
  · exact (grow_chg h.chg h.new ((Chg.refl NoS _).alloc o) hg).setCell (p := ⟨bo, 0, none⟩) (fun e => by have := h.go; simp only at e; omega) _
theorem RowSt.left {w wr : World} {bo bn : Nat} {L : List Rn} {A : Option Addr} {c m : Nat} (h : RowSt w wr bo bn L A c m) (k : Nat) : RowSt w (wr.setCell ⟨bn, 0, none⟩ (.int .i64 (k : Nat))) bo bn L A c k := by
  have hne : (Value.slice A L.length c).ownBlock ≠ some bn := own_ne_blk h.own h.bn_ (by decide)
  have hob : bo ≠ bn := Blk.ne_ h.bo_ h.bn_ (by decide)
  refine ⟨h.bo_.far hob _, by simpa using h.bn_.set_ 0 (.int .i64 (k : Nat)), ?_, ?_, h.go, h.gn, h.new⟩
  · exact own_chg (S := fun k => k = bn) h.own ((Chg.refl (fun k => k = bn) _).setCell (p := ⟨bn, 0, none⟩) (fun _ => rfl) _) (fun i hi e => hne (by rw [hi, e]))
  · exact h.chg.setCell (p := ⟨bn, 0, none⟩) (fun e => by have := h.gn; simp only at e; omega) _
set_option maxHeartbeats 1000000 in
theorem many_any (s least most : Nat) (hs : s ≤ 100) (h1 : 1 ≤ least) (h2 : least ≤ most) (h3 : most ≤ 1000) (w w1 : World) (bo bn : Nat) (L : List Rn) (A : Option Addr) (c m : Nat) (h : RowSt w w1 bo bn L A c m) (hm : L.length + m ≤ 100000) :
    Calls Tryz.prog 153 #[.int .i64 (s : Nat), .int .i64 (least : Nat), .int .i64 (most : Nat), .pointer (some ⟨bn, 0, none⟩), .pointer (some ⟨bo, 0, none⟩)] w1 fun e w' =>
      e = .returned (.tuple #[]) ∧ ∃ A' c', RowSt w w' bo bn (L ++ (manyR s least most m).1) A' c' (manyR s least most m).2 := by
  obtain ⟨F, hF⟩ : ∃ F, F = L ++ (manyR s least most m).1 := ⟨_, rfl⟩
  obtain ⟨r, hr⟩ : ∃ r, r = (manyR s least most m).2 := ⟨_, rfl⟩
  rw [← hF, ← hr]
  have H := keepf h
  have HF := keepf hF.symm
  have HR := keepf hr.symm
  clear h hF hr
  obtain ⟨i0, hi, hz0, hz1, hz2⟩ := info_parts info_run
  go_enter Tryz.func153, Tryz.ntmps153
  go_wp2_with fail
  go_loopw [8] (fun v wr => ∃ (L2 : List Rn) (A2 : Option Addr) (c2 m2 : Nat), L2.length + m2 ≤ 100000 ∧ Hid (RowSt w wr bo bn L2 A2 c2 m2) ∧ Hid (L2 ++ (manyR s least most m2).1 = F) ∧ Hid ((manyR s least most m2).2 = r)) (fun _ wr => match wr.cell? ⟨bn, 0, none⟩ with | some v => (intOf v).toNat | none => 0)
  case atStart => exact ⟨L, A, c, m, hm, H.out, HF.out, HR.out⟩
  case round =>
    obtain ⟨L2, A2, c2, m2, hm2, H2, HF2, HR2⟩ := hrel
    have c0 := H2.out.bn_.cell 0
    have c1 := H2.out.bo_.cell 0
    have f0 := H2.out.bn_.frozen 0
    have f1 := H2.out.bo_.frozen 0
    simp at c0 c1
    obtain ⟨n2, hn2⟩ : ∃ n2, n2 = L2.length := ⟨_, rfl⟩
    rw [← hn2] at hm2 c1
    have HN := keepf hn2
    clear hn2
    by_cases hlt : least ≤ m2
    · have hmo : (least : Int) ≤ m2 := by omega
      go_upto_region 2 with fail
      obtain ⟨k, hk⟩ : ∃ k : Nat, k = min m2 most := ⟨_, rfl⟩
      have hk1 : (k : Int) = min (m2 : Int) most := by omega
      rw [← hk1]
      have hk2 : least ≤ k ∧ k ≤ m2 := by omega
      obtain ⟨v, hv⟩ : ∃ v : Nat, v = k - least := ⟨_, rfl⟩
      obtain ⟨d, hd⟩ : ∃ d : Nat, d = m2 - k := ⟨_, rfl⟩
      have hv1 : (k : Int) - least = v := by omega
      have hd1 : (m2 : Int) - k = d := by omega
      have hd2 : d < m2 ∧ n2 + 1 + d ≤ 100000 := by omega
      have hv2 : v ≤ 1000 := by omega
      have HMR := manyR_more (s := s) hlt h1 h2
      rw [← hk, ← hv, ← hd] at HMR
      have HMR := keepf HMR
      have HOWN := keepf (show wr.ownsRow 0 191 2 (.slice A2 n2 c2) n2 (xcells L2) by rw [HN.out]; exact H2.out.own)
      have hob : bo ≠ bn := Blk.ne_ H2.out.bo_ H2.out.bn_ (by decide)
      have HOB := keepf hob
      clear hk hk1 hv hd hmo hob hlt
      go_upto_region 3 with (at_builtin; refine wpList_append_src rfl (.tmp 15) (.tmp 21) 170 rfl 191 i0 _ 2 16 Tryz.underlying170 hi hz0 hz1 hz2 rfl (by decide) (.slice A2 n2 c2) n2 (xcells L2) rfl (own_chg (S := NoS) HOWN.out ((Chg.refl NoS _).alloc _) (fun _ _ h => h)) (some ⟨wr.heap.size, 0, none⟩) 1 1 (encX (s, v)) rfl (src_new #[.int .i64 (s : Nat), .int .i64 (v : Nat)] _ (by simp) rfl) (encX_one _) (by unfold maxLen; omega) (by omega) ?_
                             intro S2 w4 hown4 hgr4 hat4
                             obtain ⟨A3, c3, rfl, hA3⟩ := own_slice hown4
                             have hS := H2.out.snoc (r := (s, v)) (by rw [← HN.out]; exact hgr4) (by rw [← HN.out]; exact hown4) (by rw [← HN.out]; exact hat4)
                             rw [← HN.out] at hS
                             have g0 := ((H2.out.bo_.alloc (.cells #[.int .i64 (s : Nat), .int .i64 (v : Nat)] 191)).grown hgr4 (fun e => own_ne_blk H2.out.own H2.out.bo_ (by decide) (by rw [← HN.out]; exact e.symm)))
                             have g1 := g0.frozen 0
                             have g2 := g0.cell 0
                             simp at g2
                             have HS4 := keepf hS
                             clear hown4 hgr4 hat4 hA3 hS g0)
      obtain ⟨w5, hw5⟩ : ∃ w5, w5 = w4.setCell ⟨bo, 0, none⟩ (.slice A3 (n2 + 1) c3) := ⟨_, rfl⟩
      rw [← hw5] at HS4 ⊢
      have e0 := HS4.out.bn_.cell 0
      have e1 := HS4.out.bn_.frozen 0
      simp at e0
      have HL := keepf (HS4.out.left d)
      clear hw5 c0 c1 f0 f1 g1 g2
      go_wp2_with fail
      go_roundw
      case rel =>
        refine ⟨L2 ++ [(s, v)], A3, c3, d, ?_, HL.out, ?_, ?_⟩
        · rw [List.length_append, List.length_singleton, ← HN.out]
          omega
        · have := HF2.out
          rw [HMR.out] at this
          rw [List.append_assoc]
          exact this
        · have := HR2.out
          rw [HMR.out] at this
          exact this
      case measure =>
        have q0 := HL.out.bn_.cell 0
        have q1 := H2.out.bn_.cell 0
        simp at q0 q1
        rw [q0, q1]
        simp [intOf]
        omega
    · have hmo : ¬ (least : Int) ≤ m2 := by omega
      go_wp2_with fail
      go_end0
      have hl : m2 < least := by omega
      have e1 := HF2.out
      have e2 := HR2.out
      rw [manyR_less hl] at e1 e2
      simp only [List.append_nil] at e1
      subst e1 e2
      exact ⟨rfl, A2, c2, H2.out⟩
def RunsTo (w : World) (L : List Rn) (e : Ending) (w' : World) : Prop :=
  ∃ A c, e = .returned (.slice A L.length c) ∧ w'.ownsRow 0 191 2 (.slice A L.length c) L.length (xcells L) ∧ Chg NoS w w' ∧ ∀ a, A = some a → w.heap.size ≤ a.block
theorem manyR_len (s least most : Nat) (h1 : 1 ≤ least) (h2 : least ≤ most) : ∀ m n, n ≤ m → (manyR s least most n).1.length + (manyR s least most n).2 ≤ n
  | 0, n, h => by rw [manyR_less (by omega)]; simp
  | m + 1, n, h => by
    rcases Nat.lt_or_ge n least with h3 | h3
    · rw [manyR_less h3]; simp
    · rw [manyR_more h3 h1 h2]
      have := manyR_len s least most h1 h2 m (n - min n most) (by omega)
      simp only [List.length_cons]
      omega
set_option maxHeartbeats 1000000 in
set_option maxRecDepth 100000 in
theorem row_any (x n : Nat) (hx : x ≤ 15) (hn : 1 ≤ n) (hn2 : n ≤ 1000) (w : World) :
    Calls Tryz.prog 140 #[.int .i64 (x : Nat), .int .i64 (n : Nat)] w (RunsTo w (rowR (x : Nat) n)) := by
  have eg : ∀ args w, (callFunc 153 args).run Tryz.prog w = .ok (.enter 153 args) w := enters_of Tryz.func153 (by kernel_rfl) rfl
  have h0 : RowSt w ((w.alloc (.cells #[.int .i64 (n : Nat)] 3)).alloc (.cells #[.slice none 0 0] 170)) (w.heap.size + 1) w.heap.size [] none 0 n :=
    ⟨by have := Blk.new (w.alloc (.cells #[.int .i64 (n : Nat)] 3)) 170 #[.slice none 0 0]
        simpa using this, (Blk.new w _ _).alloc _, own_nil _ _ _ _, ((Chg.refl _ _).alloc _).alloc _, by omega, by omega, fun a h => by cases h⟩
  have H0 := keepf h0
  obtain ⟨i0, hi, hz0, hz1, hz2⟩ := info_parts info_run
  clear h0
  obtain ⟨F, hF⟩ : ∃ F, F = rowR (x : Nat) n := ⟨_, rfl⟩
  rw [← hF]
  have HF := keepf hF
  clear hF
  go_enter Tryz.func140, Tryz.ntmps140
  go_upto_if 9 with fail
  go_cut [] from 8 to 32 (fun wx => ∃ (L : List Rn) (A : Option Addr) (c m : Nat), L.length + m ≤ 1000 ∧ Hid (RowSt w wx (w.heap.size + 1) w.heap.size L A c m) ∧ Hid (L ++ List.replicate m (x, 0) = F))
  case first =>
    by_cases hx0 : x = 0
    · have d1 : ((x : Int) == 0) = true := by simp; omega
      have HM := keepf (many_any 18 11 138 (by omega) (by omega) (by omega) (by omega) w _ _ _ _ _ _ _ H0.out (by simp; omega))
      have hl1 := manyR_len 18 11 138 (by omega) (by omega) n n (Nat.le_refl _)
      have HX := keepf hx0
      obtain ⟨P, hP⟩ : ∃ P, P = manyR 18 11 138 n := ⟨_, rfl⟩
      rw [← hP] at hl1 HM
      have HP := keepf hP.symm
      clear hP
      clear hx0
      go_upto_region 5 with (go_at_fn 153; refine HM.out.mono ?_; rintro e w2 ⟨rfl, A2, c2, h2⟩; have H2 := keepf h2; clear h2)
      have HM2 := keepf (many_any 17 3 10 (by omega) (by omega) (by omega) (by omega) w _ _ _ _ _ _ _ H2.out (by simp; omega))
      have hl2 := manyR_len 17 3 10 (by omega) (by omega) P.2 P.2 (Nat.le_refl _)
      have e1 : F = P.1 ++ ((manyR 17 3 10 P.2).1 ++ List.replicate (manyR 17 3 10 P.2).2 (0, 0)) := by
        rw [HF.out, HX.out]
        unfold rowR
        rw [if_pos (show ((0 : Nat) : Int) = 0 from rfl), HP.out]
      generalize manyR 17 3 10 P.2 = Q at *
      have HE := keepf e1
      clear e1
      go_wp2_with (go_at_fn 153; refine HM2.out.mono ?_; rintro e w3 ⟨rfl, A3, c3, h3⟩; have H3 := keepf h3; clear h3)
      go_meet
      refine ⟨_, A3, c3, Q.2, ?_, H3.out, ?_⟩
      · simp; omega
      · show P.1 ++ Q.1 ++ List.replicate Q.2 (x, 0) = F
        rw [HE.out, HX.out, List.append_assoc]
    · have d1 : ((x : Int) == 0) = false := by simp; omega
      obtain ⟨w1, hw1⟩ : ∃ w1, w1 = (w.alloc (.cells #[.int .i64 (n : Nat)] 3)).alloc (.cells #[.slice none 0 0] 170) := ⟨_, rfl⟩
      rw [← hw1] at H0 ⊢
      have c0 := H0.out.bo_.cell 0
      have c1 := H0.out.bo_.frozen 0
      simp at c0
      have HOWN := keepf H0.out.own
      rw [show ([] : List Rn).length = 0 from rfl] at HOWN
      have HX := keepf hx0
      clear hw1 hx0
      go_upto_region 7 with (at_builtin; refine wpList_append_src rfl (.tmp 14) (.tmp 17) 170 rfl 191 i0 _ 2 16 Tryz.underlying170 hi hz0 hz1 hz2 rfl (by decide) (.slice none 0 0) 0 (xcells ([] : List Rn)) rfl (own_chg (S := NoS) HOWN.out ((Chg.refl NoS _).alloc _) (fun _ _ h => h)) (some ⟨w1.heap.size, 0, none⟩) 1 1 (encX (x, 0)) rfl (src_new #[.int .i64 (x : Nat), .int .i64 ((0 : Nat) : Int)] _ (by simp) rfl) (encX_one _) (by unfold maxLen; omega) (by omega) ?_; intro S2 w4 hown4 hgr4 hat4; obtain ⟨A3, c3, rfl, hA3⟩ := own_slice hown4; have hS : RowSt w (w4.setCell ⟨w.heap.size + 1, 0, none⟩ (.slice A3 1 c3)) (w.heap.size + 1) w.heap.size [(x, 0)] A3 c3 n := H0.out.snoc (r := (x, 0)) (by exact hgr4) (by exact hown4) (by exact hat4); have g0 := ((H0.out.bo_.alloc (.cells #[.int .i64 (x : Nat), .int .i64 ((0 : Nat) : Int)] 191)).grown hgr4 (fun e => own_ne_blk H0.out.own H0.out.bo_ (by decide) (by exact e.symm))); have g1 := g0.frozen 0; have g2 := g0.cell 0; simp at g2; have HS4 := keepf hS; clear hown4 hgr4 hat4 hA3 hS g0)
      obtain ⟨w5, hw5⟩ : ∃ w5, w5 = w4.setCell ⟨w.heap.size + 1, 0, none⟩ (.slice A3 1 c3) := ⟨_, rfl⟩
      rw [← hw5] at HS4 ⊢
      have e0 := HS4.out.bn_.cell 0
      have e1 := HS4.out.bn_.frozen 0
      simp at e0
      obtain ⟨d, hd⟩ : ∃ d : Nat, d = n - 1 := ⟨_, rfl⟩
      have hd1 : (n : Int) - 1 = d := by omega
      have HL := keepf (HS4.out.left d)
      have hd2 : d ≤ 999 := by omega
      have HM := keepf (many_any 16 3 6 (by omega) (by omega) (by omega) (by omega) w _ _ _ _ _ _ _ HL.out (by simp; omega))
      have hl1 := manyR_len 16 3 6 (by omega) (by omega) d d (Nat.le_refl _)
      have hp : F = (x, 0) :: ((manyR 16 3 6 d).1 ++ List.replicate (manyR 16 3 6 d).2 (x, 0)) := by
        rw [HF.out, hd]
        unfold rowR
        rw [if_neg (by have := HX.out; omega), Int.toNat_natCast]
      obtain ⟨P, hP⟩ : ∃ P, P = manyR 16 3 6 d := ⟨_, rfl⟩
      rw [← hP] at hl1 HM hp
      have HP := keepf hp
      clear hP hw5 c0 c1 g1 g2 hd hp
      go_wp2_with (go_at_fn 153; refine HM.out.mono ?_; rintro e w6 ⟨rfl, A6, c6, h6⟩; have H6 := keepf h6; clear h6)
      go_meet
      refine ⟨_, A6, c6, P.2, ?_, H6.out, ?_⟩
      · simp; omega
      · show [(x, 0)] ++ P.1 ++ List.replicate P.2 (x, 0) = F
        rw [HP.out, List.append_assoc]
        rfl
  case rest =>
    obtain ⟨L, A, c, m, hlm, H2, HF2⟩ := hcut
    have c0 := H2.out.bn_.cell 0
    simp at c0
    go_wp2_with fail
    go_loopw [24] (fun i wr => ∃ (j : Nat) (L2 : List Rn) (A2 : Option Addr) (c2 : Nat), j ≤ m ∧ i = .int .i64 (j : Nat) ∧ L2.length + (m - j) ≤ 1000 ∧ Hid (RowSt w wr (w.heap.size + 1) w.heap.size L2 A2 c2 m) ∧ Hid (L2 ++ List.replicate (m - j) (x, 0) = F)) (fun i _ => m - (intOf i).toNat)
    case atStart => exact ⟨0, L, A, c, Nat.zero_le _, rfl, by omega, H2.out, HF2.out⟩
    case round =>
      obtain ⟨j, L2, A2, c2, hj, rfl, hl2, H3, HF3⟩ := hrel
      have q0 := H3.out.bo_.cell 0
      have q1 := H3.out.bo_.frozen 0
      simp at q0
      obtain ⟨n2, hn2⟩ : ∃ n2, n2 = L2.length := ⟨_, rfl⟩
      rw [← hn2] at hl2 q0
      have HN := keepf hn2
      clear hn2 c0
      by_cases hlt : j < m
      · have HOWN := keepf (show wr.ownsRow 0 191 2 (.slice A2 n2 c2) n2 (xcells L2) by rw [HN.out]; exact H3.out.own)
        go_wp2_with (at_builtin; refine wpList_append_src rfl (.tmp 26) (.tmp 29) 170 rfl 191 i0 _ 2 16 Tryz.underlying170 hi hz0 hz1 hz2 rfl (by decide) (.slice A2 n2 c2) n2 (xcells L2) rfl (own_chg (S := NoS) HOWN.out ((Chg.refl NoS _).alloc _) (fun _ _ h => h)) (some ⟨wr.heap.size, 0, none⟩) 1 1 (encX (x, 0)) rfl (src_new #[.int .i64 (x : Nat), .int .i64 ((0 : Nat) : Int)] _ (by simp) rfl) (encX_one _) (by unfold maxLen; omega) (by omega) ?_; intro S2 w4 hown4 hgr4 hat4; obtain ⟨A3, c3, rfl, hA3⟩ := own_slice hown4; have hS := H3.out.snoc (r := (x, 0)) (by rw [← HN.out]; exact hgr4) (by rw [← HN.out]; exact hown4) (by rw [← HN.out]; exact hat4); rw [← HN.out] at hS; have g0 := ((H3.out.bo_.alloc (.cells #[.int .i64 (x : Nat), .int .i64 ((0 : Nat) : Int)] 191)).grown hgr4 (fun e => own_ne_blk H3.out.own H3.out.bo_ (by decide) (by rw [← HN.out]; exact e.symm))); have g1 := g0.frozen 0; have g2 := g0.cell 0; simp at g2; have HS4 := keepf hS; clear hown4 hgr4 hat4 hA3 hS g0)
        go_roundw
        case rel =>
          refine ⟨j + 1, L2 ++ [(x, 0)], A3, c3, by omega, by go_num, ?_, HS4.out, ?_⟩
          · rw [List.length_append, List.length_singleton, ← HN.out]
            omega
          · rw [List.append_assoc]
            have := HF3.out
            rw [show m - j = (m - (j + 1)) + 1 from by omega, List.replicate_succ] at this
            exact this
        case measure => simp [intOf]; omega
      · obtain rfl : j = m := by omega
        go_wp2_with fail
        go_ret
        have e1 := HF3.out
        rw [Nat.sub_self, List.replicate_zero, List.append_nil] at e1
        subst e1
        exact ⟨A2, c2, by rw [← HN.out]; rfl, H3.out.own, H3.out.chg, H3.out.new⟩
end Go.Proofs.YtmmilchmnimjoaaGreat
/- Slices cut out of slices of numbers, and of bytes. -/
namespace Go.Proofs.YtmmilchmnimjoaaGreat
open Go.RowKit
set_option linter.unusedVariables false
set_option linter.unusedSimpArgs false
def cutA (A : Option Addr) (lo cap : Nat) : Option Addr := if cap = lo then A else A.map (·.add (lo * 1))
theorem cutA_block {A : Option Addr} {lo cap : Nat} {ad : Addr} (h : cutA A lo cap = some ad) : ∃ b, A = some b ∧ b.block = ad.block := by
  unfold cutA at h
  split at h
  · exact ⟨ad, h, rfl⟩
  · rcases A with _ | b
    · cases h
    · simp only [Option.map_some, Option.some.injEq] at h
      subst h
      refine ⟨b, rfl, ?_⟩
      unfold Addr.add
      split <;> rfl
theorem cutA_zero (A : Option Addr) (cap : Nat) : cutA A 0 cap = A := by
  unfold cutA
  split
  · rfl
  · rcases A with _ | b
    · rfl
    · simp [Addr.add]
theorem add_add (a : Addr) (i j : Nat) : (a.add (i * 1)).add j = a.add (i + j) := by
  unfold Addr.add
  by_cases hi : i = 0
  · subst hi; simp
  · by_cases hj : j = 0
    · subst hj; simp [hi]
    · simp [hi, hj]; omega
theorem src_cut {w : World} {A : Option Addr} {n c lo m : Nat} {xs : List Value} (h : Src w 1 A n c xs) (hc : n ≤ c) (hm : lo + m ≤ n) : Src w 1 (cutA A lo c) m (c - lo) ((xs.drop lo).take m) := by
  have hl := h.1
  refine ⟨by simp; omega, fun e => ?_, fun ad e j u hu => ?_⟩
  · unfold cutA at e
    split at e
    · have := h.2.1 e; omega
    · rcases A with _ | b
      · have := h.2.1 rfl; omega
      · cases e
  · have hj : j < m := by
      have := (List.getElem?_eq_some_iff.1 hu).1
      simp at this
      omega
    rw [List.getElem?_take_of_lt hj, List.getElem?_drop] at hu
    unfold cutA at e
    rw [if_neg (by omega)] at e
    rcases A with _ | b
    · cases e
    · simp only [Option.map_some, Option.some.injEq] at e
      subst e
      rw [add_add]
      exact h.2.2 b rfl (lo + j) u hu
theorem sizeI (w : World) : (sizeOf (Tryz.prog.elem 63)).run Tryz.prog w = .ok 1 w := by go_simp
theorem sizeB (w : World) : (sizeOf (Tryz.prog.elem 22)).run Tryz.prog w = .ok 1 w := by go_simp
set_option maxRecDepth 100000 in
theorem fromI (A : Option Addr) (len cap lo : Nat) (h : lo ≤ len) (w : World) : (Instr.sliceAt 63 (.slice A len cap) (some (.int .i64 (lo : Nat))) none none).run Tryz.prog w = .ok (.slice (cutA A lo cap) (len - lo) (cap - lo)) w := by
  rw [run_sliceAt_slice w _ _ _ _ _ Tryz.underlying63, run_slice_l w _ A len cap Tryz.underlying63 .i64 (lo : Nat) (by omega) (by omega), sizeI]
  simp [Result.andThen, sliced, cutA]
set_option maxRecDepth 100000 in
theorem toI (A : Option Addr) (len cap hi : Nat) (h : hi ≤ cap) (w : World) : (Instr.sliceAt 63 (.slice A len cap) none (some (.int .i64 (hi : Nat))) none).run Tryz.prog w = .ok (.slice A hi cap) w := by
  rw [run_sliceAt_slice w _ _ _ _ _ Tryz.underlying63, run_slice_h w _ A len cap Tryz.underlying63 .i64 (hi : Nat) (by omega) (by omega), sizeI]
  simp [Result.andThen, sliced, Addr.add]
set_option maxRecDepth 100000 in
theorem fromB (A : Option Addr) (len cap lo : Nat) (h : lo ≤ len) (w : World) : (Instr.sliceAt 22 (.slice A len cap) (some (.int .i64 (lo : Nat))) none none).run Tryz.prog w = .ok (.slice (cutA A lo cap) (len - lo) (cap - lo)) w := by
  rw [run_sliceAt_slice w _ _ _ _ _ Tryz.underlying22, run_slice_l w _ A len cap Tryz.underlying22 .i64 (lo : Nat) (by omega) (by omega), sizeB]
  simp [Result.andThen, sliced, cutA]
set_option maxRecDepth 100000 in
theorem toB (A : Option Addr) (len cap hi : Nat) (h : hi ≤ cap) (w : World) : (Instr.sliceAt 22 (.slice A len cap) none (some (.int .i64 (hi : Nat))) none).run Tryz.prog w = .ok (.slice A hi cap) w := by
  rw [run_sliceAt_slice w _ _ _ _ _ Tryz.underlying22, run_slice_h w _ A len cap Tryz.underlying22 .i64 (hi : Nat) (by omega) (by omega), sizeB]
  simp [Result.andThen, sliced, Addr.add]
set_option maxRecDepth 100000 in
theorem midB (A : Option Addr) (len cap lo hi : Nat) (h : lo ≤ hi) (h2 : hi ≤ cap) (w : World) : (Instr.sliceAt 22 (.slice A len cap) (some (.int .i64 (lo : Nat))) (some (.int .i64 (hi : Nat))) none).run Tryz.prog w = .ok (.slice (cutA A lo cap) (hi - lo) (cap - lo)) w := by
  rw [run_sliceAt_slice w _ _ _ _ _ Tryz.underlying22, run_slice_lh w _ A len cap Tryz.underlying22 .i64 .i64 (lo : Nat) (hi : Nat) (by omega) (by omega) (by omega), sizeB]
  simp [Result.andThen, sliced, cutA]
end Go.Proofs.YtmmilchmnimjoaaGreat
/- alike, and Runs: lengths as symbols. -/
namespace Go.Proofs.YtmmilchmnimjoaaGreat
open Go.RowKit
set_option linter.unusedVariables false
set_option linter.unusedSimpArgs false
theorem ask_alike (b ab off n c : Nat) (x0 : Int) (xs : List Int) (hx : in64 xs) (hx0 : -9223372036854775808 ≤ x0 ∧ x0 ≤ 9223372036854775807) (hn : 0 < n) (w : World) (h1 : w.cell? ⟨b, 0, none⟩ = some (.slice (some ⟨ab, off, none⟩) n c)) (h2 : w.cell? ⟨ab, off, none⟩ = some (.int .i64 x0)) :
    AskI 152 #[.pointer (some ⟨b, 0, none⟩)] (notA x0) xs w := by
  intro y hy
  show Calls Tryz.prog 152 #[.int .i64 y, .pointer (some ⟨b, 0, none⟩)] w _
  have hn2 : (0 : Int) < n := by omega
  go_enter Tryz.func152, Tryz.ntmps152
  go_wp2_with fail
  go_ret
  exact ⟨by unfold notA; congr 2, rfl⟩
set_option maxRecDepth 100000 in
theorem alike_any (xs : List Int) (hne : xs ≠ []) (hb : in64 xs) (A : Option Addr) (c : Nat) (w : World) (hS : Src w 1 A xs.length c (icells xs)) (hL : xs.length ≤ 100000) :
    Calls Tryz.prog 139 #[.slice A xs.length c] w fun e w' => e = .returned (.int .i64 (sameN xs : Nat)) ∧ Chg NoS w w' := by
  have hl0 := List.length_pos_iff.2 hne
  obtain ⟨b, off, rfl, hc⟩ := hS.plain (by rw [icells_len]; omega)
  have h0 : xs[0]? = some (xs.headD 0) := by
    cases xs with
    | nil => exact absurd rfl hne
    | cons y l => rfl
  have cx := hc 0 _ (icells_get h0)
  rw [Nat.add_zero] at cx
  have hw1 := (Chg.refl NoS w).alloc (.cells #[.slice (some ⟨b, off, none⟩) xs.length c] 63)
  have hS1 := hS.below (w0 := w) hw1
  have cx1 : (w.alloc (.cells #[.slice (some ⟨b, off, none⟩) xs.length c] 63)).cell? ⟨b, off, none⟩ = some (.int .i64 (xs.headD 0)) := (hw1.cell (p := ⟨b, off, none⟩) (cell_lt cx) (fun h => h)).trans cx
  have eg : ∀ args w, (callFunc 152 args).run Tryz.prog w = .ok (.enter 152 args) w := enters_of Tryz.func152 (by kernel_rfl) rfl
  have hh : xs.headD 0 ∈ xs := List.mem_of_getElem? h0
  have HI := keepf (indexI_any _ #[.pointer (some ⟨w.heap.size, 0, none⟩)] eg (notA (xs.headD 0)) xs (some ⟨b, off, none⟩) c _ hS1 (by omega)
    (ask_alike w.heap.size b off xs.length c (xs.headD 0) xs hb (hb _ hh) hl0 _ (cellNew rfl rfl) cx1))
  have hsn : (sameN xs : Int) = if idx (notA (xs.headD 0)) xs < 0 then (xs.length : Int) else idx (notA (xs.headD 0)) xs := by
    unfold sameN
    split <;> omega
  obtain ⟨r, hr⟩ : ∃ r, r = idx (notA (xs.headD 0)) xs := ⟨_, rfl⟩
  rw [← hr] at HI hsn
  obtain ⟨n, hn⟩ : ∃ n, n = xs.length := ⟨_, rfl⟩
  rw [← hn] at HI hsn hL ⊢
  have HSN := keepf hsn
  have HC := keepf hw1
  rw [← hn] at HC
  clear hr hn hsn hc cx hw1 hS1 cx1 eg hh hS hne hl0 h0 hb
  by_cases h1 : r < 0
  · have d1 : decide (r < 0) = true := by simpa using h1
    have HS2 := HSN.out
    rw [if_pos h1] at HS2
    have HS2 := keepf HS2
    go_enter Tryz.func139, Tryz.ntmps139
    go_wp2_with (go_at_call 151; refine HI.out.mono ?_; rintro e w' ⟨rfl, rfl⟩)
    go_ret
    exact ⟨by rw [HS2.out]; rfl, HC.out⟩
  · have d1 : decide (r < 0) = false := by simpa using h1
    have HS2 := HSN.out
    rw [if_neg h1] at HS2
    have HS2 := keepf HS2
    go_enter Tryz.func139, Tryz.ntmps139
    go_wp2_with (go_at_call 151; refine HI.out.mono ?_; rintro e w' ⟨rfl, rfl⟩)
    go_ret
    exact ⟨by rw [HS2.out]; rfl, HC.out⟩
theorem ask_runs (xs : List Int) (hx : in64 xs) (w : World) : AskI 138 #[] (fun n => decide (n < 0 ∨ 15 < n)) xs w := by
  intro y hy
  have hy2 := hx y hy
  show Calls Tryz.prog 138 #[.int .i64 y] w _
  by_cases h1 : y < 0
  · have d1 : decide (y < 0) = true := by simpa using h1
    go_enter Tryz.func138, Tryz.ntmps138
    go_wp2_with fail
    go_ret
    exact ⟨by simp [h1], rfl⟩
  · have d1 : decide (y < 0) = false := by simpa using h1
    go_enter Tryz.func138, Tryz.ntmps138
    go_wp2_with fail
    go_ret
    exact ⟨by simp [h1], rfl⟩
def RunsMay (xs : List Int) : Prop := xs.length ≤ 316 ∧ ∀ z ∈ xs, 0 ≤ z ∧ z ≤ 15
theorem rowR_len {x : Int} (h0 : 0 ≤ x) (h1 : x ≤ 15) {n : Nat} (hn : 1 ≤ n) : (rowR x n).length ≤ n := by
  have h := adds_len (rowR x n) []
  rw [(rowR_ok h0 h1 hn []).1] at h
  simpa using h
theorem icells_drop (xs : List Int) (k : Nat) : icells (xs.drop k) = (icells xs).drop k := by simp [icells]
set_option maxHeartbeats 1000000 in
set_option maxRecDepth 100000 in
theorem runs_ok (xs : List Int) (A : Option Addr) (c : Nat) (w : World) (hS : Src w 1 A xs.length c (icells xs)) (hc : xs.length ≤ c) (hM : RunsMay xs) :
    Calls Tryz.prog 116 #[.slice A xs.length c] w (RunsTo w (runsR xs)) := by
  obtain ⟨h1, hz⟩ := hM
  have hb : in64 xs := fun z hz2 => by have := hz z hz2; omega
  have d1 : decide ((316 : Int) < xs.length) = false := by simp; omega
  have d2 : decide (316 < xs.length) = false := by simp; omega
  have eg : ∀ args w, (callFunc 138 args).run Tryz.prog w = .ok (.enter 138 args) w := enters_of Tryz.func138 (by kernel_rfl) rfl
  have HC := containsI_any _ #[] eg _ xs A c w hS (by omega) (ask_runs xs hb w)
  have ha : xs.any (fun n => decide (n < 0 ∨ 15 < n)) = false := by
    refine Bool.eq_false_iff.2 (fun h => ?_)
    obtain ⟨z, hz2, hz3⟩ := List.any_eq_true.1 h
    have := hz z hz2
    simp at hz3
    omega
  rw [ha] at HC
  have HC := keepf HC
  have HZ := keepf hz
  have HS := keepf hS
  obtain ⟨n, hn⟩ : ∃ n, n = xs.length := ⟨_, rfl⟩
  have HN := keepf hn
  rw [← hn] at h1 hc d1 d2 HC HS ⊢
  obtain ⟨i0, hi, hz0, hz1, hz2⟩ := info_parts info_run
  clear hS ha eg hz hb hn
  go_enter Tryz.func116, Tryz.ntmps116
  go_wp2_with (go_at_call 137; refine HC.out.mono ?_; rintro e w' ⟨rfl, rfl⟩)
  go_loopw [0, 3] (fun va vo wr => ∃ (j : Nat) (L : List Rn) (A1 A2 : Option Addr) (c1 c2 : Nat), j ≤ n ∧ va = .slice A1 (n - j) c1 ∧ n - j ≤ c1 ∧ vo = .slice A2 L.length c2 ∧ L.length ≤ j ∧
    Hid (Src w 1 A1 (n - j) c1 (icells (xs.drop j))) ∧ Hid (wr.ownsRow 0 191 2 (.slice A2 L.length c2) L.length (xcells L)) ∧ Hid (Chg NoS w wr) ∧ Hid (∀ a, A2 = some a → w.heap.size ≤ a.block) ∧ Hid (L ++ runsR (xs.drop j) = runsR xs)) (fun va _ _ => match va with | .slice _ k _ => k | _ => 0)
  case atStart => exact ⟨0, [], A, none, c, 0, Nat.zero_le _, rfl, hc, rfl, Nat.zero_le _, HS.out, own_nil _ _ _ _, Chg.refl _ _, (fun a h => by cases h), rfl⟩
  case round =>
    obtain ⟨j, L, A1, A2, c1, c2, hj, rfl, hc1, rfl, hLj, HS1, HO, HCH, HNEW, HE⟩ := hrel
    obtain ⟨k, hk⟩ : ∃ k, k = n - j := ⟨_, rfl⟩
    rw [← hk] at HS1 hc1 ⊢
    obtain ⟨q, hq⟩ : ∃ q, q = L.length := ⟨_, rfl⟩
    have HQ := keepf hq
    have HK := keepf hk
    rw [← hq] at hLj HO ⊢
    clear hq hk
    by_cases hlt : 0 < k
    · have hkn : k ≤ 316 := by have := HK.out; omega
      obtain ⟨ys, hys⟩ : ∃ ys, ys = xs.drop j := ⟨_, rfl⟩
      have hyl : ys.length = k := by rw [hys, List.length_drop, ← HN.out, HK.out]
      have hyz : ∀ z ∈ ys, 0 ≤ z ∧ z ≤ 15 := fun z hz => HZ.out z (List.mem_of_mem_drop (by rw [← hys]; exact hz))
      have hyne : ys ≠ [] := List.length_pos_iff.1 (by omega)
      rw [← hys] at HS1 HE
      have hS1 : Src wr 1 A1 ys.length c1 (icells ys) := by rw [hyl]; exact HS1.out.below (w0 := w) HCH.out
      have HAL := keepf (alike_any ys hyne (fun z hz => by have := hyz z hz; omega) A1 c1 wr hS1 (by omega))
      obtain ⟨s1, s2, s3⟩ := sameN_ok hyne
      obtain ⟨y0, hy0⟩ : ∃ y0 : Nat, ys.headD 0 = (y0 : Int) := ⟨(ys.headD 0).toNat, by
        cases ys with
        | nil => exact absurd rfl hyne
        | cons y l => have := hyz y (List.mem_cons_self ..); simp; omega⟩
      have hy15 : y0 ≤ 15 := by
        cases ys with
        | nil => exact absurd rfl hyne
        | cons y l => have := hyz y (List.mem_cons_self ..); simp at hy0; omega
      have hRE := runsR_more hyne
      rw [hy0] at hRE
      obtain ⟨b, off, rfl, hc⟩ := hS1.plain (by rw [icells_len]; omega)
      have hc0 := hc 0 _ (icells_get (show ys[0]? = some (y0 : Int) by
        cases ys with
        | nil => exact absurd rfl hyne
        | cons y l => simp at hy0; simp [hy0]))
      rw [Nat.add_zero] at hc0
      obtain ⟨sm, hsm⟩ : ∃ sm, sm = sameN ys := ⟨_, rfl⟩
      rw [← hsm] at HAL s1 s2 hRE
      rw [hyl] at HAL s2
      have HRL := rowR_len (x := (y0 : Int)) (by omega) (by omega) s1
      have HROW := keepf (row_any y0 sm hy15 s1 (by omega))
      obtain ⟨R, hR⟩ : ∃ R, R = rowR (y0 : Int) sm := ⟨_, rfl⟩
      rw [← hR] at HRL HROW hRE
      have HRE := keepf hRE
      have HY := keepf hys
      have HC0 := keepf hc0
      have hs1 := fun W => fromI (some ⟨b, off, none⟩) k c1 sm s2 W
      have hk1 : (0 : Int) < k := by omega
      clear hys hyl hyz hyne hS1 s3 hy0 hc hc0 hsm hR hRE
      go_upto_region 6 with (go_at_call 139; refine HAL.out.mono ?_; rintro e w1 ⟨rfl, hc1⟩; have e0 := (hc1.cell (p := ⟨b, off, none⟩) (cell_lt HC0.out) (fun h => h)).trans HC0.out; have HC1 := keepf hc1; clear hc1)
      go_upto_region 7 with (first
        | (go_at_call 140; refine (HROW.out _).mono ?_; rintro e w2 ⟨A3, c3, rfl, ho3, hc3, hn3⟩; have HO3 := keepf ho3; have HC3 := keepf (HC1.out.trans hc3 (fun _ _ h => h)); have HN3 := keepf hn3; clear ho3 hc3 hn3)
        | (at_builtin; refine wpList_append_src rfl (.tmp 17) (.tmp 22) 170 rfl 191 i0 _ 2 16 Tryz.underlying170 hi hz0 hz1 hz2 rfl (by decide) (.slice A2 q c2) q (xcells L) rfl (own_chg (S := NoS) HO.out HC3.out (fun _ _ h => h)) A3 R.length c3 (xcells R) rfl (src_own HO3.out) (xcells_one _) (by unfold maxLen; omega) (by omega) ?_; intro S4 w4 hown4 hgr4 hat4; obtain ⟨A4, c4, rfl, hA4⟩ := own_slice hown4; have HO4 := keepf hown4; have HG4 := keepf hgr4; have HA4 := keepf hat4; clear hown4 hgr4 hat4 hA4))
      go_wp2_with fail
      go_roundw
      case rel =>
        have hch4 : Chg NoS w w4 := grow_chg HCH.out HNEW.out HC3.out HG4.out
        have hs := HCH.out.size
        have hs3 := HC3.out.size
        have hk := HK.out
        refine ⟨j + sm, L ++ R, cutA (some ⟨b, off, none⟩) sm c1, A4, c1 - sm, c4, by omega, by rw [show n - (j + sm) = k - sm from by omega], by omega, by rw [List.length_append, ← HQ.out], by rw [List.length_append, ← HQ.out]; omega, ?_, ?_, hch4, grow_new HNEW.out (by omega) HA4.out, ?_⟩
        · have h5 := src_cut HS1.out hc1 (show sm + (k - sm) ≤ k by omega)
          rw [show n - (j + sm) = k - sm from by omega]
          rw [← icells_drop, HY.out, List.drop_drop, List.take_of_length_le (by rw [icells_len, List.length_drop]; have := HN.out; omega)] at h5
          exact h5
        · rw [List.length_append, ← HQ.out, xcells_app]
          exact HO4.out
        · have := HE.out
          rw [HRE.out, HY.out, List.drop_drop] at this
          rw [List.append_assoc]
          exact this
      case measure => simp [intOf]; omega
    · obtain rfl : k = 0 := by omega
      go_wp2_with fail
      go_ret
      have e1 := HE.out
      rw [List.drop_eq_nil_of_le (by have := HK.out; have := HN.out; omega), runsR_nil, List.append_nil] at e1
      subst e1
      exact ⟨A2, c2, by rw [← HQ.out]; rfl, by rw [← HQ.out]; exact HO.out, HCH.out, HNEW.out⟩
end Go.Proofs.YtmmilchmnimjoaaGreat
