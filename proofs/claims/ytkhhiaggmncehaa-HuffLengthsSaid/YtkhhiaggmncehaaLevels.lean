/- levels: the nodes of each depth. -/
import Derived.Test.YtkhhiaggmncehaaMerge
namespace Go.Proofs.Ytkhhiaggmncehaa
open Go.RowKit
set_option linter.unusedVariables false
set_option linter.unusedSimpArgs false

/-- The nodes of level k above symbols S. -/
def levelOf (S : List Nd) : Nat → List Nd
  | 0 => S
  | k + 1 => mergeOf S (pairsOf (levelOf S k))
theorem pairsOf_len (L : List Nd) : (pairsOf L).length = L.length / 2 := pairsTo_len _ _
theorem levelOf_le (S : List Nd) (k : Nat) : (levelOf S k).length ≤ 2 * S.length := by
  induction k with
  | zero => simp [levelOf]; omega
  | succ k ih => rw [levelOf, mergeOf_len, pairsOf_len]; omega
theorem mergeOf_mem (x : Nd) : ∀ a b : List Nd, x ∈ mergeOf a b ↔ x ∈ a ∨ x ∈ b
  | [], b => by rw [mergeOf_nil_left]; simp
  | z :: a, [] => by rw [mergeOf_nil_right]; simp
  | z :: a, y :: b => by
    by_cases h : y.1 < z.1
    · rw [mergeOf_lt h, List.mem_cons, mergeOf_mem x (z :: a) b]; simp only [List.mem_cons]
      constructor
      · rintro (h | h | h)
        · exact .inr (.inl h)
        · exact .inl h
        · exact .inr (.inr h)
      · rintro (h | h | h)
        · exact .inr (.inl h)
        · exact .inl h
        · exact .inr (.inr h)
    · rw [mergeOf_ge h, List.mem_cons, mergeOf_mem x a (y :: b)]; simp only [List.mem_cons]
      constructor
      · rintro (h | h | h)
        · exact .inl (.inl h)
        · exact .inl (.inr h)
        · exact .inr h
      · rintro ((h | h) | h)
        · exact .inl h
        · exact .inr (.inl h)
        · exact .inr (.inr h)
termination_by a b => a.length + b.length
theorem pairsTo_mem (L : List Nd) (x : Nd) : ∀ j, x ∈ pairsTo L j → ∃ i, i < j ∧ x = ((L.getD (2 * i) (0, false)).1 + (L.getD (2 * i + 1) (0, false)).1, true)
  | 0, h => by cases h
  | j + 1, h => by
    rw [pairsTo, List.mem_append, List.mem_singleton] at h
    rcases h with h | h
    · obtain ⟨i, hi, e⟩ := pairsTo_mem L x j h
      exact ⟨i, by omega, e⟩
    · exact ⟨j, by omega, h⟩
theorem pairsOf_bound {L : List Nd} {M : Int} (h : ∀ x ∈ L, 0 ≤ x.1 ∧ x.1 ≤ M) : ∀ x ∈ pairsOf L, 0 ≤ x.1 ∧ x.1 ≤ 2 * M := by
  intro x hx
  obtain ⟨i, hi, rfl⟩ := pairsTo_mem L x _ hx
  have e : ∀ j, j < L.length → 0 ≤ (L.getD j (0, false)).1 ∧ (L.getD j (0, false)).1 ≤ M := fun j hj => by
    rw [List.getD_eq_getElem?_getD, List.getElem?_eq_getElem hj]
    exact h _ (List.getElem_mem hj)
  have e1 := e (2 * i) (by omega)
  have e2 := e (2 * i + 1) (by omega)
  exact ⟨by show 0 ≤ _ + _; omega, by show _ + _ ≤ _; omega⟩
theorem levelOf_bound {S : List Nd} {M : Int} (hM : 0 ≤ M) (h : ∀ x ∈ S, 0 ≤ x.1 ∧ x.1 ≤ M) (k : Nat) : ∀ x ∈ levelOf S k, 0 ≤ x.1 ∧ x.1 ≤ 2 ^ k * M := by
  induction k with
  | zero => simpa [levelOf] using h
  | succ k ih =>
    intro x hx
    rw [levelOf, mergeOf_mem] at hx
    have h2 : (1 : Int) ≤ 2 ^ k := by
      have h4 := Nat.one_le_two_pow (n := k)
      have h5 : ((2 ^ k : Nat) : Int) = 2 ^ k := by simp
      omega
    have e : (2 : Int) ^ (k + 1) * M = 2 * (2 ^ k * M) := by rw [Int.pow_succ, Int.mul_comm (2 ^ k) 2, Int.mul_assoc]
    rw [e]
    have h3 : M ≤ 2 ^ k * M := by have := Int.mul_le_mul_of_nonneg_right h2 hM; rwa [Int.one_mul] at this
    rcases hx with hx | hx
    · have := h x hx; omega
    · exact pairsOf_bound ih x hx

theorem made_nodes (n : Nat) : (madeCells (Value.agg #[.int .i64 0, .bool false]).cells (n * 2)).toList = ncells (List.replicate n (0, false)) := by
  have e : (Value.agg #[Value.int .i64 0, Value.bool false]).cells = #[Value.int .i64 0, Value.bool false] := rfl
  rw [e]
  induction n with
  | zero => simp [madeCells, ncells]
  | succ n ih =>
    have h1 : (madeCells #[Value.int .i64 0, Value.bool false] ((n + 1) * 2)).toList = (madeCells #[Value.int .i64 0, Value.bool false] (n * 2)).toList ++ [.int .i64 0, .bool false] := by
      have e2 : (n + 1) * 2 = n * 2 + 1 + 1 := by omega
      have m1 : n * 2 % 2 = 0 := by omega
      have m2 : (n * 2 + 1) % 2 = 1 := by omega
      simp [madeCells, e2, List.range_succ, m1, m2]
    rw [h1, ih, List.replicate_succ', ncells_app]
    rfl

theorem ncells_set (D : List Nd) (i : Nat) (z : Int) (hi : i < D.length) : (ncells D).set (i * 2) (.int .i64 z) = ncells (D.set i (z, (D.getD i (0, false)).2)) := by
  induction D generalizing i with
  | nil => simp at hi
  | cons p D ih =>
    rcases i with _ | i
    · rfl
    · have e : (i + 1) * 2 = i * 2 + 1 + 1 := by omega
      rw [e]
      have h1 := ih i (by simpa using hi)
      show Value.int .i64 p.1 :: Value.bool p.2 :: (ncells D).set (i * 2) _ = _
      rw [h1]
      rfl

/-- The row within the first loop: k symbols are set. -/
def upTo (S : List Nd) (k : Nat) : List Nd := S.take k ++ List.replicate (S.length - k) (0, false)
theorem upTo_len (S : List Nd) (k : Nat) (hk : k ≤ S.length) : (upTo S k).length = S.length := by simp [upTo]; omega
theorem upTo_set (S : List Nd) (k : Nat) (x : Nd) (h : S[k]? = some x) : (upTo S k).set k x = upTo S (k + 1) := by
  have hk : k < S.length := (List.getElem?_eq_some_iff.1 h).1
  apply List.ext_getElem?
  intro i
  have hl : (S.take k).length = k := by simp; omega
  have hl2 : (S.take (k + 1)).length = k + 1 := by simp; omega
  unfold upTo
  rw [List.getElem?_set]
  by_cases h1 : k = i
  · subst h1
    rw [if_pos rfl, if_pos (by simp; omega), List.getElem?_append_left (by omega), List.getElem?_take, if_pos (by omega), h]
  · rw [if_neg h1]
    by_cases h2 : i < k
    · rw [List.getElem?_append_left (by omega), List.getElem?_append_left (by omega), List.getElem?_take, List.getElem?_take, if_pos h2, if_pos (by omega)]
    · rw [List.getElem?_append_right (by omega), List.getElem?_append_right (by omega), hl, hl2, List.getElem?_replicate, List.getElem?_replicate]
      by_cases h3 : i < S.length
      · rw [if_pos (by omega), if_pos (by omega)]
      · rw [if_neg (by omega), if_neg (by omega)]
theorem upTo_at (S : List Nd) (k : Nat) (hk : k < S.length) : (upTo S k).getD k (0, false) = (0, false) := by
  have hl : (S.take k).length = k := by simp; omega
  rw [List.getD_eq_getElem?_getD]
  unfold upTo
  rw [List.getElem?_append_right (by omega), hl, List.getElem?_replicate, if_pos (by omega)]
  rfl

/-- The levels that a row of slices holds. -/
structure LevsAt (w0 w : World) (S : List Nd) (A : Option Addr) (c : Nat) (Ls : List Sl) : Prop where
  o : w.ownsRow 0 93 1 (.slice A Ls.length c) Ls.length (Ls.map slv)
  l : ∀ j x, Ls[j]? = some x → OwnN w x.1 x.2.1 x.2.2 ∧ x.2.2 = levelOf S j
  c : Chg NoS w0 w
  f : ∀ a, A = some a → w0.heap.size ≤ a.block
def LevTo (w : World) (S : List Nd) (most : Nat) (e : Ending) (w' : World) : Prop :=
  ∃ A c Ls, e = .returned (.slice A Ls.length c) ∧ Ls.length = most ∧ LevsAt w w' S A c Ls

theorem own_ne_own {w : World} {b1 b2 : Nat} {e1 e2 : TypeId} {s1 s2 n1 n2 : Nat} {v1 v2 : Value} {xs1 xs2 : List Value} (h1 : w.ownsRow b1 e1 s1 v1 n1 xs1) (h2 : w.ownsRow b2 e2 s2 v2 n2 xs2) (hne : e1 ≠ e2) (g : Nat) (hg : v1.ownBlock = some g) : v2.ownBlock ≠ some g := by
  rcases h1.2 with ⟨rfl, _⟩ | ⟨g1, cap1, cur1, rfl, _, hh1, _⟩
  · simp [Value.ownBlock] at hg
  · have e : g1 = g := by simpa [Value.ownBlock] using hg
    subst e
    exact own_ne_blk h2 (show Blk w g1 e1 cur1 from hh1) (Ne.symm hne)

theorem LevsAt.snoc {w0 wr w4 w5 : World} {S : List Nd} {A A5 : Option Addr} {c c5 : Nat} {Ls : List Sl} {o : Obj} {x : Sl} (h : LevsAt w0 wr S A c Ls) (hc4 : Chg NoS wr w4) (hx : OwnN w4 x.1 x.2.1 x.2.2) (hxl : x.2.2 = levelOf S Ls.length)
    (hgr : (w4.alloc o).grownBy w5 (Value.slice A Ls.length c).ownBlock) (hown : w5.ownsRow 0 93 1 (.slice A5 (Ls.length + 1) c5) (Ls.length + 1) (Ls.map slv ++ [slv x]))
    (hat : (Value.slice A5 (Ls.length + 1) c5).ownBlock = (Value.slice A Ls.length c).ownBlock ∨ (Value.slice A5 (Ls.length + 1) c5).ownBlock = some (w4.alloc o).heap.size) : LevsAt w0 w5 S A5 c5 (Ls ++ [x]) := by
  have ho4 := own_chg (S := NoS) h.o hc4 (fun _ _ h => h)
  have hfr : ∀ i, (Value.slice A Ls.length c).ownBlock = some i → w0.heap.size ≤ i := by
    intro i hi
    rcases A with _ | a2
    · simp [Value.ownBlock] at hi
    · have := h.f a2 rfl
      simp [Value.ownBlock] at hi
      omega
  have hk : ∀ {A' : Option Addr} {c' : Nat} {L' : List Nd}, OwnN w4 A' c' L' → OwnN w5 A' c' L' := fun {A' c' L'} h1 => by
    refine own_chg (S := fun i => (Value.slice A Ls.length c).ownBlock = some i) h1 (((Chg.refl _ w4).alloc o).grown hgr (fun i hi _ => hi)) (fun g hg e => ?_)
    exact own_ne_own h1 ho4 (by decide) g hg e
  have hc := h.c.trans hc4 (fun _ _ h => h)
  refine ⟨by rw [List.length_append, List.map_append]; exact hown, fun j y hy => ?_, (hc.alloc o).grown hgr (fun i hi hlt => by have := hfr i hi; omega), ?_⟩
  · rcases Nat.lt_or_ge j Ls.length with hj | hj
    · rw [List.getElem?_append_left hj] at hy
      have h1 := h.l j y hy
      exact ⟨hk (own_chg (S := NoS) h1.1 hc4 (fun _ _ h => h)), h1.2⟩
    · rw [List.getElem?_append_right hj] at hy
      have hj2 : j = Ls.length := by
        have := (List.getElem?_eq_some_iff.1 hy).1
        simp at this
        omega
      subst hj2
      simp at hy
      subst hy
      exact ⟨hk hx, hxl⟩
  · rintro a rfl
    have hs := hc.size
    rcases hat with h3 | h3
    · exact hfr _ h3.symm
    · have h4 : a.block = w4.heap.size + 1 := by simpa [Value.ownBlock] using h3
      omega

theorem info_nodes : (Try.prog.info? 93).map (fun i => (i.zero, i.size, i.bytes)) = some (some (.slice none 0 0), 1, 24) := by kernel_rfl

theorem own_cap {w : World} {A : Option Addr} {c : Nat} {L : List Nd} (h : OwnN w A c L) : L.length ≤ c := by
  rcases h.2 with ⟨h1, h2⟩ | ⟨g1, cap1, cur1, h1, _, _, h2, _⟩
  · omega
  · injection h1 with _ _ h3; omega
/-- The nodes of symbols. -/
def leaves (cs d : List Int) : List Nd := d.map (fun x => (keyOf cs x, false))

set_option maxHeartbeats 4000000 in
set_option maxRecDepth 100000 in
theorem levels_any (cs d : List Int) (Ac Ad : Option Addr) (cc cd most : Nat) (w : World) (hc : Src w 1 Ac cs.length cc (icells cs)) (hd : Src w 1 Ad d.length cd (icells d)) (h1 : 1 ≤ d.length) (hL : d.length ≤ 1000) (hG : Good cs.length d) (hk : ∀ z ∈ cs, 0 ≤ z ∧ z ≤ 2147483647) (hm : 1 ≤ most) (hm2 : most ≤ 15) :
    Calls Try.prog 40 #[.slice Ac cs.length cc, .slice Ad d.length cd, .int .i64 most] w (LevTo w (leaves cs d) most) := by
  obtain ⟨i0, hi, hz0, hz1, hz2⟩ := info_parts info_node
  obtain ⟨bd, od, rfl, hcd⟩ := hd.plain (by rw [icells_len]; omega)
  have hcs : 1 ≤ cs.length := by have := (hG.get 0 (by omega)); omega
  obtain ⟨bc, oc, rfl, hcc⟩ := hc.plain (by rw [icells_len]; omega)
  have HCD := keepf hcd
  have HCC := keepf hcc
  have HGD := keepf hG
  have HK := keepf hk
  obtain ⟨n, hn⟩ : ∃ n, n = d.length := ⟨_, rfl⟩
  obtain ⟨nc, hnc⟩ : ∃ nc, nc = cs.length := ⟨_, rfl⟩
  have HN := keepf hn
  have HNC := keepf hnc
  rw [← hn] at h1 hL ⊢
  rw [← hnc] at hcs ⊢
  have HSL : Hid ((leaves cs d).length = n) := by show _ = _; simp [leaves, hn]
  clear hn hnc hG hk hcd hcc hc hd
  go_enter Try.func40, Try.ntmps40
  go_wp2_with (first
    | (at_make; go_loud (refine wpList_make_full _ rfl (.tmp 12) (.tmp 12) 93 rfl 0 95 i0 (.agg #[.int .i64 0, .bool false]) 2 Try.underlying93 hi hz0 hz1 .i64 .i64 _ _ n rfl rfl rfl rfl (by rw [hz2]; omega) (by unfold maxLen; omega) (Nat.zero_le _) ?_); intro w2 hown2 hgr; rw [made_nodes] at hown2; have HO2 := keepf hown2; have HG2 := keepf hgr; clear hown2 hgr))
  go_loopw [16] (fun v wr => ∃ k : Nat, k ≤ n ∧ v = .int .i64 k ∧ Hid (wr.ownsRow 0 95 2 (.slice (some ⟨w.heap.size, 0, none⟩) n n) n (ncells (upTo (leaves cs d) k))) ∧ Hid (Chg NoS w wr)) (fun v _ => n - (intOf v).toNat)
  case atStart =>
    refine ⟨0, Nat.zero_le _, rfl, keepf ?_, keepf ((Chg.refl NoS w).grown HG2.out (fun _ e _ => by cases e))⟩
    have h2 := HO2.out
    have e : upTo (leaves cs d) 0 = List.replicate n (0, false) := by unfold upTo; rw [HSL.out]; simp
    rw [e]
    exact h2
  case round =>
    obtain ⟨k, hk, rfl, HO, HC1⟩ := hrel
    by_cases hlt : k < n
    · obtain ⟨u, hu⟩ : ∃ u, d[k]? = some u := ⟨_, List.getElem?_eq_getElem (by have := HN.out; omega)⟩
      have hug := HGD.out u (List.mem_of_getElem? hu)
      obtain ⟨u, rfl⟩ := Int.eq_ofNat_of_zero_le hug.1
      have hu2 : u < nc := by have := HNC.out; omega
      obtain ⟨z, hz⟩ : ∃ z, cs[u]? = some z := ⟨_, List.getElem?_eq_getElem (by have := HNC.out; omega)⟩
      have c1 := (HC1.out.cell (p := ⟨bd, od + k, none⟩) (by exact cell_lt (HCD.out k _ (icells_get hu))) (fun h => h)).trans (HCD.out k _ (icells_get hu))
      have c2 := (HC1.out.cell (p := ⟨bc, oc + u, none⟩) (by exact cell_lt (HCC.out u _ (icells_get hz))) (fun h => h)).trans (HCC.out u _ (icells_get hz))
      have c3 := World.ownsRow.cellAt HO.out (k * 2) (by omega)
      have f3 := World.ownsRow.frozenAt HO.out (k * 2)
      have hat : (ncells (upTo (leaves cs d) k))[k * 2]? = some (.int .i64 0) := by
        have h2 := upTo_at (leaves cs d) k (by rw [HSL.out]; exact hlt)
        have h3 : (upTo (leaves cs d) k)[k]? = some (0, false) := by
          rw [List.getD_eq_getElem?_getD] at h2
          rw [List.getElem?_eq_getElem (by rw [upTo_len _ _ (by rw [HSL.out]; exact hk), HSL.out]; exact hlt)] at h2 ⊢
          exact congrArg some h2
        exact ncells_w h3
      rw [hat] at c3
      have HU := keepf hu
      have HZ := keepf hz
      clear hu hz hat hug
      have i1 : (0 : Int) ≤ u := by omega
      have i2 : (u : Int) < nc := by omega
      go_wp2_with fail
      go_roundw
      case rel =>
        have hx : (leaves cs d)[k]? = some (z, false) := by
          have e : keyOf cs (u : Int) = z := by simp [keyOf, List.getD_eq_getElem?_getD, HZ.out]
          simp only [leaves, List.getElem?_map, HU.out, Option.map_some, e]
        refine ⟨k + 1, by omega, by go_num, keepf ?_, keepf (HC1.out.setCell (fun h => absurd h (by simp)) _)⟩
        have h2 := (World.ownsRow.stored HO.out (k * 2) (.int .i64 z)).1
        rw [ncells_set _ _ _ (by rw [upTo_len _ _ (by rw [HSL.out]; exact hk), HSL.out]; exact hlt), upTo_at _ _ (by rw [HSL.out]; exact hlt), upTo_set _ _ _ hx] at h2
        exact h2
      case measure => simp [intOf]; omega
    · obtain rfl : n = k := by omega
      have hbd : ∀ x ∈ leaves cs d, 0 ≤ x.1 ∧ x.1 ≤ 2147483647 := by
        intro x hx
        obtain ⟨v, hv, rfl⟩ := List.mem_map.1 hx
        have h2 := HGD.out v hv
        have h3 : cs[v.toNat]? = some cs[v.toNat] := List.getElem?_eq_getElem (by have := HNC.out; omega)
        have e : keyOf cs v = cs[v.toNat] := by simp [keyOf, List.getD_eq_getElem?_getD, h3]
        show 0 ≤ keyOf cs v ∧ keyOf cs v ≤ _
        rw [e]
        exact HK.out _ (List.getElem_mem _)
      obtain ⟨S, hS⟩ : ∃ S, S = leaves cs d := ⟨_, rfl⟩
      have e : upTo S n = S := by
        have hl : S.length = n := by rw [hS]; exact HSL.out
        unfold upTo
        rw [hl, Nat.sub_self, ← hl, List.take_length]
        simp
      rw [← hS] at HO HSL hbd ⊢
      rw [e] at HO
      have HBD := keepf hbd
      have HSE := keepf hS
      clear e hbd hS
      obtain ⟨j0, hj, hy0, hy1, hy2⟩ := info_parts info_nodes
      go_wp2_with fail
      go_loopw [10] (fun v wx => ∃ A : Option Addr, ∃ c : Nat, ∃ Ls : List Sl, v = .slice A Ls.length c ∧ 1 ≤ Ls.length ∧ Ls.length ≤ most ∧ Hid (LevsAt w wx S A c Ls) ∧ Hid (Ls[0]? = some (some ⟨w.heap.size, 0, none⟩, n, S))) (fun v _ => most - slen v)
      case atStart =>
        have hs := HC1.out.size
        refine ⟨some ⟨wr.heap.size, 0, none⟩, 1, [(some ⟨w.heap.size, 0, none⟩, n, S)], rfl, Nat.le_refl _, hm, keepf ⟨?_, ?_, HC1.out.alloc _, ?_⟩, rfl⟩
        · refine ⟨rfl, .inr ⟨wr.heap.size, 1, _, rfl, Nat.zero_le _, heap_alloc_new wr _, Nat.le_refl _, by unfold maxLen; omega, rfl, ?_⟩⟩
          simp [slv, HSL.out]
        · intro j x hx
          rcases j with _ | j
          · simp at hx
            subst hx
            refine ⟨own_chg (S := NoS) ?_ ((Chg.refl _ wr).alloc _) (fun _ _ h => h), rfl⟩
            show wr.ownsRow _ _ _ (.slice _ S.length n) S.length _
            rw [HSL.out]
            exact HO.out
          · simp at hx
        · rintro a h
          injection h with h
          subst h
          exact hs
      case round =>
        obtain ⟨A, c, Ls, rfl, hl1, hl2, HL, HX0⟩ := hrel
        by_cases hlt : Ls.length < most
        · obtain ⟨g, cg, hA, _, _⟩ := own_form HL.out.o (by omega)
          injection hA with hA1 hA2 hA3
          subst hA1
          subst hA3
          clear hA2
          obtain ⟨m, hm0⟩ : ∃ m, Ls.length = m + 1 := ⟨Ls.length - 1, by omega⟩
          obtain ⟨x, hx⟩ : ∃ x, Ls[m]? = some x := ⟨_, List.getElem?_eq_getElem (by omega)⟩
          obtain ⟨hxo, hxl⟩ := HL.out.l m x hx
          have c1 := World.ownsRow.cellAt HL.out.o m (by omega)
          rw [show (Ls.map slv)[m]? = some (slv x) by simp [hx]] at c1
          obtain ⟨xa, xc, xl⟩ := x
          simp only at hxo hxl
          have hb : ∀ y ∈ xl, 0 ≤ y.1 ∧ y.1 ≤ 1152921504606846976 := by
            intro y hy
            rw [hxl] at hy
            have h2 := levelOf_bound (by omega) HBD.out m y hy
            have h3 : (2 : Int) ^ m ≤ 2 ^ 15 := by
              have h4 := Nat.pow_le_pow_right (n := 2) (by omega) (show m ≤ 15 by omega)
              have h5 : ((2 ^ m : Nat) : Int) = 2 ^ m := by simp
              have h6 : ((2 ^ 15 : Nat) : Int) = 2 ^ 15 := by simp
              omega
            have h7 := Int.mul_le_mul_of_nonneg_right h3 (show (0 : Int) ≤ 2147483647 by omega)
            omega
          have hlen : xl.length ≤ 2 * n := by rw [hxl, ← HSL.out]; exact levelOf_le _ _
          have hX0 := (HL.out.l 0 _ HX0.out).1
          have HPR := keepf (pairs_any xl xa xc wr (by omega) hb (src_own hxo))
          have HMG : Hid (∀ A3 c3 w3, OwnN w3 A3 c3 (pairsOf xl) → Chg NoS wr w3 → Calls Try.prog 50 #[.slice (some ⟨w.heap.size, 0, none⟩) n n, .slice A3 (pairsOf xl).length c3] w3 (NewN w3 (mergeOf S (pairsOf xl)))) := by
            intro A3 c3 w3 ho hc
            have h2 := merge_any (some ⟨w.heap.size, 0, none⟩, n, S) (A3, c3, pairsOf xl) w3 ⟨src_own (own_chg (S := NoS) hX0 hc (fun _ _ h => h)), own_cap hX0⟩ ⟨src_own ho, own_cap ho⟩ (by simp only; rw [pairsOf_len, HSL.out]; omega)
            simp only [slv] at h2
            rw [HSL.out] at h2
            exact h2
          have HLo : Hid (wr.ownsRow 0 93 1 (.slice (some ⟨g, 0, none⟩) (m + 1) c) (m + 1) (Ls.map slv)) := by
            have h2 := HL.out.o
            rw [hm0] at h2
            exact h2
          have HM0 := keepf hm0
          have HXL := keepf hxl
          have hm14 : m + 1 < most := by omega
          have hw : IntKind.i64.wrap (m : Int) = m := by rw [IntKind.wrap_i64]; omega
          unfold slv at c1
          rw [hm0]
          clear hm0 hb hx hxo hxl hX0 hlt hl1 hl2 hlen
          go_wp2_with (first
            | (go_at_call 51; refine HPR.out.mono ?_; rintro e w3 ⟨A3, c3, rfl, ho3, hc3, hf3⟩; have HO3 := keepf ho3; have HC3 := keepf hc3; clear ho3 hc3 hf3)
            | (go_at_call 50; refine (HMG.out A3 c3 w3 HO3.out HC3.out).mono ?_; rintro e w4 ⟨A4, c4, rfl, ho4, hc4, hf4⟩; have HO4 := keepf ho4; have HC4 := keepf (HC3.out.trans hc4 (fun _ _ h => h)); clear ho4 hc4 hf4)
            | (at_builtin; go_loud (refine wpList_append_src rfl (.tmp 36) (.tmp 46) 81 rfl 93 j0 (.slice none 0 0) 1 24 Try.underlying81 hj hy0 hy1 hy2 rfl (by decide) (.slice (some ⟨g, 0, none⟩) (m + 1) c) _ _ rfl (own_chg (S := NoS) HLo.out (HC4.out.alloc _) (fun _ _ h => h)) _ _ _ [.slice A4 (mergeOf S (pairsOf xl)).length c4] rfl (srcOneAt (by simp)) (by simp [Value.oneCell']) (by unfold maxLen; omega) (by omega) ?_); intro S5 w5 hown5 hgr hat; obtain ⟨A5, c5, rfl, hA5⟩ := own_slice hown5; have HG5 := keepf hgr; have HO5 := keepf hown5; have HAT5 := keepf hat; clear hgr hown5 hat hA5))
          go_roundw
          case rel =>
            have h8 := HL.out.snoc HC4.out (x := (A4, c4, mergeOf S (pairsOf xl))) HO4.out (by rw [HM0.out, levelOf, ← HXL.out]) (by rw [HM0.out]; exact HG5.out) (by rw [HM0.out]; exact HO5.out) (by rw [HM0.out]; exact HAT5.out)
            refine ⟨A5, c5, Ls ++ [(A4, c4, mergeOf S (pairsOf xl))], by simp [HM0.out], by simp, by simp [HM0.out]; omega, keepf h8, ?_⟩
            show _ = _
            rw [List.getElem?_append_left (by have := HM0.out; omega)]
            exact HX0.out
          case measure => simp [slen]; omega
        · have hl3 : Ls.length = most := by omega
          have d1 : ¬ (Ls.length : Int) < most := by omega
          go_wp2_with fail
          go_ret
          exact ⟨A, c, Ls, by rw [hl3]; rfl, hl3, HSE.out ▸ HL.out⟩
end Go.Proofs.Ytkhhiaggmncehaa
