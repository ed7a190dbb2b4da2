/- 'AdlerAdds': for every input the statement's function returns true: a sum does not hang on how bytes come together. Conditions: none. -/
import Derived.Test.YtgfdinclhakjhaaAddsW
import Derived.Test.YtgfdinclhakjhaaRows
import Derived.OpenShut
import Derived.ChangeOld
import Derived.Lib.SmallJoins
import Derived.Deep.RegionHeld3
import Derived.Deep.RegionWith
namespace Go.Proofs.Ytgfdinclhakjhaa.adleradds
open Go.RowKit Go.ChangeShapes Go.WideShapes Go.ChangeAt
set_option linter.unusedVariables false

theorem own : ownKnob Try.prog.godebug = none := by kernel_rfl
theorem laidOut : laidOutB Try.prog = true := by kernel_rfl
theorem info_u8 : (Try.prog.info? 5).map (fun i => (i.zero, i.size, i.bytes)) = some (some (.int .u8 0), 1, 1) := by kernel_rfl
theorem ucells_one (bs : List Nat) : ∀ u ∈ ucells bs, u.oneCell' = true := by
  intro u hu
  obtain ⟨_, _, rfl⟩ := List.mem_map.1 hu
  rfl

/-- The sum, and the row, of all bytes that have come. -/
structure St (w wr : World) (all : List Nat) (Sl : Value) : Prop where
  s : SumAt wr w.heap.size all
  i : wr.ownsRow 0 5 1 Sl all.length (ucells all)
  c : Chg NoS w wr
  g : ∀ g, Sl.ownBlock = some g → w.heap.size ≤ g

theorem St.no {w wr w' : World} {all : List Nat} {Sl : Value} (h : St w wr all Sl) (hc : Chg NoS wr w') : St w w' all Sl :=
  ⟨Blk.chg h.s hc (fun h => h), own_chg h.i hc (fun _ _ h => h), h.c.trans hc (fun _ _ h => h), h.g⟩

/-- The sum has taken more, the row has not. -/
structure St2 (w wr : World) (all more : List Nat) (Sl : Value) : Prop where
  s : SumAt wr w.heap.size (all ++ more)
  i : wr.ownsRow 0 5 1 Sl all.length (ucells all)
  c : Chg NoS w wr
  g : ∀ g, Sl.ownBlock = some g → w.heap.size ≤ g

theorem St2.no {w wr w' : World} {all more : List Nat} {Sl : Value} (h : St2 w wr all more Sl) (hc : Chg NoS wr w') : St2 w w' all more Sl :=
  ⟨Blk.chg h.s hc (fun h => h), own_chg h.i hc (fun _ _ h => h), h.c.trans hc (fun _ _ h => h), h.g⟩

theorem St.added {w wr w' : World} {all more : List Nat} {Sl : Value} (h : St w wr all Sl) (hs : SumAt w' w.heap.size (all ++ more)) (hc : Chg (fun i => i = w.heap.size) wr w') : St2 w w' all more Sl :=
  ⟨hs, own_chg h.i hc (fun g hg e => own_ne_blk h.i h.s (by decide) (by rw [hg, e])), chg_new h.c hc (Nat.le_refl _), h.g⟩

theorem St2.grown {w wr w' : World} {all more : List Nat} {Sl Sl' : Value} (h : St2 w wr all more Sl) (hi : w'.ownsRow 0 5 1 Sl' (all.length + more.length) (ucells all ++ ucells more)) (hg : wr.grownBy w' Sl.ownBlock) (hat : Sl'.ownBlock = Sl.ownBlock ∨ Sl'.ownBlock = some wr.heap.size) : St w w' (all ++ more) Sl' := by
  have hc : Chg (fun i => Sl.ownBlock = some i) wr w' := (Chg.refl _ _).grown hg (fun k e _ => e)
  refine ⟨Blk.chg h.s hc (own_ne_blk h.i h.s (by decide)), by simpa [ucells] using hi, h.c.trans hc (fun i h1 h2 => by have := h.g i h2; omega), fun g hg' => ?_⟩
  rcases hat with e | e
  · exact h.g g (e ▸ hg')
  · rw [e] at hg'
    injection hg' with hg'
    have := h.c.size
    omega

/-- The row as a piece. -/
theorem St.piece {w wr : World} {all : List Nat} {A : Option Addr} {n cap : Nat} (h : St w wr all (.slice A n cap)) (hn : all.length = n) (hb : ∀ x ∈ all, x < 256) : Piece.At ⟨A, n, cap, all⟩ wr NoS := by
  subst hn
  refine ⟨src_own h.i, rfl, ?_, hb, fun _ _ _ h => h⟩
  show all.length ≤ cap
  rcases Nat.eq_zero_or_pos all.length with h0 | h0
  · omega
  · obtain ⟨g, cap', he, h1, _⟩ := own_form h.i h0
    simp only [Value.slice.injEq] at he
    omega

/-- Add of a row of pieces that was laid just now. -/
theorem add_row {w wr : World} {all : List Nat} {Sl : Value} (qs : List Piece) (m : Nat) (h : St w wr all Sl) (hm : qs.length = m) (hq : ∀ q ∈ qs, q.At w NoS ∧ q.len ≤ 1000) (hm10 : m ≤ 10) (hn : all.length ≤ 100000) (hqs : (Piece.all qs).length ≤ 100000) :
    Calls Try.prog 10 #[.pointer (some ⟨w.heap.size, 0, none⟩), .slice (some ⟨wr.heap.size, 0, none⟩) m m] (wr.alloc (.cells (qs.map Piece.cell).toArray 22)) fun e w' => e = .returned (.tuple #[]) ∧ St2 w w' all (Piece.all qs) Sl := by
  have h2 := h.no ((Chg.refl NoS wr).alloc (.cells (qs.map Piece.cell).toArray 22))
  have hbl := Blk.lt h.s
  refine (add_any _ w.heap.size all _ m m qs h2.s hm (src_row wr 22 (qs.map Piece.cell) m (by simp [hm])) (by intro a ha _; cases ha; show wr.heap.size ≠ w.heap.size; omega)
    (fun q hq' => (hq q hq').1.far h2.c (Nat.le_refl _)) (fun q hq' => by have := (hq q hq').2; omega) (by omega) (by omega)).mono ?_
  rintro e w' ⟨rfl, hs, hc⟩
  exact ⟨rfl, h2.added hs hc⟩

/-- The same behind a draw. -/
theorem add_row_drew {w wr : World} {all : List Nat} {Sl : Value} (qs : List Piece) (m : Nat) (h : St w wr all Sl) (hm : qs.length = m) (hq : ∀ q ∈ qs, q.At w NoS ∧ q.len ≤ 1000) (hm10 : m ≤ 10) (hn : all.length ≤ 100000) (hqs : (Piece.all qs).length ≤ 100000) :
    Calls Try.prog 10 #[.pointer (some ⟨w.heap.size, 0, none⟩), .slice (some ⟨wr.heap.size, 0, none⟩) m m] (wr.alloc (.cells (qs.map Piece.cell).toArray 22)).drew fun e w' => e = .returned (.tuple #[]) ∧ St2 w w' all (Piece.all qs) Sl := by
  have h2 := h.no (((Chg.refl NoS wr).alloc (.cells (qs.map Piece.cell).toArray 22)).drew)
  have hbl := Blk.lt h.s
  have hs := src_row wr 22 (qs.map Piece.cell) m (by simp [hm])
  refine (add_any _ w.heap.size all _ m m qs h2.s hm (Src.below (w0 := wr) hs (Chg.refl NoS _).drew) (by intro a ha _; cases ha; show wr.heap.size ≠ w.heap.size; omega)
    (fun q hq' => (hq q hq').1.far h2.c (Nat.le_refl _)) (fun q hq' => by have := (hq q hq').2; omega) (by omega) (by omega)).mono ?_
  rintro e w' ⟨rfl, hs, hc⟩
  exact ⟨rfl, h2.added hs hc⟩

theorem all_bytes {w : World} (ps : List Piece) (hg : ∀ p ∈ ps, p.At w NoS) : ∀ x ∈ Piece.all ps, x < 256 := by
  intro x hx
  obtain ⟨p, hp, hx⟩ := List.mem_flatMap.1 hx
  exact (hg p hp).bytes x hx

set_option maxHeartbeats 2000000 in
set_option maxRecDepth 100000 in
theorem walk (A : Option Addr) (len cap : Nat) (ps : List Piece) (w : World) (hl : ps.length = len) (hm : len ≤ maxLen) (hS : Src w 1 A len cap (ps.flatMap encP)) (hg : ∀ p ∈ ps, p.At w NoS) :
    Calls Try.prog 4 #[.slice A len cap] w fun e w' => e = .returned (.bool true) ∧ Below w.heap.size w w' := by
  unfold maxLen at hm
  rw [flat_pieces] at hS
  have HS := keepf hS
  have HL := keepf hl
  have HG := keepf hg
  clear hS hl hg
  obtain ⟨i0, hi, hz0, hz1, hz2⟩ := info_parts info_u8
  have HST0 := keepf (show St w (w.alloc (.cells #[.int .u64 0, .int .u64 0, .int .i64 0] 33)) [] (.slice none 0 0) from ⟨new_sum w, own_nil _ _ _ _, (Chg.refl _ _).alloc _, fun g h => (by cases h)⟩)
  go_enter Try.func4, Try.ntmps4
  go_wp2_with fail
  go_loopw [5, 6] (fun va vk wr => ∃ (k SA SC n : Nat) (SP : Option Addr), k ≤ len ∧ k ≤ 40 ∧ SA = 0 ∧ va = .slice SP n SC ∧ vk = .int .i64 (k : Nat) ∧ n ≤ 1000 * k ∧ Hid (n = (Piece.all (ps.take k)).length) ∧ Hid (St w wr (Piece.all (ps.take k)) (.slice SP n SC)))
    (fun _ vk _ => len - (intOf vk).toNat)
  case atStart => exact ⟨0, 0, 0, 0, none, Nat.zero_le _, by omega, rfl, rfl, rfl, by omega, keepf rfl, HST0⟩
  case round =>
    obtain ⟨k, _, SC, n, SP, hk, hk40, _, rfl, rfl, hn, HN, HT⟩ := hrel
    by_cases hlt : k < len ∧ k < 40
    · obtain ⟨h1, h2⟩ := hlt
      obtain ⟨p, hpk⟩ : ∃ p, ps[k]? = some p := ⟨_, List.getElem?_eq_getElem (by rw [HL.out]; exact h1)⟩
      have hmem : p ∈ ps := List.mem_of_getElem? hpk
      obtain ⟨ba, off, hAe, hcell⟩ := (HS.out).plain (by simp [HL.out]; omega)
      have hcp0 := hcell k p.cell (by simp [hpk])
      have hcp := (HT.out.c.cell (p := ⟨ba, off + k, none⟩) (by exact cell_lt hcp0) (fun h => h)).trans hcp0
      have HP := keepf ((HG.out p hmem).no HT.out.c)
      have HPW := keepf (HG.out p hmem)
      have HSN := keepf (all_snoc ps k p hpk)
      have HCP0 := keepf hcp0
      clear hcell hmem hpk hcp0
      obtain ⟨pA, plen, pcap, pbs⟩ := p
      simp only [Piece.cell] at hcp
      have d1 : decide ((k : Int) < len) = true := by simp; omega
      have d2 : decide ((k : Int) < 40) = true := by simp; omega
      subst hAe
      by_cases hbig : 1000 < plen
      · have d3 : decide ((1000 : Int) < plen) = true := by simp; omega
        have HC := keepf HT.out.c
        clear HS HG HT HP HPW HSN HN
        go_wp2_with fail
        refine (works_any _).mono ?_
        rintro e w4 ⟨rfl, hc4⟩
        have HC4 := keepf (HC.out.trans hc4 (fun _ _ h => h))
        clear hc4
        go_wp2_with fail
        go_ret
        exact ⟨rfl, HC4.out.no_below⟩
      · have d3 : decide ((1000 : Int) < plen) = false := by simp; omega
        have hall : (Piece.all (ps.take k)).length ≤ 100000 := by have := HN.out; omega
        obtain ⟨all, hall0⟩ : ∃ all, Piece.all (ps.take k) = all := ⟨_, rfl⟩
        rw [hall0] at HT HN HSN hall
        have hplen := HP.out.len
        simp only at hplen
        by_cases hev : k % 2 = 0
        · have t1 : (k : Int) % 2 = 0 := by omega
          have hadd := add_row [⟨pA, plen, pcap, pbs⟩] 1 HT.out rfl (by intro q hq; simp only [List.mem_cons, List.not_mem_nil, or_false] at hq; subst hq; exact ⟨HPW.out, by show plen ≤ 1000; omega⟩) (by omega) hall (by simp [Piece.all]; omega)
          simp only [List.map_cons, List.map_nil, Piece.cell] at hadd
          rw [show Piece.all [⟨pA, plen, pcap, pbs⟩] = pbs from by simp [Piece.all]] at hadd
          have HADD := keepf hadd
          clear hadd
          go_wp2_with fail
          refine HADD.out.mono ?_
          rintro e w2 ⟨rfl, ht2⟩
          have HT2 := keepf ht2
          clear ht2 HADD hcp t1
          have hcp2 : w2.cell? ⟨ba, off + k, none⟩ = some (.slice pA plen pcap) := (HT2.out.c.cell (p := ⟨ba, off + k, none⟩) (by exact cell_lt HCP0.out) (fun h => h)).trans HCP0.out
          go_wp2_with fail
          refine (add_none _ _).mono ?_
          rintro e w3 ⟨rfl, rfl⟩
          have HT3 := keepf (HT2.out.no ((Chg.refl NoS w2).alloc (.cells #[.slice pA plen pcap] 22)))
          generalize w2.alloc (.cells #[.slice pA plen pcap] 22) = w3 at *
          have hcp3 : w3.cell? ⟨ba, off + k, none⟩ = some (.slice pA plen pcap) := (HT3.out.c.cell (p := ⟨ba, off + k, none⟩) (by exact cell_lt HCP0.out) (fun h => h)).trans HCP0.out
          have HP3 := keepf (HPW.out.no HT3.out.c)
          have hi3 := HT3.out.i
          rw [← HN.out] at hi3
          have HI3 := keepf hi3
          clear hcp2 HT2 hi3 HCP0
          go_wp2_with (first
            | (at_builtin; refine wpList_append_src rfl (.tmp 68) (.tmp 72) 22 rfl 5 i0 (.int .u8 0) 1 1 Try.underlying22 hi hz0 hz1 hz2 rfl (by decide) (.slice SP n SC) n (ucells all) rfl HI3.out pA plen pcap (ucells pbs) rfl HP3.out.src (ucells_one _) (by unfold maxLen; omega) (by omega) ?_; intro S4 w4 hown4 hgr4 hat4; obtain ⟨A4, c4, rfl, hA4⟩ := own_slice hown4; have HO4 := keepf hown4; have HG4 := keepf hgr4; have HA4 := keepf hat4; clear hown4 hgr4 hat4 hA4))
          have hlen4 : (all ++ pbs).length = (n + plen) := by rw [List.length_append, ← HN.out, hplen]
          have ht4 : St w w4 (all ++ pbs) (.slice A4 (n + plen) c4) := HT3.out.grown (by rw [← HN.out, hplen]; exact HO4.out) HG4.out HA4.out
          have hby : ∀ x ∈ all ++ pbs, x < 256 := by
            rw [← HSN.out]
            exact all_bytes (w := w) (ps.take (k + 1)) (fun p hp => HG.out p (List.mem_of_mem_take hp))
          have hpc4 := ht4.piece hlen4 hby
          obtain ⟨z, hz⟩ : ∃ z, sumA (all ++ pbs) = z := ⟨_, rfl⟩
          have hv := value_any _ _ _ _ ht4.s
          rw [hz] at hv
          have HV := keepf hv
          have HZ := keepf hz
          have HT4 := keepf ht4
          have HPC4 := keepf hpc4
          have HLEN4 := keepf hlen4
          clear hv hz ht4 hpc4 hlen4 hby hcp3 HP3 HI3 HO4 HG4 HA4 HT3
          refine HV.out.mono ?_
          rintro e w5 ⟨rfl, hc5⟩
          have HT5 := keepf (HT4.out.no hc5)
          have hr := refSum_any w5 ⟨A4, (n + plen), c4, all ++ pbs⟩ (HPC4.out.no hc5) (by show (n + plen) ≤ _; omega)
          rw [HZ.out] at hr
          simp only [Piece.cell] at hr
          have HR := keepf hr
          clear hr hc5
          go_wp2_with fail
          refine HR.out.mono ?_
          rintro e w6 ⟨rfl, rfl⟩
          have hl := len_any _ _ _ _ _ HT5.out.s
          rw [HLEN4.out] at hl
          have HLN := keepf hl
          clear hl
          go_wp2_with fail
          refine HLN.out.mono ?_
          rintro e w7 ⟨rfl, rfl⟩
          go_wp2_with fail
          go_roundw
          case rel => exact ⟨k + 1, 0, c4, (n + plen), A4, by omega, by omega, rfl, rfl, by go_num, by omega, keepf (by rw [HSN.out]; exact HLEN4.out.symm), by rw [HSN.out]; exact HT5⟩
          case measure => simp [intOf]; omega
        · have t1 : (k : Int) % 2 = 1 := by omega
          obtain ⟨m, hm2⟩ : ∃ m, plen / 2 = m := ⟨_, rfl⟩
          have t2 : (plen : Int) / 2 = (m : Int) := by omega
          have t3 : (plen : Int).tdiv 2 = (m : Int) := by rw [Int.tdiv_eq_ediv_of_nonneg (by omega)]; exact t2
          have hml : m ≤ plen := by omega
          have hpc := HP.out.cap
          simp only at hpc
          have hmc : m ≤ pcap := by omega
          rcases Nat.eq_zero_or_pos plen with h0 | h0
          · subst h0
            obtain rfl : m = 0 := by omega
            obtain rfl : pbs = [] := List.eq_nil_of_length_eq_zero hplen
            have e0 : (0 : Int) ≤ pcap := by omega
            have e3 := map_add_zero_id pA
            have e6 : IntKind.i64.wrap 0 = 0 := rfl
            have hadd := add_row_drew [⟨pA, 0, pcap, []⟩, ⟨none, 0, 0, []⟩, ⟨pA, 0, pcap, []⟩] 3 HT.out rfl (by intro q hq; simp only [List.mem_cons, List.not_mem_nil, or_false] at hq; rcases hq with rfl | rfl | rfl <;> first | exact ⟨HPW.out, Nat.zero_le _⟩ | exact ⟨piece_nil _ _, Nat.zero_le _⟩) (by omega) hall (by simp [Piece.all])
            simp only [List.map_cons, List.map_nil, Piece.cell] at hadd
            rw [show Piece.all [⟨pA, 0, pcap, []⟩, ⟨none, 0, 0, []⟩, ⟨pA, 0, pcap, []⟩] = [] from by simp [Piece.all]] at hadd
            have HADD := keepf hadd
            clear hadd
            go_wp2_with fail
            first
              | (go_loud (go_region_held3 (fun w' => w'.cell? ⟨ba, off + k, none⟩ = some (.slice pA 0 pcap))
                  (first | go_keep | assumption)
                  (first | (go_at_call 10; refine HADD.out.mono ?_; clear HADD; rintro e w2 ⟨rfl, ht2⟩; have HT2 := keepf ht2; have hk2 : w2.cell? ⟨ba, off + k, none⟩ = some (.slice pA 0 pcap) := (HT2.out.c.cell (p := ⟨ba, off + k, none⟩) (by exact cell_lt HCP0.out) (fun h => h)).trans HCP0.out; clear ht2))))
              | fail
            clear hcp e0 e3 e6 hk2 t1 t2 t3
            have hcp2 : w2.cell? ⟨ba, off + k, none⟩ = some (.slice pA 0 pcap) := (HT2.out.c.cell (p := ⟨ba, off + k, none⟩) (by exact cell_lt HCP0.out) (fun h => h)).trans HCP0.out
            go_wp2_with fail
            refine (add_none _ _).mono ?_
            rintro e w3 ⟨rfl, rfl⟩
            have HT3 := keepf (HT2.out.no ((Chg.refl NoS w2).alloc (.cells #[.slice pA 0 pcap] 22)))
            generalize w2.alloc (.cells #[.slice pA 0 pcap] 22) = w3 at *
            have hcp3 : w3.cell? ⟨ba, off + k, none⟩ = some (.slice pA 0 pcap) := (HT3.out.c.cell (p := ⟨ba, off + k, none⟩) (by exact cell_lt HCP0.out) (fun h => h)).trans HCP0.out
            have HP3 := keepf (HPW.out.no HT3.out.c)
            have hi3 := HT3.out.i
            rw [← HN.out] at hi3
            have HI3 := keepf hi3
            clear hcp2 HT2 hi3 HCP0
            go_wp2_with (first
              | (at_builtin; refine wpList_append_src rfl (.tmp 68) (.tmp 72) 22 rfl 5 i0 (.int .u8 0) 1 1 Try.underlying22 hi hz0 hz1 hz2 rfl (by decide) (.slice SP n SC) n (ucells all) rfl HI3.out pA 0 pcap (ucells []) rfl HP3.out.src (ucells_one _) (by unfold maxLen; omega) (by omega) ?_; intro S4 w4 hown4 hgr4 hat4; rw [Nat.add_zero] at hown4; obtain ⟨A4, c4, rfl, hA4⟩ := own_slice hown4; have HO4 := keepf hown4; have HG4 := keepf hgr4; have HA4 := keepf hat4; clear hown4 hgr4 hat4 hA4))
            have hlen4 : (all ++ []).length = n := by rw [List.length_append, ← HN.out]; rfl
            have ht4 : St w w4 (all ++ []) (.slice A4 n c4) := HT3.out.grown (by rw [← HN.out]; exact HO4.out) HG4.out HA4.out
            have hby : ∀ x ∈ all ++ [], x < 256 := by
              rw [← HSN.out]
              exact all_bytes (w := w) (ps.take (k + 1)) (fun p hp => HG.out p (List.mem_of_mem_take hp))
            have hpc4 := ht4.piece hlen4 hby
            obtain ⟨z, hz⟩ : ∃ z, sumA (all ++ []) = z := ⟨_, rfl⟩
            have hv := value_any _ _ _ _ ht4.s
            rw [hz] at hv
            have HV := keepf hv
            have HZ := keepf hz
            have HT4 := keepf ht4
            have HPC4 := keepf hpc4
            have HLEN4 := keepf hlen4
            clear hv hz ht4 hpc4 hlen4 hby hcp3 HP3 HI3 HO4 HG4 HA4 HT3
            refine HV.out.mono ?_
            rintro e w5 ⟨rfl, hc5⟩
            have HT5 := keepf (HT4.out.no hc5)
            have hr := refSum_any w5 ⟨A4, n, c4, all ++ []⟩ (HPC4.out.no hc5) (by show n ≤ _; omega)
            rw [HZ.out] at hr
            simp only [Piece.cell] at hr
            have HR := keepf hr
            clear hr hc5
            go_wp2_with fail
            refine HR.out.mono ?_
            rintro e w6 ⟨rfl, rfl⟩
            have hl := len_any _ _ _ _ _ HT5.out.s
            rw [HLEN4.out] at hl
            have HLN := keepf hl
            clear hl
            go_wp2_with fail
            refine HLN.out.mono ?_
            rintro e w7 ⟨rfl, rfl⟩
            go_wp2_with fail
            go_roundw
            case rel => exact ⟨k + 1, 0, c4, n, A4, by omega, by omega, rfl, rfl, by go_num, by omega, keepf (by rw [HSN.out]; exact HLEN4.out.symm), by rw [HSN.out]; exact HT5⟩
            case measure => simp [intOf]; omega
          · obtain ⟨pb, po, rfl, _⟩ := HPW.out.src.plain (by simp [ucells, hplen]; exact h0)
            have e0 : (0 : Int) ≤ pcap := by omega
            have e1 : (0 : Int) ≤ plen := by omega
            have e2 : (0 : Int) ≤ m := by omega
            have e3 : (m : Int) ≤ plen := by omega
            have e4 : (m : Int) ≤ pcap := by omega
            have e5 : (plen : Int) ≤ pcap := by omega
            have e6 : IntKind.i64.wrap (m : Int) = (m : Int) := by rw [IntKind.wrap_i64]; omega
            have hq1 : ¬ (pcap = 0) := by omega
            have hq2 : ¬ (pcap = m) := by omega
            clear hm2
            have hadd := add_row_drew [⟨some ⟨pb, po, none⟩, m, pcap, pbs.take m⟩, ⟨none, 0, 0, []⟩, ⟨some ⟨pb, po + m, none⟩, plen - m, pcap - m, pbs.drop m⟩] 3 HT.out rfl (by intro q hq; simp only [List.mem_cons, List.not_mem_nil, or_false] at hq; rcases hq with rfl | rfl | rfl <;> first | exact ⟨HPW.out.first hml h0, (by show m ≤ 1000; omega)⟩ | exact ⟨piece_nil _ _, Nat.zero_le _⟩ | exact ⟨HPW.out.last hml h0, (by show plen - m ≤ 1000; omega)⟩) (by omega) hall (by simp [Piece.all]; omega)
            simp only [List.map_cons, List.map_nil, Piece.cell] at hadd
            rw [show Piece.all [⟨some ⟨pb, po, none⟩, m, pcap, pbs.take m⟩, ⟨none, 0, 0, []⟩, ⟨some ⟨pb, po + m, none⟩, plen - m, pcap - m, pbs.drop m⟩] = pbs from by simp [Piece.all]] at hadd
            have HADD := keepf hadd
            clear hadd
            by_cases hm0 : m = 0
            · subst hm0
              have e7 : IntKind.i64.wrap 0 = 0 := rfl
              go_wp2_with fail
              first
                | (go_loud (go_region_held3 (fun w' => w'.cell? ⟨ba, off + k, none⟩ = some (.slice (some ⟨pb, po, none⟩) plen pcap))
                    (first | go_keep | assumption)
                    (first | (go_at_call 10; refine HADD.out.mono ?_; clear HADD; rintro e w2 ⟨rfl, ht2⟩; have HT2 := keepf ht2; have hk2 : w2.cell? ⟨ba, off + k, none⟩ = some (.slice (some ⟨pb, po, none⟩) plen pcap) := (HT2.out.c.cell (p := ⟨ba, off + k, none⟩) (by exact cell_lt HCP0.out) (fun h => h)).trans HCP0.out; clear ht2))))
                | fail
              clear hcp e0 e1 e2 e3 e4 e5 e6 hk2 t1 t2 t3
              have hcp2 : w2.cell? ⟨ba, off + k, none⟩ = some (.slice (some ⟨pb, po, none⟩) plen pcap) := (HT2.out.c.cell (p := ⟨ba, off + k, none⟩) (by exact cell_lt HCP0.out) (fun h => h)).trans HCP0.out
              go_wp2_with fail
              refine (add_none _ _).mono ?_
              rintro e w3 ⟨rfl, rfl⟩
              have HT3 := keepf (HT2.out.no ((Chg.refl NoS w2).alloc (.cells #[.slice (some ⟨pb, po, none⟩) plen pcap] 22)))
              generalize w2.alloc (.cells #[.slice (some ⟨pb, po, none⟩) plen pcap] 22) = w3 at *
              have hcp3 : w3.cell? ⟨ba, off + k, none⟩ = some (.slice (some ⟨pb, po, none⟩) plen pcap) := (HT3.out.c.cell (p := ⟨ba, off + k, none⟩) (by exact cell_lt HCP0.out) (fun h => h)).trans HCP0.out
              have HP3 := keepf (HPW.out.no HT3.out.c)
              have hi3 := HT3.out.i
              rw [← HN.out] at hi3
              have HI3 := keepf hi3
              clear hcp2 HT2 hi3 HCP0
              go_wp2_with (first
                | (at_builtin; refine wpList_append_src rfl (.tmp 68) (.tmp 72) 22 rfl 5 i0 (.int .u8 0) 1 1 Try.underlying22 hi hz0 hz1 hz2 rfl (by decide) (.slice SP n SC) n (ucells all) rfl HI3.out (some ⟨pb, po, none⟩) plen pcap (ucells pbs) rfl HP3.out.src (ucells_one _) (by unfold maxLen; omega) (by omega) ?_; intro S4 w4 hown4 hgr4 hat4; obtain ⟨A4, c4, rfl, hA4⟩ := own_slice hown4; have HO4 := keepf hown4; have HG4 := keepf hgr4; have HA4 := keepf hat4; clear hown4 hgr4 hat4 hA4))
              have hlen4 : (all ++ pbs).length = (n + plen) := by rw [List.length_append, ← HN.out, hplen]
              have ht4 : St w w4 (all ++ pbs) (.slice A4 (n + plen) c4) := HT3.out.grown (by rw [← HN.out, hplen]; exact HO4.out) HG4.out HA4.out
              have hby : ∀ x ∈ all ++ pbs, x < 256 := by
                rw [← HSN.out]
                exact all_bytes (w := w) (ps.take (k + 1)) (fun p hp => HG.out p (List.mem_of_mem_take hp))
              have hpc4 := ht4.piece hlen4 hby
              obtain ⟨z, hz⟩ : ∃ z, sumA (all ++ pbs) = z := ⟨_, rfl⟩
              have hv := value_any _ _ _ _ ht4.s
              rw [hz] at hv
              have HV := keepf hv
              have HZ := keepf hz
              have HT4 := keepf ht4
              have HPC4 := keepf hpc4
              have HLEN4 := keepf hlen4
              clear hv hz ht4 hpc4 hlen4 hby hcp3 HP3 HI3 HO4 HG4 HA4 HT3
              refine HV.out.mono ?_
              rintro e w5 ⟨rfl, hc5⟩
              have HT5 := keepf (HT4.out.no hc5)
              have hr := refSum_any w5 ⟨A4, (n + plen), c4, all ++ pbs⟩ (HPC4.out.no hc5) (by show (n + plen) ≤ _; omega)
              rw [HZ.out] at hr
              simp only [Piece.cell] at hr
              have HR := keepf hr
              clear hr hc5
              go_wp2_with fail
              refine HR.out.mono ?_
              rintro e w6 ⟨rfl, rfl⟩
              have hl := len_any _ _ _ _ _ HT5.out.s
              rw [HLEN4.out] at hl
              have HLN := keepf hl
              clear hl
              go_wp2_with fail
              refine HLN.out.mono ?_
              rintro e w7 ⟨rfl, rfl⟩
              go_wp2_with fail
              go_roundw
              case rel => exact ⟨k + 1, 0, c4, (n + plen), A4, by omega, by omega, rfl, rfl, by go_num, by omega, keepf (by rw [HSN.out]; exact HLEN4.out.symm), by rw [HSN.out]; exact HT5⟩
              case measure => simp [intOf]; omega
            · go_wp2_with fail
              first
                | (go_loud (go_region_held3 (fun w' => w'.cell? ⟨ba, off + k, none⟩ = some (.slice (some ⟨pb, po, none⟩) plen pcap))
                    (first | go_keep | assumption)
                    (first | (go_at_call 10; refine HADD.out.mono ?_; clear HADD; rintro e w2 ⟨rfl, ht2⟩; have HT2 := keepf ht2; have hk2 : w2.cell? ⟨ba, off + k, none⟩ = some (.slice (some ⟨pb, po, none⟩) plen pcap) := (HT2.out.c.cell (p := ⟨ba, off + k, none⟩) (by exact cell_lt HCP0.out) (fun h => h)).trans HCP0.out; clear ht2))))
                | fail
              clear hcp e0 e1 e2 e3 e4 e5 e6 hk2 t1 t2 t3
              have hcp2 : w2.cell? ⟨ba, off + k, none⟩ = some (.slice (some ⟨pb, po, none⟩) plen pcap) := (HT2.out.c.cell (p := ⟨ba, off + k, none⟩) (by exact cell_lt HCP0.out) (fun h => h)).trans HCP0.out
              go_wp2_with fail
              refine (add_none _ _).mono ?_
              rintro e w3 ⟨rfl, rfl⟩
              have HT3 := keepf (HT2.out.no ((Chg.refl NoS w2).alloc (.cells #[.slice (some ⟨pb, po, none⟩) plen pcap] 22)))
              generalize w2.alloc (.cells #[.slice (some ⟨pb, po, none⟩) plen pcap] 22) = w3 at *
              have hcp3 : w3.cell? ⟨ba, off + k, none⟩ = some (.slice (some ⟨pb, po, none⟩) plen pcap) := (HT3.out.c.cell (p := ⟨ba, off + k, none⟩) (by exact cell_lt HCP0.out) (fun h => h)).trans HCP0.out
              have HP3 := keepf (HPW.out.no HT3.out.c)
              have hi3 := HT3.out.i
              rw [← HN.out] at hi3
              have HI3 := keepf hi3
              clear hcp2 HT2 hi3 HCP0
              go_wp2_with (first
                | (at_builtin; refine wpList_append_src rfl (.tmp 68) (.tmp 72) 22 rfl 5 i0 (.int .u8 0) 1 1 Try.underlying22 hi hz0 hz1 hz2 rfl (by decide) (.slice SP n SC) n (ucells all) rfl HI3.out (some ⟨pb, po, none⟩) plen pcap (ucells pbs) rfl HP3.out.src (ucells_one _) (by unfold maxLen; omega) (by omega) ?_; intro S4 w4 hown4 hgr4 hat4; obtain ⟨A4, c4, rfl, hA4⟩ := own_slice hown4; have HO4 := keepf hown4; have HG4 := keepf hgr4; have HA4 := keepf hat4; clear hown4 hgr4 hat4 hA4))
              have hlen4 : (all ++ pbs).length = (n + plen) := by rw [List.length_append, ← HN.out, hplen]
              have ht4 : St w w4 (all ++ pbs) (.slice A4 (n + plen) c4) := HT3.out.grown (by rw [← HN.out, hplen]; exact HO4.out) HG4.out HA4.out
              have hby : ∀ x ∈ all ++ pbs, x < 256 := by
                rw [← HSN.out]
                exact all_bytes (w := w) (ps.take (k + 1)) (fun p hp => HG.out p (List.mem_of_mem_take hp))
              have hpc4 := ht4.piece hlen4 hby
              obtain ⟨z, hz⟩ : ∃ z, sumA (all ++ pbs) = z := ⟨_, rfl⟩
              have hv := value_any _ _ _ _ ht4.s
              rw [hz] at hv
              have HV := keepf hv
              have HZ := keepf hz
              have HT4 := keepf ht4
              have HPC4 := keepf hpc4
              have HLEN4 := keepf hlen4
              clear hv hz ht4 hpc4 hlen4 hby hcp3 HP3 HI3 HO4 HG4 HA4 HT3
              refine HV.out.mono ?_
              rintro e w5 ⟨rfl, hc5⟩
              have HT5 := keepf (HT4.out.no hc5)
              have hr := refSum_any w5 ⟨A4, (n + plen), c4, all ++ pbs⟩ (HPC4.out.no hc5) (by show (n + plen) ≤ _; omega)
              rw [HZ.out] at hr
              simp only [Piece.cell] at hr
              have HR := keepf hr
              clear hr hc5
              go_wp2_with fail
              refine HR.out.mono ?_
              rintro e w6 ⟨rfl, rfl⟩
              have hl := len_any _ _ _ _ _ HT5.out.s
              rw [HLEN4.out] at hl
              have HLN := keepf hl
              clear hl
              go_wp2_with fail
              refine HLN.out.mono ?_
              rintro e w7 ⟨rfl, rfl⟩
              go_wp2_with fail
              go_roundw
              case rel => exact ⟨k + 1, 0, c4, (n + plen), A4, by omega, by omega, rfl, rfl, by go_num, by omega, keepf (by rw [HSN.out]; exact HLEN4.out.symm), by rw [HSN.out]; exact HT5⟩
              case measure => simp [intOf]; omega
    · have hcase : k = len ∨ (k < len ∧ k = 40) := by omega
      have HC := keepf HT.out.c
      clear HS HG HT HN
      rcases hcase with rfl | ⟨hk1, rfl⟩
      all_goals
        go_wp2_with fail
        refine (value_none _).mono ?_
        rintro e w2 ⟨rfl, hc2⟩
        have HC2 := keepf (HC.out.trans hc2 (fun _ _ h => h))
        clear hc2
        go_wp2_with fail
        refine (len_none _).mono ?_
        rintro e w3 ⟨rfl, rfl⟩
        go_wp2_with fail
        refine (works_any _).mono ?_
        rintro e w4 ⟨rfl, hc4⟩
        have HC4 := keepf (HC2.out.trans hc4 (fun _ _ h => h))
        clear hc4
        go_wp2_with fail
        go_ret
        exact ⟨rfl, HC4.out.no_below⟩

set_option maxRecDepth 100000 in
theorem lifted (os : Os) (started : os.Started) (H : Type) (enc : TypeId × Value → H) :
    ReturnsInHanded {} Try.checked os 4 .any (Rows.adlerAddsSpec.pre6 enc Try.prog Try.f4 Rows.adlerAddsRow.domain false) (Rows.adlerAddsSpec.post enc Try.prog Try.f4 false true false false) := by
  refine returnsInHanded_of_change (C := Try.checked) own started (by kernel_rfl) Try.func4
    (ChangeSpec.witness6 (enc := enc) (C := Try.checked) false ⟨#[], #[.slice none 0 0], []⟩ 8 (by kernel_rfl) (by kernel_rfl) (by kernel_rfl) (by kernel_rfl)) ?_
  intro W base args ds gs before hval0 hW hcnd _
  have hval : ∀ (j : Nat) t v, Try.f4.params[j]? = some t → args[j]? = some v → Value.okWide Try.prog W .any base t v := hval0
  have hW' := hW
  obtain ⟨p, q, hA0, hV, rfl, hfz, hnd⟩ := hW
  have hA : DataW.TrodAll enc Try.prog W 0 (fun _ => true) true Try.f4.params.toList args.toList ds p := hA0
  rw [Try.params4] at hA hval
  obtain ⟨v0, vs0, d0, ds0, p0, q0, hargs, rfl, rfl, h0, r0⟩ := trodAll_cons hA
  obtain ⟨rfl, rfl, rfl⟩ := trodAll_nil r0
  obtain rfl : args = #[v0] := by cases args; simp_all
  obtain ⟨rfl, rfl⟩ := trodVars_none hV
  obtain ⟨a0, len0, cap0, rfl⟩ := okWide_slice Try.underlying27 (hval 0 27 v0 rfl rfl)
  have k0 := h0
  have lt0 : ∀ x ∈ p0, x.block < W.heap.size := by obtain ⟨m, hm⟩ := k0; exact DataW.trod_lt m _ _ _ hm
  obtain ⟨hm0, xs0, hl0, hS0, hg0⟩ : len0 ≤ maxLen ∧ ∃ xs : List Piece, xs.length = len0 ∧ Src W 1 a0 len0 cap0 (xs.flatMap encP) ∧ ∀ b ∈ xs, (fun p : Piece => p.At W NoS) b := by
    obtain ⟨fuel, hf⟩ := h0
    exact open_rows encP (fun p : Piece => p.At W NoS) 1 Try.underlying27 (by kernel_rfl) (fun _ => rfl) (fun n cs y h _ => piece_el h) (by simpa [Value.cells] using hf)
  clear hA0 hval0
  refine (walk a0 len0 cap0 xs0 W hl0 hm0 hS0 hg0).mono fun e W' ⟨he, bel⟩ => ?_
  subst he
  exact ⟨_, rfl, _, _, _, [], _, [], hW', trodAll_mk1 (shut_bool Try.underlying4 _), (trodAll_cons_mk (Below.trod laidOut (by kernel_rfl) (of_decide_eq_true (by kernel_rfl)) k0 bel lt0) trodAll_mk0), rfl, bel.frame _, fun h => by cases h⟩

theorem over : Rows.adlerAddsRow.holds Try.pinned (OpenSpec.ofChange Rows.adlerAddsSpec) :=
  OpenClaim.holds_of_wide 4 Try.f4 rfl rfl rfl rfl rfl rfl rfl ⟨rfl, rfl, rfl, rfl, rfl⟩ rfl rfl rfl rfl rfl (by kernel_rfl) Try.func4 (by kernel_rfl)
    (of_decide_eq_true (by kernel_rfl)) (by unfold Func.isWrapper; first | (rw [if_pos (by decide +kernel)]; kernel_rfl) | (rw [if_neg (by decide +kernel)]; exact ⟨rfl, rfl⟩))
    (fun os started H enc _ => lifted os started H enc)

theorem proved : Rows.AdlerAddsSaid := over
#print axioms proved
end Go.Proofs.Ytgfdinclhakjhaa.adleradds
