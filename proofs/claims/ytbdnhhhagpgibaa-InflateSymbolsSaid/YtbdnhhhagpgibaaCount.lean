/- What count tells of lengths: the rows that they ask for, and the room. -/
import Derived.Test.YtbdnhhhagpgibaaLenR
import Derived.Test.YtbdnhhhagpgibaaBig
import Derived.Deep.RegionHeld3
import Derived.Deep.DeepCutAuto
import Derived.Deep.Cut
import Derived.Deep.CutRange
namespace Go.Proofs.Ytbdnhhhagpgibaa
open Go.RowKit
set_option linter.unusedVariables false
set_option linter.unusedSimpArgs false

def zrows : Array Value := ((List.range 48).map fun j => if j % 3 = 2 then Value.int .i64 0 else .int .u32 0).toArray
theorem zero_rows : (Try.prog.info? 108).bind (·.zero) = some (.agg zrows) := by kernel_rfl
theorem size_rows : (Try.prog.info? 108).map (·.size) = some 48 := by kernel_rfl
theorem rows_zero : RowsIs zrows (fun _ => 0) (fun _ => 0) (fun _ => 0) where
  size := by simp [zrows]
  c0 i hi := by simp [zrows, show i * 3 < 48 from by omega, show i * 3 % 3 = 0 from by omega]
  c1 i hi := by simp [zrows, show i * 3 + 1 < 48 from by omega, show (i * 3 + 1) % 3 = 1 from by omega]
  c2 i hi := by simp [zrows, show i * 3 + 2 < 48 from by omega, show (i * 3 + 2) % 3 = 2 from by omega]

/-- What count leaves. -/
def CountTo (w : World) (ls : List Int) (e : Ending) (w' : World) : Prop :=
  ∃ (R : Array Value) (x : Nat), e = .returned (.tuple #[.agg R, .int .i64 x, .bool (decide (May ls))]) ∧ R.size = 48 ∧ R.all (·.oneCell') = true ∧ (May ls → x = rmOf ls ∧ RowsIs R (fun _ => 0) (cnt ls) (fun _ => 0)) ∧ Chg NoS w w'

theorem chg_new {w wr w2 : World} {g : Nat} (h : Chg NoS w wr) (hg : g = w.heap.size) (k : Chg (fun i => i = g) wr w2) : Chg NoS w w2 :=
  h.trans k (fun i hi e => by omega)

theorem shr_room (m : Nat) (hm : m ≤ 15) : 32768 / 2 ^ m = 2 ^ (15 - m) := by
  rw [show (32768 : Nat) = 2 ^ 15 from rfl, Nat.pow_div hm (by decide)]

set_option maxHeartbeats 2000000 in
set_option maxRecDepth 100000 in
theorem count_any (ls : List Int) (A : Option Addr) (c : Nat) (w : World) (hL : ls.length ≤ 1000) (hb : in64 ls) (hS : Src w 1 A ls.length c (icells ls)) :
    Calls Try.prog 67 #[.slice A ls.length c] w (CountTo w ls) := by
  have HS := keepf hS
  have HB := keepf hb
  clear hS hb
  by_cases h0 : ls.length < 1
  · have H : Hid (¬ May ls) := by
      show ¬ May ls
      rintro ⟨h, _⟩
      omega
    have e0 : ls.length = 0 := by omega
    rw [e0]
    clear HS HB hL h0 e0
    go_enter Try.func67, Try.ntmps67
    go_wp2_with (first
      | (refine alloc_big rfl 108 rfl _ zero_rows ?_; intro w1 g hg hblk hch; have HG := keepf hg; have HBL := keepf hblk; have HCH := keepf hch; clear hg hblk hch)
      | (refine load_blk rfl 108 _ rfl _ rfl 108 _ _ HBL.out Try.underlying108 rfl 48 size_rows rows_zero.size ?_)
      | (refine store_blk rfl 108 _ _ rfl _ _ rfl rfl 108 _ HBL.out 48 size_rows rows_zero.size rows_zero.size rows_zero.one ?_; intro w2 hblk2 hch2; have HB2 := keepf hblk2; have HC2 := keepf hch2; clear hblk2 hch2))
    refine bodyPost_ret (results_cell2 rfl _ _ _ _ _ _ _ _ rfl HB2.out Try.underlying108 rfl 48 size_rows rows_zero.size rfl rfl) rfl ?_
    exact ⟨zrows, 0, by rw [decide_eq_false H.out]; rfl, rows_zero.size, rows_zero.one, fun h => absurd h H.out, chg_new HCH.out HG.out HC2.out⟩
  · by_cases h320 : 320 < ls.length
    · have H : Hid (¬ May ls) := by
        show ¬ May ls
        rintro ⟨_, h, _⟩
        omega
      clear HS HB hL
      generalize ls.length = n at *
      have d1 : decide ((n : Int) < 1) = false := by simp; omega
      have d2 : decide ((320 : Int) < n) = true := by simp; omega
      go_enter Try.func67, Try.ntmps67
      go_wp2_with (first
        | (refine alloc_big rfl 108 rfl _ zero_rows ?_; intro w1 g hg hblk hch; have HG := keepf hg; have HBL := keepf hblk; have HCH := keepf hch; clear hg hblk hch)
        | (refine load_blk rfl 108 _ rfl _ rfl 108 _ _ HBL.out Try.underlying108 rfl 48 size_rows rows_zero.size ?_)
        | (refine store_blk rfl 108 _ _ rfl _ _ rfl rfl 108 _ HBL.out 48 size_rows rows_zero.size rows_zero.size rows_zero.one ?_; intro w2 hblk2 hch2; have HB2 := keepf hblk2; have HC2 := keepf hch2; clear hblk2 hch2))
      refine bodyPost_ret (results_cell2 rfl _ _ _ _ _ _ _ _ rfl HB2.out Try.underlying108 rfl 48 size_rows rows_zero.size rfl rfl) rfl ?_
      exact ⟨zrows, 0, by rw [decide_eq_false H.out]; rfl, rows_zero.size, rows_zero.one, fun h => absurd h H.out, chg_new HCH.out HG.out HC2.out⟩
    · obtain ⟨n, hn⟩ : ∃ n, n = ls.length := ⟨_, rfl⟩
      rw [← hn] at h0 h320 hL ⊢
      have d1 : decide ((n : Int) < 1) = false := by simp; omega
      have d2 : decide ((320 : Int) < n) = false := by simp; omega
      have HN := keepf hn
      clear hn
      obtain ⟨b, off, rfl, hcell⟩ := HS.out.plain (by rw [icells_len]; have := HN.out; omega)
      have HC := keepf hcell
      clear hcell HS
      go_enter Try.func67, Try.ntmps67
      go_wp2_with (first
        | (refine alloc_big rfl 108 rfl _ zero_rows ?_; intro w1 g hg hblk hch; have HG := keepf hg; have HBL := keepf hblk; have HCH := keepf hch; clear hg hblk hch))
      clear d1 d2
      go_loopw [3, 18] (fun v i wr => ∃ k x : Nat, ∃ R : Array Value, k ≤ n ∧ x ≤ 10485760 ∧ i = .int .i64 k ∧ v = .int .i64 x ∧ Hid (x = rmOf (ls.take k) ∧ okL (ls.take k)) ∧ Hid (RowsIs R (fun _ => 0) (cnt (ls.take k)) (fun _ => 0)) ∧ Blk wr g 108 R ∧ Chg NoS w wr) (fun _ i _ => n - (intOf i).toNat)
      case atStart => exact ⟨0, 0, zrows, Nat.zero_le _, by omega, rfl, rfl, ⟨rfl, fun z hz => by simp at hz⟩, rows_zero.congr (fun _ _ => rfl) (fun i _ => by simp [cnt_nil]) (fun _ _ => rfl), HBL.out, HCH.out⟩
      case round =>
        obtain ⟨k, x, R, hk, hx, rfl, rfl, hI, hR, hB, hch⟩ := hrel
        have HBk := keepf hB
        have HCh := keepf hch
        clear hB hch
        by_cases hlt : k < n
        · obtain ⟨z, hz⟩ : ∃ z, ls[k]? = some z := ⟨_, List.getElem?_eq_getElem (by have := HN.out; omega)⟩
          have hc := (HCh.out.cell (p := ⟨b, off + k, none⟩) (by exact cell_lt (HC.out k _ (icells_get hz))) (fun h => h)).trans (HC.out k _ (icells_get hz))
          have hzb := HB.out z (List.mem_of_getElem? hz)
          have HZ := keepf hz
          clear hz
          by_cases hneg : z < 0
          · have d1 : decide (z < 0) = true := by simpa using hneg
            go_wp2_with (first
              | (refine load_blk rfl 108 _ rfl _ rfl 108 _ _ HBk.out Try.underlying108 rfl 48 size_rows hR.out.size ?_)
              | (refine store_blk rfl 108 _ _ rfl _ _ rfl rfl 108 _ HBk.out 48 size_rows hR.out.size hR.out.size hR.out.one ?_; intro w2 hblk2 hch2; have HB2 := keepf hblk2; have HC2 := keepf hch2; clear hblk2 hch2))
            refine bodyPost_ret (results_cell2 rfl _ _ _ _ _ _ _ _ rfl HB2.out Try.underlying108 rfl 48 size_rows hR.out.size rfl rfl) rfl ?_
            have hno := not_may (not_okL HZ.out (.inl hneg))
            exact ⟨R, 0, by rw [decide_eq_false hno]; rfl, hR.out.size, hR.out.one, fun h => absurd h hno, chg_new HCh.out HG.out HC2.out⟩
          · have d1 : decide (z < 0) = false := by simpa using hneg
            by_cases hbig : 15 < z
            · have d2 : decide (15 < z) = true := by simpa using hbig
              go_wp2_with (first
                | (refine load_blk rfl 108 _ rfl _ rfl 108 _ _ HBk.out Try.underlying108 rfl 48 size_rows hR.out.size ?_)
                | (refine store_blk rfl 108 _ _ rfl _ _ rfl rfl 108 _ HBk.out 48 size_rows hR.out.size hR.out.size hR.out.one ?_; intro w2 hblk2 hch2; have HB2 := keepf hblk2; have HC2 := keepf hch2; clear hblk2 hch2))
              refine bodyPost_ret (results_cell2 rfl _ _ _ _ _ _ _ _ rfl HB2.out Try.underlying108 rfl 48 size_rows hR.out.size rfl rfl) rfl ?_
              have hno := not_may (not_okL HZ.out (.inr hbig))
              exact ⟨R, 0, by rw [decide_eq_false hno]; rfl, hR.out.size, hR.out.one, fun h => absurd h hno, chg_new HCh.out HG.out HC2.out⟩
            · have d2 : decide (15 < z) = false := by simpa using hbig
              obtain ⟨m, rfl⟩ := Int.eq_ofNat_of_zero_le (by omega : 0 ≤ z)
              have hm : m ≤ 15 := by omega
              have ho := may_take hI.out.2 HZ.out (by omega) (by omega)
              have hr : rmOf (ls.take (k + 1)) = rmOf (ls.take k) + (if (m : Int) = 0 then 0 else 2 ^ (15 - m)) := by
                rw [take_snoc ls k m HZ.out, rm_snoc]; simp
              have hcn : ∀ i, cnt (ls.take (k + 1)) i = cnt (ls.take k) i + (if i ≠ 0 ∧ (m : Int) = i then 1 else 0) := fun i => by
                rw [take_snoc ls k m HZ.out, cnt_snoc]
              have HO := keepf ho
              have HR := keepf hr
              have HCN := keepf hcn
              clear ho hr hcn hzb
              by_cases hm0 : m = 0
              · subst hm0
                go_wp2_with fail
                go_roundw
                case rel => exact ⟨k + 1, x, R, by omega, by omega, by go_num, rfl, ⟨by have := HR.out; simp at this; rw [this]; exact hI.out.1, HO.out⟩, hR.out.congr (fun _ _ => rfl) (fun i _ => by rw [HCN.out]; simp; omega) (fun _ _ => rfl), HBk.out, HCh.out⟩
                case measure => simp [intOf]; omega
              · have hmi : 0 < (m : Int) := by omega
                have q1 : wr.cell? ⟨g, m * 3 + 1, none⟩ = some (.int .u32 (cnt (ls.take k) m : Nat)) := by
                  rw [HBk.out.cell]; exact hR.out.c1 m (by omega)
                have q2 := HBk.out.frozen (m * 3 + 1)
                have hcb : cnt (ls.take k) m ≤ 320 := by
                  have h1 := cnt_le (ls.take k) m
                  have h2 := HN.out
                  simp at h1
                  omega
                have hp : (32768 : Int) / 2 ^ m = ((2 ^ (15 - m) : Nat) : Int) := by
                  rw [← shr_room m hm]
                  simp
                have hp2 : 2 ^ (15 - m) ≤ 32768 := Nat.pow_le_pow_right (n := 2) (by decide) (by omega : 15 - m ≤ 15)
                have hrl := rm_le (ls.take (k + 1))
                have hlen : (ls.take (k + 1)).length ≤ 320 := by have := HN.out; simp; omega
                have hr2 := HR.out
                rw [if_neg (by omega), ← hI.out.1] at hr2
                have hxb : x + 2 ^ (15 - m) ≤ 10485760 := by omega
                have hR2 := hR.out.set1 m (cnt (ls.take k) m + 1) (by omega)
                have hcn2 := HCN.out
                have HR2 := keepf hR2
                have HRR := keepf hr2
                clear hrl hlen hr2 hR2 hcn2
                obtain ⟨pw, hpw⟩ : ∃ pw, pw = 2 ^ (15 - m) := ⟨_, rfl⟩
                rw [← hpw] at hp hp2 hxb
                have HPW := keepf hpw
                have HCM : Hid (∀ i, i < 16 → (if i = m then cnt (ls.take k) m + 1 else cnt (ls.take k) i) = cnt (ls.take (k + 1)) i) := by
                  intro i hi
                  rw [HCN.out]
                  by_cases e : i = m
                  · subst e; simp [hm0]
                  · simp [e]; omega
                clear hpw hR HCN
                generalize cnt (ls.take k) m = cm at *
                go_wp2_with fail
                go_roundw
                case rel =>
                  exact ⟨k + 1, x + pw, _, by omega, by omega, by go_num, by go_num, ⟨by rw [HRR.out, HPW.out], HO.out⟩, HR2.out.congr (fun _ _ => rfl) HCM.out (fun _ _ => rfl), HBk.out.set_ _ _, HCh.out.setCell (p := ⟨g, m * 3 + 1, none⟩) (fun h => by have := HG.out; exact absurd h (by show ¬ g < _; omega)) _⟩
                case measure => simp [intOf]; omega
        · obtain rfl : k = n := by omega
          have hI2 : x = rmOf ls ∧ okL ls := by have := hI.out; rwa [HN.out, List.take_length] at this
          have hR2 : RowsIs R (fun _ => 0) (cnt ls) (fun _ => 0) := by have := hR.out; rwa [HN.out, List.take_length] at this
          have hdm : decide (May ls) = decide ((x : Int) ≤ 32768) := by
            rw [decide_eq_decide]
            have := HN.out
            constructor
            · intro h; have := h.2.2.2; omega
            · intro h; exact ⟨by omega, by omega, hI2.2, by omega⟩
          have HI2 := keepf hI2
          have HR2 := keepf hR2
          have HDM := keepf hdm
          clear hI2 hR2 hdm
          go_wp2_with (first
            | (refine load_blk rfl 108 _ rfl _ rfl 108 _ _ HBk.out Try.underlying108 rfl 48 size_rows hR.out.size ?_)
            | (refine store_blk rfl 108 _ _ rfl _ _ rfl rfl 108 _ HBk.out 48 size_rows hR.out.size hR.out.size hR.out.one ?_; intro w2 hblk2 hch2; have HB2 := keepf hblk2; have HC2 := keepf hch2; clear hblk2 hch2))
          refine bodyPost_ret (results_cell2 rfl _ _ _ _ _ _ _ _ rfl HB2.out Try.underlying108 rfl 48 size_rows hR.out.size rfl rfl) rfl ?_
          exact ⟨R, x, by rw [HDM.out]; rfl, hR.out.size, hR.out.one, fun _ => ⟨HI2.out.1, HR2.out⟩, chg_new HCh.out HG.out HC2.out⟩
end Go.Proofs.Ytbdnhhhagpgibaa
