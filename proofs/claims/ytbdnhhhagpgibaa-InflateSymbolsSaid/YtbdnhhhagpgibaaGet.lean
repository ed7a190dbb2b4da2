/- What Get does to a reader. -/
import Derived.Test.YtbdnhhhagpgibaaReader
namespace Go.Proofs.Ytbdnhhhagpgibaa
open Go.RowKit
set_option linter.unusedVariables false

/-- Behind a good Get. -/
def GetTo (w : World) (g : Nat) (high : Bool) (bs : List Nat) (a n : Nat) (S : Value) (e : Ending) (w' : World) : Prop :=
  e = .returned (.tuple #[.int .u32 (numAt high bs a n : Nat), .int .i64 0]) ∧ Rd w' g high bs (a + n) S ∧ Chg (fun i => i = g) w w'

/-- Behind a Get that tells an error. -/
def GetErr (w : World) (code : Int) (e : Ending) (w' : World) : Prop :=
  e = .returned (.tuple #[.int .u32 0, .int .i64 code]) ∧ ∃ m, w' = w.drewN m

theorem get_arg (g : Nat) (n : Int) (w : World) (h0 : w.cell? ⟨g, 0, none⟩ = some (.bool true)) (hn1 : -9223372036854775808 ≤ n) (hn2 : n ≤ 9223372036854775807) (hb : n < 0 ∨ 32 < n) :
    Calls Try.prog 31 #[.pointer (some ⟨g, 0, none⟩), .int .i64 n] w (GetErr w 2) := by
  rcases hb with h1 | h1
  · have d1 : decide (n < 0) = true := by simpa using h1
    go_enter Try.func31, Try.ntmps31
    go_wp2_with (go_at_call 36; refine (rready_any g _ h0).mono ?_; rintro e w' ⟨rfl, rfl⟩)
    go_ret2
    exact ⟨rfl, 0, rfl⟩
  · have d1 : decide (n < 0) = false := by simp; omega
    have d2 : decide (32 < n) = true := by simpa using h1
    go_enter Try.func31, Try.ntmps31
    go_wp2_with (go_at_call 36; refine (rready_any g _ h0).mono ?_; rintro e w' ⟨rfl, rfl⟩)
    go_ret2
    exact ⟨rfl, 0, rfl⟩

theorem get_cut (g a n : Nat) (high : Bool) (bs : List Nat) (S : Value) (w : World) (hR : Rd w g high bs a S) (hL : bs.length ≤ 268435456) (ha : a ≤ 8 * bs.length) (hn : n ≤ 32) (hc : 8 * bs.length - a < n) :
    Calls Try.prog 31 #[.pointer (some ⟨g, 0, none⟩), .int .i64 n] w (GetErr w 10) := by
  have h0 := hR.1.cell 0
  have h2 := hR.1.cell 2
  have h3 := hR.1.cell 3
  obtain ⟨A, cap, rfl, hA⟩ := own_slice hR.2
  simp at h0 h2 h3
  clear hR hA
  have d1 : decide ((n : Int) < 0) = false := by simp
  have d2 : decide ((32 : Int) < (n : Int)) = false := by simp; omega
  have d3 : (8 * (bs.length : Int) - a) < n := by omega
  go_enter Try.func31, Try.ntmps31
  go_wp2_with (first
    | (go_at_call 36; refine (rready_any g _ h0).mono ?_; rintro e w' ⟨rfl, rfl⟩)
    | (go_at_call 45; refine (left_any g a bs.length cap A _ (by omega) ha h0 h2 h3).mono ?_; rintro e w' ⟨rfl, m, rfl⟩))
  go_ret2
  exact ⟨rfl, _, rfl⟩

theorem or_piece32 (y pc up : Nat) (hy : y < 4294967296) (hp : pc * 2 ^ up < 4294967296) : bits BinOp.or IntKind.u32 (y : Int) ((pc : Int) * 2 ^ up % 4294967296) = ((y ||| pc * 2 ^ up : Nat) : Int) := by
  have e : ((pc : Int) * 2 ^ up % 4294967296) = ((pc * 2 ^ up : Nat) : Int) := by
    have : ((pc * 2 ^ up : Nat) : Int) = (pc : Int) * 2 ^ up := by simp
    rw [← this]
    omega
  rw [e, u32_or_nat y _ hy hp]

theorem get_stored {w wr : World} {g n a j k nq up ib pc bq : Nat} {high : Bool} {bs : List Nat} {S : Value} {av : Int} (hn : j + k ≤ n) (hn32 : n ≤ 32) (hk : (a + j) % 8 + k ≤ 8)
    (hup : up = abn high n j k) (hib : ib = abn high 8 ((a + j) % 8) k) (hbq : bq = bs.getD ((a + j) / 8) 0) (hpc : bq / 2 ^ ib % 2 ^ k = pc) (hav : av = (a + j + k : Nat))
    (hR : Rd wr g high bs (a + j) S) (hc : Chg (fun i => i = g) w wr) :
    bits BinOp.or IntKind.u32 (getPart high bs a n j : Nat) ((pc : Int) * 2 ^ up % 4294967296) = (getPart high bs a n (j + k) : Nat) ∧
    Rd ((wr.drewN nq).setCell ⟨g, 2, none⟩ (.int .i64 av)) g high bs (a + (j + k)) S ∧
    Chg (fun i => i = g) w ((wr.drewN nq).setCell ⟨g, 2, none⟩ (.int .i64 av)) := by
  have hne := own_ne_blk hR.2 hR.1 (by decide)
  refine ⟨?_, ⟨?_, ?_⟩, (hc.drewN nq).setCell (p := ⟨g, 2, none⟩) (fun _ => rfl) _⟩
  · have h1 := getPart_lt high bs a n j
    have h2 : 2 ^ n ≤ 2 ^ 32 := Nat.pow_le_pow_right (by decide) hn32
    have h3 : pc * 2 ^ up < 2 ^ n := by
      have h4 : pc < 2 ^ k := by rw [← hpc]; exact Nat.mod_lt _ (Nat.two_pow_pos k)
      have h5 : pc * 2 ^ up < 2 ^ k * 2 ^ up := Nat.mul_lt_mul_of_pos_right h4 (Nat.two_pow_pos up)
      have h6 : 2 ^ k * 2 ^ up ≤ 2 ^ n := by
        rw [← Nat.pow_add]
        exact Nat.pow_le_pow_right (by decide) (by rw [hup]; cases high <;> simp [abn] <;> omega)
      omega
    rw [or_piece32 _ _ _ (by omega) (by omega), get_piece high bs a n j k hn hk]
    subst hup hib hbq hpc
    rfl
  · have h1 := (hR.1.drewN nq).set_ 2 (.int .i64 (a + j + k : Nat))
    subst hav
    rw [show a + (j + k) = a + j + k from by omega]
    simpa using h1
  · exact own_chg (S := fun i => i = g) (own_drewN hR.2 nq) ((Chg.refl (fun i => i = g) _).setCell (p := ⟨g, 2, none⟩) (fun _ => rfl) _) (fun i hi he => hne (by rw [hi, he]))

set_option maxHeartbeats 1000000 in
set_option maxRecDepth 100000 in
theorem get_ok (g a n : Nat) (high : Bool) (bs : List Nat) (S : Value) (w : World) (hR : Rd w g high bs a S) (hL : bs.length ≤ 268435456) (hbs : ∀ b ∈ bs, b < 256) (hn : n ≤ 32) (hc : a + n ≤ 8 * bs.length) :
    Calls Try.prog 31 #[.pointer (some ⟨g, 0, none⟩), .int .i64 n] w (GetTo w g high bs a n S) := by
  have h0 := hR.1.cell 0
  have h2 := hR.1.cell 2
  have h3 := hR.1.cell 3
  have hR0 := hR
  obtain ⟨A, cap, rfl, hA⟩ := own_slice hR.2
  simp at h0 h2 h3
  have HR := keepf hR
  have Hbs := keepf hbs
  clear hR hA hR0 hbs
  have d1 : decide ((n : Int) < 0) = false := by simp
  have d2 : decide ((32 : Int) < (n : Int)) = false := by simp; omega
  have d3 : decide ((8 * (bs.length : Int) - a) < n) = false := by simp; omega
  go_enter Try.func31, Try.ntmps31
  go_wp2_with (first
    | (go_at_call 36; refine (rready_any g _ h0).mono ?_; rintro e w' ⟨rfl, rfl⟩)
    | (go_at_call 45; refine (left_any g a bs.length cap A _ (by omega) (by omega) h0 h2 h3).mono ?_; rintro e w' ⟨rfl, m, rfl⟩))
  clear h0 h2 h3
  go_loopw [6, 7] (fun x d wr => ∃ j : Nat, j ≤ n ∧ d = .int .i64 j ∧ x = .int .u32 (getPart high bs a n j : Nat) ∧ Rd wr g high bs (a + j) (.slice A bs.length cap) ∧ Chg (fun i => i = g) w wr) (fun _ d _ => n - (intOf d).toNat)
  case atStart => exact ⟨0, Nat.zero_le _, rfl, by rw [getPart_zero]; rfl, ⟨HR.out.1.drewN m, own_drewN HR.out.2 m⟩, (Chg.refl _ _).drewN m⟩
  case round =>
    obtain ⟨j, hj, rfl, rfl, hRj, hch⟩ := hrel
    have hx32 := getPart_lt high bs a n j
    have hp32 : 2 ^ n ≤ 2 ^ 32 := Nat.pow_le_pow_right (by decide) hn
    have hx33 : getPart high bs a n j ≤ 4294967295 := by omega
    have c1 := hRj.1.cell 1
    have c2 := hRj.1.cell 2
    have c3 := hRj.1.cell 3
    have q2 := hRj.1.frozen 2
    have hne := own_ne_blk hRj.2 hRj.1 (by decide)
    simp at c1 c2 c3
    have HRj := keepf hRj
    have HC := keepf hch
    have HN := keepf hne
    clear hRj hch hne hx32 hp32
    by_cases hlt : j < n
    · obtain ⟨gb, cap', hA, hcap1, hcap2⟩ := own_form HRj.out.2 (by omega)
      simp only [Value.slice.injEq] at hA
      obtain ⟨rfl, _, rfl⟩ := hA
      have hlq : (a + j) / 8 < bs.length := by omega
      have cb := HRj.out.2.cellAt ((a + j) / 8) (by omega)
      have hbq : (bs.getD ((a + j) / 8) 0) < 256 := by
        rw [List.getD_eq_getElem?_getD, List.getElem?_eq_getElem hlq]
        exact Hbs.out _ (List.getElem_mem hlq)
      have hcb : (ucells bs)[(a + j) / 8]? = some (.int .u8 (bs.getD ((a + j) / 8) 0 : Nat)) := by
        simp [ucells, hlq]
      rw [hcb] at cb
      clear hcb
      obtain ⟨bq, hbe⟩ : ∃ bq, bq = bs.getD ((a + j) / 8) 0 := ⟨_, rfl⟩
      rw [← hbe] at cb hbq
      have HB := keepf hbe
      clear hbe
      go_upto_region 10 with fail
      go_cut [8] from 23 to 80 (fun kk wx => ∃ k : Nat, 1 ≤ k ∧ j + k ≤ n ∧ (a + j) % 8 + k ≤ 8 ∧ kk = .int .i64 k ∧ wr = wx)
      case first =>
        go_wp2_with (go_at_call 46; refine (room_any g (a + j) _ (by omega) c2).mono ?_; rintro e w' ⟨rfl, rfl⟩)
        all_goals go_meet
        all_goals first
          | exact ⟨min (n - j) (8 - (a + j) % 8), by omega, by omega, by omega, by congr 1; omega, rfl⟩
          | exact ⟨n - j, by omega, by omega, by omega, by congr 1; omega, rfl⟩
          | exact ⟨8 - (a + j) % 8, by omega, by omega, by omega, by congr 1, rfl⟩
      case rest =>
        obtain ⟨k, hk1, hk2, hk3, rfl, rfl⟩ := hcut
        obtain ⟨up, hup⟩ : ∃ up : Nat, up = abn high n j k := ⟨_, rfl⟩
        obtain ⟨ib, hib⟩ : ∃ ib : Nat, ib = abn high 8 ((a + j) % 8) k := ⟨_, rfl⟩
        have hup2 : up ≤ 31 := by rw [hup]; cases high <;> simp [abn] <;> omega
        have hib2 : ib ≤ 7 := by rw [hib]; cases high <;> simp [abn] <;> omega
        have hk8 : k ≤ 8 := by omega
        have HU : Hid (∀ W : World, W.cell? ⟨g, 1, none⟩ = some (.bool high) → Calls Try.prog 48 #[.pointer (some ⟨g, 0, none⟩), .int .i64 n, .int .i64 j, .int .i64 k] W fun e w' => e = .returned (.int .i64 up) ∧ W = w') := by
          intro W h
          have := above_any g high n j k W (by omega) (by omega) (by omega) (by omega) h
          rw [abv_n _ _ _ _ (by omega), ← hup] at this
          exact this
        have HI : Hid (∀ W : World, W.cell? ⟨g, 1, none⟩ = some (.bool high) → W.cell? ⟨g, 2, none⟩ = some (.int .i64 (a + j : Nat)) → Calls Try.prog 47 #[.pointer (some ⟨g, 0, none⟩), .int .i64 k] W fun e w' => e = .returned (.int .i64 ib) ∧ W = w') := by
          intro W h h'
          have := inByte_any g high (a + j) k W (by omega) (by omega) (by omega) h h'
          rw [show (8 : Int) = ((8 : Nat) : Int) from rfl, abv_n _ _ _ _ (by omega), ← hib] at this
          exact this
        have HUp := keepf hup
        have HIb := keepf hib
        clear hup hib
        go_upto_region 11 with fail
        go_quiet ((go_at_call 47; exact quiet_left (HI.out _ c1 c2)))
        go_upto_region 12 with fail
        rw [piece_eq bq ib k (by omega) hk8]
        generalize hP : bq / 2 ^ ib % 2 ^ k = pc
        have hpc : pc < 256 := by
          have h1 : pc < 2 ^ k := by rw [← hP]; exact Nat.mod_lt _ (Nat.two_pow_pos k)
          have h2 : 2 ^ k ≤ 2 ^ 8 := Nat.pow_le_pow_right (by decide) hk8
          omega
        have HP := keepf hP
        clear hP
        go_wp2_with (go_at_call 48; refine (HU.out _ (by exact c1)).mono ?_; rintro e w' ⟨rfl, rfl⟩)
        go_roundw
        case rel =>
          obtain ⟨r1, r2, r3⟩ := get_stored (nq := nq) (av := ↑a + ↑j + ↑k) (by omega) hn hk3 HUp.out HIb.out HB.out HP.out (by omega) HRj.out HC.out
          exact ⟨j + k, by omega, by go_num, by rw [r1], r2, r3⟩
        case measure => simp [intOf]; omega
    · obtain rfl : j = n := by omega
      go_wp2
      go_ret2
      exact ⟨by rw [← getPart_all]; rfl, HRj.out, HC.out⟩
end Go.Proofs.Ytbdnhhhagpgibaa
