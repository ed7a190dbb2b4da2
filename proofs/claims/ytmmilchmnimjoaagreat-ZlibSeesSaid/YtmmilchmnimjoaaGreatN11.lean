/- Merged by program: LzM Tok SizeT Match Three MapU StepM Steps. -/
import Derived.Test.YtmmilchmnimjoaaGreatN00
import Derived.Test.YtmmilchmnimjoaaGreatProg
import Derived.Deep.RegionHeld3
import Derived.Deep.QuietTactic
import Derived.BigQuiet
import Derived.Deep.Cut
import Derived.IntWalk
import Derived.Laws.BitsAllLaws
import Derived.Maps.OwnSet
import Derived.OwnWalk
/- Tokens: plain mathematics, no program: which may be, and what bytes they are. -/
namespace Go.Proofs.YtmmilchmnimjoaaGreat
open Go.RowKit
set_option linter.unusedVariables false
set_option linter.unusedSimpArgs false
structure Tk where
  b : Nat
  l : Int
  f : Int
deriving Inhabited
def Tk.good (t : Tk) : Prop := t.b < 256 ∧ (-9223372036854775808 ≤ t.l ∧ t.l ≤ 9223372036854775807) ∧ (-9223372036854775808 ≤ t.f ∧ t.f ≤ 9223372036854775807)
def Tk.wellB (t : Tk) : Bool := if t.l = 0 then decide (t.f = 0) else decide (3 ≤ t.l ∧ t.l ≤ 258 ∧ 1 ≤ t.f ∧ t.f ≤ 32768 ∧ t.b = 0)
def Tk.size (t : Tk) : Int := if t.l < 1 then 1 else t.l
def repL (far : Nat) : Nat → List Nat → List Nat
  | 0, out => out
  | n + 1, out => repL far n (out ++ [out.getD (out.length - far) 0])
theorem repL_len (far : Nat) : ∀ (n : Nat) (out : List Nat), (repL far n out).length = out.length + n
  | 0, out => rfl
  | n + 1, out => by rw [repL, repL_len far n]; simp; omega
def Tk.put (t : Tk) (out : List Nat) : List Nat := if t.l = 0 then out ++ [t.b] else repL t.f.toNat t.l.toNat out
def Tk.err (t : Tk) (n most : Int) : Int := if t.wellB = false then 2 else if n < t.f then 14 else if most - n < t.size then 3 else 0
theorem Tk.wellB_size {t : Tk} (h : t.wellB = true) : 1 ≤ t.size ∧ t.size ≤ 258 := by
  unfold Tk.wellB at h
  unfold Tk.size
  split at h <;> simp at h <;> split <;> omega
theorem Tk.put_len {t : Tk} (out : List Nat) (h : t.wellB = true) : ((t.put out).length : Int) = out.length + t.size := by
  unfold Tk.wellB at h
  unfold Tk.put Tk.size
  split at h <;> simp at h
  · rename_i h0
    rw [if_pos h0, if_pos (by omega)]
    simp
  · rename_i h0
    rw [if_neg h0, if_neg (by omega), repL_len]
    omega
def runT (most : Int) : List Tk → List Nat → Except Int (List Nat)
  | [], out => .ok out
  | t :: ts, out => if t.err out.length most = 0 then runT most ts (t.put out) else .error (t.err out.length most)
theorem take_succ_at {α : Type} {l : List α} {k : Nat} {x : α} (h : l[k]? = some x) : l.take (k + 1) = l.take k ++ [x] := by
  rw [List.take_add_one, h]; rfl
theorem drop_at {α : Type} {l : List α} {k : Nat} {x : α} (h : l[k]? = some x) : l.drop k = x :: l.drop (k + 1) := by
  have hk := (List.getElem?_eq_some_iff.1 h).1
  rw [List.drop_eq_getElem_cons hk]
  congr 1
  exact (List.getElem?_eq_some_iff.1 h).2
theorem err_ok {t : Tk} {n most : Int} (h : t.err n most = 0) : t.wellB = true ∧ t.f ≤ n ∧ t.size ≤ most - n := by
  unfold Tk.err at h
  split at h
  · omega
  · split at h
    · omega
    · split at h
      · omega
      · rename_i h1 h2 h3
        exact ⟨by simpa using h1, by omega, by omega⟩
theorem runT_le {most : Int} : ∀ (l : List Tk) (out r : List Nat), runT most l out = .ok r → (out.length : Int) ≤ most → (r.length : Int) ≤ most ∧ out.length ≤ r.length
  | [], out, r, h, hl => by cases h; exact ⟨hl, Nat.le_refl _⟩
  | t :: ts, out, r, h, hl => by
    rw [runT] at h
    split at h
    · rename_i he
      obtain ⟨h1, h2, h3⟩ := err_ok he
      have h4 := t.put_len out h1
      have h5 := Tk.wellB_size h1
      have ih := runT_le ts _ r h (by omega)
      exact ⟨ih.1, by omega⟩
    · cases h
theorem runT_count {most : Int} : ∀ (l : List Tk) (out r : List Nat), runT most l out = .ok r → out.length + l.length ≤ r.length
  | [], out, r, h => by cases h; simp
  | t :: ts, out, r, h => by
    rw [runT] at h
    split at h
    · rename_i he
      have h1 := (err_ok he).1
      have h4 := t.put_len out h1
      have h5 := Tk.wellB_size h1
      have ih := runT_count ts _ r h
      simp only [List.length_cons]
      omega
    · cases h
theorem runT_fewer {most : Int} : ∀ (l : List Tk) (out r : List Nat), runT most l out = .ok r → (∃ t ∈ l, t.l ≠ 0) → out.length + l.length < r.length
  | [], out, r, h, hx => by obtain ⟨t, ht, _⟩ := hx; cases ht
  | t :: ts, out, r, h, hx => by
    rw [runT] at h
    split at h
    · rename_i he
      have h1 := (err_ok he).1
      have h4 := t.put_len out h1
      have h5 := Tk.wellB_size h1
      have ih := runT_count ts _ r h
      simp only [List.length_cons]
      rcases Decidable.em (t.l = 0) with h0 | h0
      · obtain ⟨x, hx, hx0⟩ := hx
        rcases List.mem_cons.1 hx with e | e
        · subst e; exact absurd h0 hx0
        · have ih2 := runT_fewer ts _ r h ⟨x, e, hx0⟩
          omega
      · have : 3 ≤ t.size := by
          unfold Tk.wellB at h1
          unfold Tk.size
          rw [if_neg h0] at h1
          simp at h1
          split <;> omega
        omega
    · cases h
def ocells (bs : List Nat) : List Value := bs.map fun b => .int .u8 (b : Nat)
theorem ocells_at {bs : List Nat} {k x : Nat} (h : bs[k]? = some x) : (ocells bs)[k]? = some (.int .u8 (x : Nat)) := by simp [ocells, h]
theorem ocells_len (a : List Nat) : (ocells a).length = a.length := by simp [ocells]
def encT (t : Tk) : List Value := [.int .u8 (t.b : Nat), .int .i64 t.l, .int .i64 t.f]
def kcells (l : List Tk) : List Value := l.flatMap encT
theorem kcells_app (l m : List Tk) : kcells (l ++ m) = kcells l ++ kcells m := by simp [kcells]
def NewT (w : World) (l : List Tk) (A : Option Addr) (c : Nat) (w' : World) : Prop :=
  w'.ownsRow 0 180 3 (.slice A l.length c) l.length (kcells l) ∧ Chg NoS w w' ∧ ∀ a, A = some a → w.heap.size ≤ a.block
end Go.Proofs.YtmmilchmnimjoaaGreat
/- What a token's own functions do: wellMade, size, check. -/
namespace Go.Proofs.YtmmilchmnimjoaaGreat
open Go.RowKit
set_option linter.unusedVariables false
set_option linter.unusedSimpArgs false
abbrev Tk.val (t : Tk) : Value := .agg #[.int .u8 (t.b : Nat), .int .i64 t.l, .int .i64 t.f]
theorem ret_n64 {a b : Int} (h : a = b) : Ending.returned (.int .i64 a) = .returned (.int .i64 b) := by rw [h]
theorem tsize_any (t : Tk) (w : World) :
    Calls Tryz.prog 131 #[t.val] w fun e w' => e = .returned (.int .i64 t.size) ∧ Chg NoS w w' := by
  obtain ⟨b, l, f⟩ := t
  rcases Decidable.em (l < 1) with h | h
  · go_enter Tryz.func131, Tryz.ntmps131
    go_wp2_with fail
    go_ret
    exact ⟨ret_n64 (by simp [Tk.size]; omega), (Chg.refl _ _).alloc _⟩
  · go_enter Tryz.func131, Tryz.ntmps131
    go_wp2_with fail
    go_ret
    exact ⟨ret_n64 (by simp [Tk.size]; omega), (Chg.refl _ _).alloc _⟩
end Go.Proofs.YtmmilchmnimjoaaGreat
/- size, Check: how many bytes tokens are, or the error. -/
namespace Go.Proofs.YtmmilchmnimjoaaGreat
open Go.RowKit
set_option linter.unusedVariables false
set_option linter.unusedSimpArgs false
end Go.Proofs.YtmmilchmnimjoaaGreat
/- Match, the program's and the document's: how many bytes repeat. -/
namespace Go.Proofs.YtmmilchmnimjoaaGreat
open Go.RowKit
set_option linter.unusedVariables false
set_option linter.unusedSimpArgs false
def mtF (bs : List Nat) (far : Nat) : Nat → Nat → Nat
  | 0, _ => 0
  | m + 1, at_ => if at_ < bs.length ∧ bs.getD at_ 0 = bs.getD (at_ - far) 0 then mtF bs far m (at_ + 1) + 1 else 0
def mtI (bs : List Nat) (at_ far most : Int) : Nat := if at_ < 0 ∨ (bs.length : Int) ≤ at_ ∨ far < 1 ∨ at_ < far then 0 else mtF bs far.toNat most.toNat at_.toNat
theorem mtF_le (bs : List Nat) (far : Nat) : ∀ (m p : Nat), mtF bs far m p ≤ m
  | 0, _ => Nat.le_refl _
  | m + 1, p => by
    unfold mtF
    split
    · have := mtF_le bs far m (p + 1); omega
    · omega
theorem mtF_in (bs : List Nat) (far : Nat) : ∀ (m p : Nat), p ≤ bs.length → p + mtF bs far m p ≤ bs.length
  | 0, p, h => by simpa [mtF] using h
  | m + 1, p, h => by
    unfold mtF
    split
    · rename_i h1
      have := mtF_in bs far m (p + 1) (by omega); omega
    · omega
theorem mtF_eq (bs : List Nat) (far : Nat) : ∀ (m p j : Nat), j < mtF bs far m p → bs.getD (p + j) 0 = bs.getD (p + j - far) 0
  | 0, _, j, h => by simp [mtF] at h
  | m + 1, p, j, h => by
    unfold mtF at h
    split at h
    · rename_i h1
      rcases j with _ | j
      · exact h1.2
      · have := mtF_eq bs far m (p + 1) j (by omega)
        rw [show p + (j + 1) = p + 1 + j from by omega]
        exact this
    · omega
theorem mtF_ge (bs : List Nat) (far : Nat) : ∀ (m p n : Nat), n ≤ m → p + n ≤ bs.length → (∀ j, j < n → bs.getD (p + j) 0 = bs.getD (p + j - far) 0) → n ≤ mtF bs far m p
  | 0, _, n, h, _, _ => by omega
  | m + 1, p, 0, _, _, _ => Nat.zero_le _
  | m + 1, p, n + 1, h, hl, he => by
    unfold mtF
    rw [if_pos ⟨by omega, he 0 (by omega)⟩]
    have := mtF_ge bs far m (p + 1) n (by omega) (by omega) (fun j hj => by
      have := he (j + 1) (by omega)
      rw [show p + (j + 1) = p + 1 + j from by omega] at this
      exact this)
    omega
theorem mtF_next {bs : List Nat} {far m p : Nat} (hm : 0 < m) (h : p < bs.length) (he : bs.getD p 0 = bs.getD (p - far) 0) : mtF bs far m p = mtF bs far (m - 1) (p + 1) + 1 := by
  obtain ⟨k, rfl⟩ : ∃ k, m = k + 1 := ⟨m - 1, by omega⟩
  rw [mtF, if_pos ⟨h, he⟩]
  rfl
theorem mtF_miss {bs : List Nat} {far m p : Nat} (h : m = 0 ∨ bs.length ≤ p ∨ bs.getD p 0 ≠ bs.getD (p - far) 0) : mtF bs far m p = 0 := by
  rcases m with _ | m
  · rfl
  · rw [mtF, if_neg]
    rintro ⟨h1, h2⟩
    rcases h with h | h | h
    · omega
    · omega
    · exact h h2
theorem byte_cell {w w' : World} {A : Option Addr} {n c : Nat} {bs : List Nat} (h : Src w 1 A n c (ocells bs)) (hc : Chg NoS w w') {k : Nat} (hk : k < bs.length) :
    ∃ b off, A = some ⟨b, off, none⟩ ∧ ∀ j, j < bs.length → w'.cell? ⟨b, off + j, none⟩ = some (.int .u8 (bs.getD j 0 : Nat)) := by
  obtain ⟨b, off, rfl, hcell⟩ := h.plain (by rw [ocells_len]; omega)
  refine ⟨b, off, rfl, fun j hj => ?_⟩
  have e0 := hcell j (.int .u8 (bs.getD j 0 : Nat)) (ocells_at (by rw [List.getD_eq_getElem?_getD, List.getElem?_eq_getElem hj]; rfl))
  exact (hc.cell (p := ⟨b, _, none⟩) (by exact cell_lt e0) (fun h => h)).trans e0
theorem match_none (bs : List Nat) (A : Option Addr) (c : Nat) (p far most : Int) (w : World) (h : p < 0 ∨ (bs.length : Int) ≤ p ∨ far < 1 ∨ p < far) :
    Calls Tryz.prog 160 #[.slice A bs.length c, .int .i64 p, .int .i64 far, .int .i64 most] w fun e w' => e = .returned (.int .i64 (mtI bs p far most)) ∧ w = w' := by
  have hE := keepf (show mtI bs p far most = 0 from if_pos h)
  have hcase : p < 0 ∨ (¬ p < 0 ∧ (bs.length : Int) ≤ p) ∨ (¬ p < 0 ∧ ¬ (bs.length : Int) ≤ p ∧ far < 1) ∨ (¬ p < 0 ∧ ¬ (bs.length : Int) ≤ p ∧ ¬ far < 1 ∧ p < far) := by omega
  clear h
  obtain ⟨n, hn⟩ : ∃ n, n = bs.length := ⟨_, rfl⟩
  rw [← hn] at hcase ⊢
  clear hn
  rcases hcase with h | ⟨h1, h⟩ | ⟨h1, h2, h⟩ | ⟨h1, h2, h3, h⟩
  all_goals
    go_enter Tryz.func160, Tryz.ntmps160
    go_wp2_with fail
    go_ret
    exact ⟨ret_n64 (by rw [hE.out]; rfl), rfl⟩
set_option maxHeartbeats 1000000 in
theorem match_in (bs : List Nat) (A : Option Addr) (c p far : Nat) (most : Int) (w : World) (hS : Src w 1 A bs.length c (ocells bs)) (hl : bs.length ≤ maxLen) (hc : bs.length ≤ c) (hp : p < bs.length) (hf : 1 ≤ far) (hfp : far ≤ p) (hm : most ≤ 9223372036854775807) :
    Calls Tryz.prog 160 #[.slice A bs.length c, .int .i64 p, .int .i64 far, .int .i64 most] w fun e w' => e = .returned (.int .i64 (mtI bs p far most)) ∧ ∃ q, w' = w.drewN q := by
  have hE := keepf (show mtI bs p far most = mtF bs far most.toNat p from by rw [mtI, if_neg (by omega)]; rfl)
  obtain ⟨b, off, rfl, hcell⟩ := byte_cell hS (Chg.refl _ _) hp
  unfold maxLen at hl
  have HCELL := keepf hcell
  obtain ⟨n, hn⟩ : ∃ n, n = bs.length := ⟨_, rfl⟩
  have HN := keepf hn
  rw [← hn] at hl hp hc ⊢
  have d1 : ¬ ((p : Int) - far = c) := by omega
  have d2 : ((p : Int) - far).toNat = p - far := by omega
  clear hS hn hcell
  go_enter Tryz.func160, Tryz.ntmps160
  go_wp2_with fail
  clear d1 d2
  go_loopw [10] (fun vk wr => ∃ k q : Nat, p + k ≤ n ∧ k ≤ most.toNat ∧ vk = .int .i64 k ∧ wr = w.drewN q ∧ Hid (mtF bs far most.toNat p = k + mtF bs far (most.toNat - k) (p + k))) (fun vk _ => n - (intOf vk).toNat)
  case atStart => exact ⟨0, 0, by omega, Nat.zero_le _, rfl, rfl, keepf (by simp)⟩
  case round =>
    obtain ⟨k, q, hk, hkm, rfl, rfl, HR⟩ := hrel
    by_cases h1 : (k : Int) < most
    · have g1 : decide ((k : Int) < most) = true := by simpa using h1
      by_cases h2 : p + k < n
      · have hsum : IntKind.i64.wrap ((p : Int) + k) = (p : Int) + k := by rw [IntKind.wrap_i64]; omega
        have hdif : IntKind.i64.wrap ((n : Int) - p) = (n : Int) - p := by rw [IntKind.wrap_i64]; omega
        have g2 : decide ((k : Int) < (n : Int) - p) = true := by simp; omega
        have i0 : (0 : Int) ≤ (p : Int) + k := by omega
        have i1 : (p : Int) + k < n := by omega
        have i2 : ((p : Int) + k).toNat = p + k := by omega
        have i3 : (k : Int) < ((n - (p - far) : Nat) : Int) := by omega
        have i4 : k < n - (p - far) := by omega
        have c0 := HCELL.out (p + k) (by have := HN.out; omega)
        have c1 := HCELL.out (p + k - far) (by have := HN.out; omega)
        obtain ⟨x, hx⟩ : ∃ x, bs.getD (p + k) 0 = x := ⟨_, rfl⟩
        obtain ⟨y, hy⟩ : ∃ y, bs.getD (p + k - far) 0 = y := ⟨_, rfl⟩
        rw [hx] at c0
        rw [hy, show off + (p + k - far) = off + (p - far) + k from by omega] at c1
        have HX := keepf hx
        have HY := keepf hy
        clear hx hy
        by_cases h3 : x = y
        · subst h3
          go_upto_region 5 with fail
          go_quiet (fail)
          go_wp2_with fail
          go_roundw
          case rel =>
            refine ⟨k + 1, _, by omega, by omega, by go_num, rfl, keepf ?_⟩
            rw [HR.out, mtF_next (by omega) (by have := HN.out; omega) (by rw [HX.out, HY.out]), show most.toNat - k - 1 = most.toNat - (k + 1) from by omega, Nat.add_assoc p k 1]
            omega
          case measure => simp [intOf]; omega
        · have g3 : ((x : Int) == (y : Int)) = false := by simp; omega
          go_upto_region 5 with fail
          go_quiet (fail)
          go_wp2_with fail
          go_ret
          exact ⟨ret_n64 (by rw [hE.out, HR.out, mtF_miss (.inr (.inr (by rw [HX.out, HY.out]; exact h3)))]; simp), q + nq, by first | rfl | rw [World.drewN_drewN]⟩
      · have hdif : IntKind.i64.wrap ((n : Int) - p) = (n : Int) - p := by rw [IntKind.wrap_i64]; omega
        have g2 : decide ((k : Int) < (n : Int) - p) = false := by simp; omega
        have HK := keepf (show bs.length ≤ p + k by have := HN.out; omega)
        go_upto_region 5 with fail
        go_quiet (fail)
        go_wp2_with fail
        go_ret
        exact ⟨ret_n64 (by rw [hE.out, HR.out, mtF_miss (.inr (.inl HK.out))]; simp), q + nq, by first | rfl | rw [World.drewN_drewN]⟩
    · have g1 : decide ((k : Int) < most) = false := by simpa using h1
      have HK := keepf (show most.toNat - k = 0 by omega)
      go_upto_region 5 with fail
      go_quiet (fail)
      go_wp2_with fail
      go_ret
      exact ⟨ret_n64 (by rw [hE.out, HR.out, mtF_miss (.inl HK.out)]; simp), q + nq, by first | rfl | rw [World.drewN_drewN]⟩
theorem match_any (bs : List Nat) (A : Option Addr) (c : Nat) (p far most : Int) (w : World) (hS : Src w 1 A bs.length c (ocells bs)) (hl : bs.length ≤ maxLen) (hc : bs.length ≤ c) (hm : most ≤ 9223372036854775807) :
    Calls Tryz.prog 160 #[.slice A bs.length c, .int .i64 p, .int .i64 far, .int .i64 most] w fun e w' => e = .returned (.int .i64 (mtI bs p far most)) ∧ ∃ q, w' = w.drewN q := by
  rcases Decidable.em (p < 0 ∨ (bs.length : Int) ≤ p ∨ far < 1 ∨ p < far) with h | h
  · exact (match_none bs A c p far most w h).mono fun e w' ⟨h1, h2⟩ => ⟨h1, 0, by rw [← h2]; rfl⟩
  · obtain ⟨a, rfl⟩ : ∃ a : Nat, p = a := ⟨p.toNat, by omega⟩
    obtain ⟨f, rfl⟩ : ∃ f : Nat, far = f := ⟨far.toNat, by omega⟩
    exact match_in bs A c a f most w hS hl hc (by omega) (by omega) (by omega) hm
end Go.Proofs.YtmmilchmnimjoaaGreat
/- three: three bytes as one number. -/
namespace Go.Proofs.YtmmilchmnimjoaaGreat
open Go.RowKit
set_option linter.unusedVariables false
set_option linter.unusedSimpArgs false
def threeOf (bs : List Nat) (p : Nat) : Nat := bs.getD p 0 * 65536 + bs.getD (p + 1) 0 * 256 + bs.getD (p + 2) 0
theorem getD_lt {bs : List Nat} (h : ∀ b ∈ bs, b < 256) (p : Nat) : bs.getD p 0 < 256 := by
  rw [List.getD_eq_getElem?_getD]
  rcases hp : bs[p]? with _ | x
  · decide
  · exact h x (List.mem_of_getElem? hp)
theorem three_lt {bs : List Nat} (h : ∀ b ∈ bs, b < 256) (p : Nat) : threeOf bs p < 16777216 := by
  have h0 := getD_lt h p
  have h1 := getD_lt h (p + 1)
  have h2 := getD_lt h (p + 2)
  unfold threeOf
  omega
theorem three_inj {bs : List Nat} (h : ∀ b ∈ bs, b < 256) {p q : Nat} (he : threeOf bs p = threeOf bs q) : ∀ j, j < 3 → bs.getD (p + j) 0 = bs.getD (q + j) 0 := by
  have h0 := getD_lt h p
  have h1 := getD_lt h (p + 1)
  have h2 := getD_lt h (p + 2)
  have k0 := getD_lt h q
  have k1 := getD_lt h (q + 1)
  have k2 := getD_lt h (q + 2)
  unfold threeOf at he
  intro j hj
  have : j = 0 ∨ j = 1 ∨ j = 2 := by omega
  rcases this with rfl | rfl | rfl
  · rw [Nat.add_zero, Nat.add_zero]; omega
  · omega
  · omega
theorem orAdd (i a r : Nat) (hr : r < 2 ^ i) : 2 ^ i * a ||| r = 2 ^ i * a + r := (Nat.two_pow_add_eq_or_of_lt hr a).symm
theorem three_bits (x y z : Nat) (h0 : x < 256) (h1 : y < 256) (h2 : z < 256) :
    bits BinOp.or IntKind.u32 (bits BinOp.or IntKind.u32 ((x : Int) * 65536) ((y : Int) * 256)) (z : Int) = ((x * 65536 + y * 256 + z : Nat) : Int) := by
  rw [show (x : Int) * 65536 = ((x * 65536 : Nat) : Int) from by simp, show (y : Int) * 256 = ((y * 256 : Nat) : Int) from by simp]
  have e1 : x * 65536 ||| y * 256 = x * 65536 + y * 256 := by
    have := orAdd 16 x (y * 256) (by omega)
    rw [Nat.mul_comm x]
    exact this
  have e2 : (x * 65536 + y * 256) ||| z = x * 65536 + y * 256 + z := by
    have := orAdd 8 (x * 256 + y) z (by omega)
    rw [show (2 : Nat) ^ 8 * (x * 256 + y) = x * 65536 + y * 256 from by omega] at this
    exact this
  rw [u32_or_nat _ _ (by omega) (by omega), e1, u32_or_nat _ _ (by omega) (by omega), e2]
theorem three_any (bs : List Nat) (A : Option Addr) (c p : Nat) (w : World) (hS : Src w 1 A bs.length c (ocells bs)) (hl : bs.length ≤ maxLen) (hp : p + 2 < bs.length) (hg : ∀ b ∈ bs, b < 256) :
    Calls Tryz.prog 159 #[.slice A bs.length c, .int .i64 p] w fun e w' => e = .returned (.int .u32 (threeOf bs p : Nat)) ∧ ∃ q, w' = w.drewN q := by
  obtain ⟨b, off, rfl, hcell⟩ := byte_cell (k := p) hS (Chg.refl _ _) (by omega)
  have c0 := hcell p (by omega)
  have c1 := hcell (p + 1) (by omega)
  have c2 := hcell (p + 2) (by omega)
  have h0 := getD_lt hg p
  have h1 := getD_lt hg (p + 1)
  have h2 := getD_lt hg (p + 2)
  obtain ⟨x, hx⟩ : ∃ x, bs.getD p 0 = x := ⟨_, rfl⟩
  obtain ⟨y, hy⟩ : ∃ y, bs.getD (p + 1) 0 = y := ⟨_, rfl⟩
  obtain ⟨z, hz⟩ : ∃ z, bs.getD (p + 2) 0 = z := ⟨_, rfl⟩
  have HT := keepf (show threeOf bs p = x * 65536 + y * 256 + z by rw [threeOf, hx, hy, hz])
  rw [hx] at c0 h0
  rw [hy] at c1 h1
  rw [hz] at c2 h2
  have HV := keepf (three_bits x y z h0 h1 h2)
  unfold maxLen at hl
  obtain ⟨n, hn⟩ : ∃ n, n = bs.length := ⟨_, rfl⟩
  rw [← hn] at hl hp ⊢
  have i0 : (p : Int) < n := by omega
  have i1 : (0 : Int) ≤ (p : Int) + 1 := by omega
  have i2 : (p : Int) + 1 < n := by omega
  have i3 : ((p : Int) + 1).toNat = p + 1 := by omega
  have i4 : (0 : Int) ≤ (p : Int) + 2 := by omega
  have i5 : (p : Int) + 2 < n := by omega
  have i6 : ((p : Int) + 2).toNat = p + 2 := by omega
  have w1 : IntKind.i64.wrap ((p : Int) + 1) = (p : Int) + 1 := by rw [IntKind.wrap_i64]; omega
  have w2 : IntKind.i64.wrap ((p : Int) + 2) = (p : Int) + 2 := by rw [IntKind.wrap_i64]; omega
  clear hS hn hcell hx hy hz hg
  go_enter Tryz.func159, Tryz.ntmps159
  go_wp2_with fail
  go_quiet (fail)
  go_wp2_with fail
  go_ret
  refine ⟨?_, nq, rfl⟩
  rw [HT.out, ← HV.out]
  rfl
end Go.Proofs.YtmmilchmnimjoaaGreat
/- A map from numbers of 32 bits to numbers: what it tells of each key, as a function. -/
namespace Go.Proofs.YtmmilchmnimjoaaGreat
open Go.RowKit
open Go.WideElems (Fit rd rg pl rd_key rd_val rg_of rd_mk)
open Go.Maps (Keyed)
open Go.ChangeMaps (setBlock putKey notKey mem_insert_iff)
set_option linter.unusedVariables false
set_option linter.unusedSimpArgs false
theorem keyedU : Keyed Tryz.prog 42 := Maps.int_keyed Tryz.underlying42
theorem zeroE (w : World) : (zeroValue 3).run Tryz.prog w = .ok (.int .i64 0) w := by kernel_rfl
def MapIs (w : World) (b n : Nat) (f : Nat → Option Nat) : Prop :=
  ∃ es clock, w.heap[b]? = some (.map es clock) ∧ Fit Tryz.prog 42 (plainElem (H := Unit) Tryz.prog 3) es clock ∧ es.size ≤ n ∧
    (∀ e ∈ es.toList, ∃ k v : Nat, e.key = .int .u32 (k : Nat) ∧ e.val = .int .i64 (v : Nat) ∧ f k = some v) ∧ ∀ k v, f k = some v → ∃ e ∈ es.toList, e.key = .int .u32 (k : Nat)
theorem keyU {k : Nat} (h : k < 4294967296) : keyOf Tryz.prog 42 (.int .u32 (k : Nat)) = some (.int .u32 (k : Nat)) :=
  Maps.keyOf_int_mk Tryz.underlying42 (by simp only [Lit.wf, Bool.and_eq_true, decide_eq_true_eq]; exact ⟨Int.le_trans (by decide) (Int.natCast_nonneg _), Int.le_trans (Int.ofNat_le.2 (show _ ≤ 4294967295 by omega)) (by decide)⟩)
theorem MapIs.made (w : World) (o : Obj) (n : Nat) (h : w.heap.size = n) : MapIs (w.alloc (.map #[] 0)) n 0 (fun _ => none) := by
  subst h
  exact ⟨#[], 0, heap_alloc_new w _, ⟨by simp, MapKept.stamped_empty 0, by simp⟩, Nat.le_refl _, by simp, by simp⟩
theorem MapIs.lt {w : World} {b n : Nat} {f : Nat → Option Nat} (h : MapIs w b n f) : b < w.heap.size := by
  obtain ⟨es, clock, hb, _⟩ := h
  exact (Array.getElem?_eq_some_iff.1 hb).1
theorem MapIs.chg {S : Nat → Prop} {w w' : World} {b n : Nat} {f : Nat → Option Nat} (h : MapIs w b n f) (hc : Chg S w w') (hS : ¬ S b) : MapIs w' b n f := by
  have hlt := h.lt
  obtain ⟨es, clock, hb, r⟩ := h
  exact ⟨es, clock, (hc.block b hlt hS).trans hb, r⟩
theorem MapIs.mono {w : World} {b n m : Nat} {f : Nat → Option Nat} (h : MapIs w b n f) (hn : n ≤ m) : MapIs w b m f := by
  obtain ⟨es, clock, hb, F, hs, r⟩ := h
  exact ⟨es, clock, hb, F, Nat.le_trans hs hn, r⟩
def okVal : Option Nat → Value
  | some v => .tuple #[.int .i64 (v : Nat), .bool true]
  | none => .tuple #[.int .i64 0, .bool false]
theorem int_nat_inj {a b : Nat} {q : IntKind} (h : Value.int q (a : Nat) = Value.int q (b : Nat)) : a = b := by
  injection h with _ h
  exact Int.ofNat.inj h
theorem MapIs.look {w : World} {b n : Nat} {f : Nat → Option Nat} (h : MapIs w b n f) {k : Nat} (hk : k < 4294967296) :
    (Instr.lookup 214 (.map (some b)) (.int .u32 (k : Nat)) true).run Tryz.prog w = .ok (okVal (f k)) w := by
  obtain ⟨es, clock, hb, F, _, h1, h2⟩ := h
  rcases Maps.fit_look true keyedU Tryz.underlying214 (zeroE w) hb F (keyU hk) with ⟨hrun, hne, _⟩ | ⟨e0, y, hm, he, hrun, _⟩
  · rw [hrun]
    rcases hf : f k with _ | v
    · rfl
    · obtain ⟨e, hem, hek⟩ := h2 k v hf
      exact absurd hek (hne e hem)
  · rw [hrun]
    obtain ⟨k', v, hk', hv, hf⟩ := h1 e0 hm
    rw [he] at hk'
    have := int_nat_inj hk'
    subst this
    rw [hf, hv]
    rfl
def setF (f : Nat → Option Nat) (k v : Nat) : Nat → Option Nat := fun x => if x = k then some v else f x
set_option maxRecDepth 100000 in
theorem MapIs.put {w : World} {b n : Nat} {f : Nat → Option Nat} (h : MapIs w b n f) {k v : Nat} (hk : k < 4294967296) (hv : v ≤ 9223372036854775807) (hn : n < maxLen) :
    ∃ w', (Instr.mapUpdate 214 (.map (some b)) (.int .u32 (k : Nat)) (.int .i64 (v : Nat))).run Tryz.prog w = .ok () w' ∧ MapIs w' b (n + 1) (setF f k v) ∧ w.grownBy w' (some b) := by
  obtain ⟨es, clock, hb, F, hs, h1, h2⟩ := h
  have hval : plainElem (H := Unit) Tryz.prog 3 (.int .i64 (v : Nat)) = some (.lit (.int .i64 (v : Nat)), []) := plainElem_int Tryz.underlying3 (by simp only [Lit.wf, Bool.and_eq_true, decide_eq_true_eq]; exact ⟨Int.le_trans (by decide) (Int.natCast_nonneg _), Int.le_trans (Int.ofNat_le.2 (hv)) (by decide)⟩)
  obtain ⟨es', clock', hrun, F', hput, _, _, hwho⟩ := Maps.fit_store (R' := plainElem (H := Unit) Tryz.prog 3) keyedU Tryz.underlying214 hb F (Nat.lt_of_le_of_lt hs hn) (fun _ _ _ _ hz => hz) (keyU hk) hval
  have hall : ∀ e ∈ es'.toList, ∃ k' v' : Nat, e.key = .int .u32 (k' : Nat) ∧ e.val = .int .i64 (v' : Nat) ∧ setF f k v k' = some v' := by
    intro e he
    rcases hwho e he with ⟨he2, hne⟩ | ⟨hk1, hv1⟩
    · obtain ⟨k', v', e1, e2, e3⟩ := h1 e he2
      refine ⟨k', v', e1, e2, ?_⟩
      have : k' ≠ k := by rintro rfl; exact hne e1
      rw [setF, if_neg this, e3]
    · exact ⟨k, v, hk1, hv1, by simp [setF]⟩
  refine ⟨_, hrun, ⟨es', clock', Go.ChangeMaps.heap_setBlock_same hb _, F', ?_, hall, ?_⟩, ⟨rfl, rfl, rfl, by simp [setBlock], fun i _ hi => Go.ChangeMaps.heap_setBlock_other hb _ (fun e => hi (by rw [e]))⟩⟩
  · have e1 : es'.size = ((es'.toList.map (rg Tryz.prog 42 (plainElem (H := Unit) Tryz.prog 3))).foldr DataW.insert []).length := by rw [length_sorted]; simp
    rw [e1, hput]
    unfold putKey
    rw [length_insert]
    have e2 := List.length_filter_le (notKey (.int .u32 (k : Nat))) ((es.toList.map (rg Tryz.prog 42 (plainElem (H := Unit) Tryz.prog 3))).foldr DataW.insert [])
    rw [length_sorted] at e2
    simp at e2
    omega
  · intro k' v' hf
    have hfind : ∃ p ∈ es'.toList.map (rg Tryz.prog 42 (plainElem (H := Unit) Tryz.prog 3)), p.1 = .int .u32 (k' : Nat) := by
      have hmem : ∀ p, p ∈ es'.toList.map (rg Tryz.prog 42 (plainElem (H := Unit) Tryz.prog 3)) ↔ p ∈ (es'.toList.map (rg Tryz.prog 42 (plainElem (H := Unit) Tryz.prog 3))).foldr DataW.insert [] := fun p => (Go.WideShapes.sorted_perm _).mem_iff.symm
      by_cases hkk : k' = k
      · subst hkk
        refine ⟨(.int .u32 (k' : Nat), .lit (.int .i64 (v : Nat))), ?_, rfl⟩
        rw [hmem, hput]
        exact mem_insert_iff.2 (.inl rfl)
      · rw [setF, if_neg hkk] at hf
        obtain ⟨e, hem, hek⟩ := h2 k' v' hf
        obtain ⟨y, hy⟩ := F.reads e hem
        have hy1 := rd_key hy
        rw [hek] at hy1
        have hy2 : y.1 = .int .u32 (k' : Nat) := by
          simp [keyOf, Tryz.underlying42, mapKey] at hy1
          exact hy1.2.symm
        refine ⟨y, ?_, hy2⟩
        rw [hmem, hput]
        refine mem_insert_iff.2 (.inr (List.mem_filter.2 ⟨(Go.WideShapes.sorted_perm _).mem_iff.2 (List.mem_map.2 ⟨e, hem, rg_of hy⟩), ?_⟩))
        refine (Maps.notKey_iff (keyedU.key (keyU hk))).2 ?_
        rw [hy2]
        intro e
        injection e with _ e
        omega
    obtain ⟨p, hp, hpk⟩ := hfind
    obtain ⟨e, hem, rfl⟩ := List.mem_map.1 hp
    obtain ⟨k2, v2, e1, _, _⟩ := hall e hem
    obtain ⟨y, hy⟩ := F'.reads e hem
    rw [rg_of hy] at hpk
    have hy1 := rd_key hy
    rw [hpk, e1] at hy1
    simp [keyOf, Tryz.underlying42, mapKey] at hy1
    refine ⟨e, hem, ?_⟩
    rw [e1]
    congr 1
    omega
theorem wpList_look {w : World} {ops : Array Oper} {rest : List Oper} {o : Oper} {a : Act} {Q : Exit → Act → World → Prop}
    (hg : o.guard = none) (m x : Operand) (hop : o.op = Op.lookup 214 m x true) (b n : Nat) (f : Nat → Option Nat) (k : Nat) (r : Option Nat)
    (hm : a.eval m = .map (some b)) (hown : MapIs w b n f) (hx : a.eval x = .int .u32 (k : Nat)) (hk : k < 4294967296) (hr : f k = r)
    (hK : wpList Tryz.prog ops Q rest (a.put o.dst (okVal r)) w) : wpList Tryz.prog ops Q (o :: rest) a w := by
  refine wpList_plain hg fun K' hK' => ?_
  have hrun := hown.look hk
  rw [hr] at hrun
  unfold Oper.wp
  simp [execOp, hop, hm, hx, hrun, Result.andThen]
  exact hK' _ _ hK
theorem wpList_look_some {w : World} {ops : Array Oper} {rest : List Oper} {o : Oper} {a : Act} {Q : Exit → Act → World → Prop}
    (hg : o.guard = none) (m x : Operand) (hop : o.op = Op.lookup 214 m x true) (b n : Nat) (f : Nat → Option Nat) (k r : Nat)
    (hm : a.eval m = .map (some b)) (hown : MapIs w b n f) (hx : a.eval x = .int .u32 (k : Nat)) (hk : k < 4294967296) (hr : f k = some r)
    (hK : wpList Tryz.prog ops Q rest (a.put o.dst (.tuple #[.int .i64 (r : Nat), .bool true])) w) : wpList Tryz.prog ops Q (o :: rest) a w :=
  wpList_look hg m x hop b n f k (some r) hm hown hx hk hr hK
theorem wpList_look_none {w : World} {ops : Array Oper} {rest : List Oper} {o : Oper} {a : Act} {Q : Exit → Act → World → Prop}
    (hg : o.guard = none) (m x : Operand) (hop : o.op = Op.lookup 214 m x true) (b n : Nat) (f : Nat → Option Nat) (k : Nat)
    (hm : a.eval m = .map (some b)) (hown : MapIs w b n f) (hx : a.eval x = .int .u32 (k : Nat)) (hk : k < 4294967296) (hr : f k = none)
    (hK : wpList Tryz.prog ops Q rest (a.put o.dst (.tuple #[.int .i64 0, .bool false])) w) : wpList Tryz.prog ops Q (o :: rest) a w :=
  wpList_look hg m x hop b n f k none hm hown hx hk hr hK
theorem wpList_store {w : World} {ops : Array Oper} {rest : List Oper} {o : Oper} {a : Act} {Q : Exit → Act → World → Prop}
    (hg : o.guard = none) (m x y : Operand) (hop : o.op = Op.mapUpdate 214 m x y) (b n : Nat) (f : Nat → Option Nat) (k v : Nat)
    (hm : a.eval m = .map (some b)) (hown : MapIs w b n f) (hx : a.eval x = .int .u32 (k : Nat)) (hy : a.eval y = .int .i64 (v : Nat)) (hk : k < 4294967296) (hv : v ≤ 9223372036854775807) (hn : n < maxLen)
    (hK : ∀ w', MapIs w' b (n + 1) (setF f k v) → w.grownBy w' (some b) → wpList Tryz.prog ops Q rest (a.put o.dst undef) w') : wpList Tryz.prog ops Q (o :: rest) a w := by
  refine wpList_plain hg fun K' hK' => ?_
  obtain ⟨w', hrun, r1, r2⟩ := hown.put hk hv hn
  unfold Oper.wp
  simp [execOp, hop, hm, hx, hy, hrun, Result.andThen]
  exact hK' _ _ (hK w' r1 r2)
theorem MapIs.cleared {w : World} {b n : Nat} {f : Nat → Option Nat} (h : MapIs w b n f) (ty : TypeId) :
    ∃ w', (Builtin.clear_ #[214] ty #[.map (some b)]).run Tryz.prog w = .ok (.tuple #[]) w' ∧ MapIs w' b 0 (fun _ => none) ∧ w.grownBy w' (some b) := by
  obtain ⟨es, clock, hb, F, hs, h1, h2⟩ := h
  refine ⟨setBlock w b (.map #[] clock), ?_, ⟨#[], clock, Go.ChangeMaps.heap_setBlock_same hb _, ⟨by simp, MapKept.stamped_empty _, by simp⟩, Nat.le_refl _, by simp, by simp⟩, ⟨rfl, rfl, rfl, by simp [setBlock], fun i _ hi => Go.ChangeMaps.heap_setBlock_other hb _ (fun e => hi (by rw [e]))⟩⟩
  simp [Builtin.clear_, run_underlying Tryz.underlying214, MapKept.run_getObj_map hb, MapKept.run_setObj_map _ hb, Result.andThen, setBlock]
theorem wpList_clear {w : World} {ops : Array Oper} {rest : List Oper} {o : Oper} {a : Act} {Q : Exit → Act → World → Prop}
    (hg : o.guard = none) (m : Operand) (hop : o.op = Op.call { callee := Callee.builtin Builtin.clear, args := #[m], argTypes := #[214] }) (b n : Nat) (f : Nat → Option Nat)
    (hm : a.eval m = .map (some b)) (hown : MapIs w b n f)
    (hK : ∀ w', MapIs w' b 0 (fun _ => none) → w.grownBy w' (some b) → wpList Tryz.prog ops Q rest (a.put o.dst (.tuple #[])) w') : wpList Tryz.prog ops Q (o :: rest) a w := by
  refine wpList_plain hg fun K' hK' => ?_
  obtain ⟨w', hrun, r1, r2⟩ := hown.cleared o.type
  unfold Oper.wp
  simp [execOp, hop, resolve, invoke, builtin, hm, hrun, Result.andThen]
  exact hK' _ _ (hK w' r1 r2)
end Go.Proofs.YtmmilchmnimjoaaGreat
/- Steps: how far ahead the same three bytes stand last: plain mathematics of two maps that take turns. -/
namespace Go.Proofs.YtmmilchmnimjoaaGreat
open Go.RowKit
set_option linter.unusedVariables false
set_option linter.unusedSimpArgs false
structure StepAt (bs : List Nat) (k r : Nat) : Prop where
  le : r ≤ k
  far : r ≤ 32768
  same : r ≠ 0 → threeOf bs (k - r) = threeOf bs k
  found : ∀ v, v < k → k ≤ v + 32768 → threeOf bs v = threeOf bs k → r ≠ 0
  near : r ≠ 0 → ∀ v, k < v + r → v < k → threeOf bs v ≠ threeOf bs k
theorem StepAt.one {bs : List Nat} {k r r' : Nat} (h : StepAt bs k r) (h' : StepAt bs k r') : r = r' := by
  have key : ∀ {r r' : Nat}, StepAt bs k r → StepAt bs k r' → r' ≤ r := fun {r r'} h h' => by
    rcases Nat.lt_or_ge r r' with hlt | hge
    · exfalso
      have l1 := h'.le
      have l2 := h'.far
      have h0 := h.found (k - r') (by omega) (by omega) (h'.same (by omega))
      have l3 := h.le
      exact h'.near (by omega) (k - r) (by omega) (by omega) (h.same h0)
    · exact hge
  have := key h h'
  have := key h' h
  omega
structure Mid (bs : List Nat) (k base : Nat) (f1 f2 : Nat → Option Nat) (g : Nat → Nat) : Prop where
  b1 : base ≤ k
  b2 : k < base + 32768
  b3 : base % 32768 = 0
  j1 : ∀ x v, f1 x = some v → base ≤ v ∧ v < k ∧ threeOf bs v = x
  j2 : ∀ x v, f2 x = some v → v < k ∧ threeOf bs v = x
  c1 : ∀ v, base ≤ v → v < k → ∃ u, v ≤ u ∧ f1 (threeOf bs v) = some u
  c2 : ∀ v, v < base → base ≤ v + 32768 → ∃ u, v ≤ u ∧ f2 (threeOf bs v) = some u
  g1 : ∀ p, p < k → StepAt bs p (g p)
  g2 : ∀ p, k ≤ p → g p = 0
structure Hd (bs : List Nat) (k base : Nat) (f1 f2 : Nat → Option Nat) (g : Nat → Nat) : Prop where
  b1 : base ≤ k
  b2 : k ≤ base + 32768
  b3 : base % 32768 = 0
  b4 : base < k ∨ k = 0
  j1 : ∀ x v, f1 x = some v → base ≤ v ∧ v < k ∧ threeOf bs v = x
  j2 : ∀ x v, f2 x = some v → v < k ∧ threeOf bs v = x
  c1 : ∀ v, base ≤ v → v < k → ∃ u, v ≤ u ∧ f1 (threeOf bs v) = some u
  c2 : ∀ v, v < base → base ≤ v + 32768 → ∃ u, v ≤ u ∧ f2 (threeOf bs v) = some u
  g1 : ∀ p, p < k → StepAt bs p (g p)
  g2 : ∀ p, k ≤ p → g p = 0
theorem hd_start (bs : List Nat) : Hd bs 0 0 (fun _ => none) (fun _ => none) (fun _ => 0) :=
  ⟨Nat.le_refl _, by omega, rfl, .inr rfl, fun _ _ h => (by cases h), fun _ _ h => (by cases h), fun v _ h => by omega, fun v h => by omega, fun p h => by omega, fun _ _ => rfl⟩
section
variable {bs : List Nat} {k base : Nat} {f1 f2 : Nat → Option Nat} {g : Nat → Nat}
theorem Hd.mid (h : Hd bs k base f1 f2 g) (hk : k % 32768 ≠ 0) : Mid bs k base f1 f2 g :=
  ⟨h.b1, by
    have h1 := h.b2
    have h3 := h.b3
    rcases Nat.lt_or_ge k (base + 32768) with h | h
    · exact h
    · have : k = base + 32768 := by omega
      omega, h.b3, h.j1, h.j2, h.c1, h.c2, h.g1, h.g2⟩
theorem Hd.rot (h : Hd bs k base f1 f2 g) (hk : k % 32768 = 0) : Mid bs k k (fun _ => none) f1 g :=
  ⟨Nat.le_refl _, by omega, hk, fun _ _ h => (by cases h), fun x v hx => ⟨(h.j1 x v hx).2.1, (h.j1 x v hx).2.2⟩, fun v h1 h2 => by omega, fun v h1 h2 => h.c1 v (by
    have e1 := h.b1
    have e2 := h.b2
    have e3 := h.b3
    have e4 := h.b4
    omega) h1, h.g1, h.g2⟩
theorem Mid.next (h : Mid bs k base f1 f2 g) {r : Nat} (hr : StepAt bs k r) : Hd bs (k + 1) base (setF f1 (threeOf bs k) k) f2 (fun i => if i = k then r else g i) := by
  have e1 := h.b1
  have e2 := h.b2
  refine ⟨by omega, by omega, h.b3, .inl (by omega), ?_, ?_, ?_, h.c2, ?_, ?_⟩
  · intro x v hx
    unfold setF at hx
    split at hx
    · cases hx
      exact ⟨h.b1, by omega, (by assumption : x = threeOf bs k).symm⟩
    · have := h.j1 x v hx
      exact ⟨this.1, by omega, this.2.2⟩
  · intro x v hx
    have := h.j2 x v hx
    exact ⟨by omega, this.2⟩
  · intro v h1 h2
    unfold setF
    split
    · exact ⟨k, by omega, rfl⟩
    · rename_i hne
      rcases Nat.lt_or_ge v k with h3 | h3
      · exact h.c1 v h1 h3
      · have : v = k := by omega
        subst this
        exact absurd rfl hne
  · intro p hp
    rcases Nat.lt_or_ge p k with h3 | h3
    · rw [if_neg (by omega)]; exact h.g1 p h3
    · have : p = k := by omega
      subst this
      rw [if_pos rfl]; exact hr
  · intro p hp
    rw [if_neg (by omega)]
    exact h.g2 p (by omega)
theorem Mid.one (h : Mid bs k base f1 f2 g) {u : Nat} (hu : f1 (threeOf bs k) = some u) : u < k ∧ k - u ≤ 32768 ∧ StepAt bs k (k - u) := by
  obtain ⟨h1, h2, h3⟩ := h.j1 _ _ hu
  have e2 := h.b2
  exact ⟨h2, by omega, ⟨by omega, by omega, fun _ => by rw [show k - (k - u) = u from by omega]; exact h3, fun _ _ _ _ => by omega, fun _ v hv hk he => by
    obtain ⟨u', hu1, hu2⟩ := h.c1 v (by omega) hk
    rw [he, hu] at hu2
    injection hu2 with hu2
    omega⟩⟩
theorem Mid.two (h : Mid bs k base f1 f2 g) {u : Nat} (h1 : f1 (threeOf bs k) = none) (hu : f2 (threeOf bs k) = some u) : u < k ∧ (k - u ≤ 32768 → StepAt bs k (k - u)) := by
  obtain ⟨h2, h3⟩ := h.j2 _ _ hu
  exact ⟨h2, fun hf => ⟨by omega, hf, fun _ => by rw [show k - (k - u) = u from by omega]; exact h3, fun _ _ _ _ => by omega, fun _ v hv hk he => by
    rcases Nat.lt_or_ge v base with h4 | h4
    · obtain ⟨u', hu1, hu2⟩ := h.c2 v h4 (by have := h.b1; omega)
      rw [he, hu] at hu2
      injection hu2 with hu2
      omega
    · obtain ⟨u', hu1, hu2⟩ := h.c1 v h4 hk
      rw [he, h1] at hu2
      cases hu2⟩⟩
theorem Mid.far (h : Mid bs k base f1 f2 g) (h1 : f1 (threeOf bs k) = none) (h2 : ∀ u, f2 (threeOf bs k) = some u → 32768 < k - u) : StepAt bs k 0 := by
  refine ⟨Nat.zero_le _, Nat.zero_le _, fun h => absurd rfl h, fun v hv hf he => ?_, fun h => absurd rfl h⟩
  exfalso
  rcases Nat.lt_or_ge v base with h3 | h3
  · obtain ⟨u, hu1, hu2⟩ := h.c2 v h3 (by have := h.b1; omega)
    rw [he] at hu2
    have := h2 u hu2
    omega
  · obtain ⟨u, hu1, hu2⟩ := h.c1 v h3 hv
    rw [he, h1] at hu2
    cases hu2
end
structure StepsOk (bs : List Nat) (g : Nat → Nat) : Prop where
  at_ : ∀ p, p + 2 < bs.length → StepAt bs p (g p)
  zero : ∀ p, bs.length ≤ p + 2 → g p = 0
theorem StepsOk.one {bs : List Nat} {g g' : Nat → Nat} (h : StepsOk bs g) (h' : StepsOk bs g') : g = g' := by
  funext p
  rcases Nat.lt_or_ge (p + 2) bs.length with hp | hp
  · exact (h.at_ p hp).one (h'.at_ p hp)
  · rw [h.zero p hp, h'.zero p hp]
theorem Hd.done {bs : List Nat} {k base : Nat} {f1 f2 : Nat → Option Nat} {g : Nat → Nat} (h : Hd bs k base f1 f2 g) (hk : k = bs.length - 2) : StepsOk bs g :=
  ⟨fun p hp => h.g1 p (by omega), fun p hp => h.g2 p (by omega)⟩
def srow (n : Nat) (g : Nat → Nat) : List Value := (List.range n).map fun i => .int .u16 (g i : Nat)
def SRow (w : World) (V : Value) (n : Nat) (g : Nat → Nat) : Prop := w.ownsRow 0 37 1 V n (srow n g)
theorem srow_at {n : Nat} {g : Nat → Nat} {k : Nat} (h : k < n) : (srow n g)[k]? = some (.int .u16 (g k : Nat)) := by simp [srow, h]
theorem srow_len (n : Nat) (g : Nat → Nat) : (srow n g).length = n := by simp [srow]
theorem srow_congr {n : Nat} {f g : Nat → Nat} (h : ∀ i, i < n → f i = g i) : srow n f = srow n g := List.map_congr_left fun i hi => by rw [h i (List.mem_range.1 hi)]
theorem srow_set (n : Nat) (g : Nat → Nat) (k r : Nat) : (srow n g).set k (.int .u16 (r : Nat)) = srow n (fun i => if i = k then r else g i) := by
  apply List.ext_getElem
  · simp [srow]
  · intro i h1 h2
    simp only [srow, List.getElem_set, List.getElem_map, List.getElem_range]
    by_cases e : k = i
    · subst e; simp
    · rw [if_neg e, if_neg (fun h => e h.symm)]
theorem ownSet {w : World} {e : TypeId} {size g n cap : Nat} {xs : List Value} (h : w.ownsRow 0 e size (.slice (some ⟨g, 0, none⟩) n cap) n xs) (k : Nat) (u : Value) :
    (w.setCell ⟨g, k, none⟩ u).ownsRow 0 e size (.slice (some ⟨g, 0, none⟩) n cap) n (xs.set k u) := by
  refine ⟨by simpa using h.1, ?_⟩
  rcases h.2 with ⟨h', h0⟩ | ⟨g', cap', cur, h', hb, hh, h1, h2, h3, h4⟩
  · simp at h'
  · simp only [Value.slice.injEq, Option.some.injEq, Addr.mk.injEq, and_true] at h'
    obtain ⟨rfl, _, rfl⟩ := h'
    refine .inr ⟨g, cap, cur.setIfInBounds k u, rfl, hb, Blk.set_ (w := w) hh k u, h1, h2, by simpa using h3, ?_⟩
    rw [← h4]
    simp [List.take_set]
theorem SRow.set_ {w : World} {g cap n : Nat} {f : Nat → Nat} (h : SRow w (.slice (some ⟨g, 0, none⟩) n cap) n f) (k r : Nat) :
    SRow (w.setCell ⟨g, k, none⟩ (.int .u16 (r : Nat))) (.slice (some ⟨g, 0, none⟩) n cap) n (fun i => if i = k then r else f i) := by
  have := ownSet h k (.int .u16 (r : Nat))
  rw [srow_set] at this
  exact this
theorem SRow.congr {w : World} {V : Value} {n : Nat} {f g : Nat → Nat} (h : SRow w V n f) (e : ∀ i, i < n → f i = g i) : SRow w V n g := by
  unfold SRow at h ⊢
  rw [← srow_congr e]
  exact h
theorem srow_zero (n : Nat) : (madeCells (Value.int .u16 0).cells (n * 1)).toList = srow n (fun _ => 0) := by
  rw [show (Value.int .u16 0).cells = #[.int .u16 0] from rfl, toList_madeCells_one, Nat.mul_one]
  apply List.ext_getElem?
  intro i
  by_cases hi : i < n
  · rw [srow_at hi]; simp [hi]
  · rw [List.getElem?_eq_none (by simp; omega), List.getElem?_eq_none (by rw [srow_len]; omega)]
end Go.Proofs.YtmmilchmnimjoaaGreat
/- steps: for each place how far ahead the same three bytes stand last. -/
namespace Go.Proofs.YtmmilchmnimjoaaGreat
open Go.RowKit
set_option linter.unusedVariables false
set_option linter.unusedSimpArgs false
theorem info_u16 : (Tryz.prog.info? 37).map (fun i => (i.zero, i.size, i.bytes)) = some (some (.int .u16 0), 1, 2) := by kernel_rfl
def StepsTo (w : World) (bs : List Nat) (n : Nat) (e : Ending) (w' : World) : Prop :=
  ∃ go f, e = .returned (.slice (some ⟨go, 0, none⟩) n n) ∧ SRow w' (.slice (some ⟨go, 0, none⟩) n n) n f ∧ StepsOk bs f ∧ Chg NoS w w' ∧ w.heap.size ≤ go
structure StLoop (w wr : World) (bs : List Nat) (n go k base b1 b2 : Nat) (f1 f2 : Nat → Option Nat) (g : Nat → Nat) : Prop where
  m1 : MapIs wr b1 k f1
  m2 : MapIs wr b2 k f2
  ne : b1 ≠ b2
  n1 : b1 ≠ go
  n2 : b2 ≠ go
  l1 : w.heap.size ≤ b1
  l2 : w.heap.size ≤ b2
  lg : w.heap.size ≤ go
  row : SRow wr (.slice (some ⟨go, 0, none⟩) n n) n g
  chg : Chg NoS w wr
theorem StLoop.turn {w wr w' : World} {bs : List Nat} {n go k base base' b1 b2 m : Nat} {f1 f2 f : Nat → Option Nat} {g : Nat → Nat} (h : StLoop w wr bs n go k base b1 b2 f1 f2 g) (hm : MapIs w' b1 m f) (hk : m ≤ k) (hg : wr.grownBy w' (some b1)) :
    StLoop w w' bs n go k base' b1 b2 f f2 g := by
  have hc : Chg (fun i => i = b1) wr w' := (Chg.refl _ _).grown hg (fun k e _ => by injection e with e; exact e.symm)
  exact ⟨hm.mono hk, h.m2.chg hc (fun e => h.ne e.symm), h.ne, h.n1, h.n2, h.l1, h.l2, h.lg, own_chg h.row hc (fun i hi e => h.n1 (by injection hi with hi; have hi : go = i := hi; omega)), h.chg.trans hc (fun i hi e => by have := h.l1; omega)⟩
theorem StLoop.swap {w wr : World} {bs : List Nat} {n go k base b1 b2 : Nat} {f1 f2 : Nat → Option Nat} {g : Nat → Nat} (h : StLoop w wr bs n go k base b1 b2 f1 f2 g) : StLoop w wr bs n go k base b2 b1 f2 f1 g :=
  ⟨h.m2, h.m1, fun e => h.ne e.symm, h.n2, h.n1, h.l2, h.l1, h.lg, h.row, h.chg⟩
theorem StLoop.drewN {w wr : World} {bs : List Nat} {n go k base b1 b2 : Nat} {f1 f2 : Nat → Option Nat} {g : Nat → Nat} (h : StLoop w wr bs n go k base b1 b2 f1 f2 g) (q : Nat) : StLoop w (wr.drewN q) bs n go k base b1 b2 f1 f2 g :=
  ⟨h.m1.chg ((Chg.refl NoS _).drewN q) (fun h => h), h.m2.chg ((Chg.refl NoS _).drewN q) (fun h => h), h.ne, h.n1, h.n2, h.l1, h.l2, h.lg, own_drewN h.row q, h.chg.drewN q⟩
theorem StLoop.store {w wr : World} {bs : List Nat} {n go k base b1 b2 : Nat} {f1 f2 : Nat → Option Nat} {g : Nat → Nat} (h : StLoop w wr bs n go k base b1 b2 f1 f2 g) (p r : Nat) :
    StLoop w (wr.setCell ⟨go, p, none⟩ (.int .u16 (r : Nat))) bs n go k base b1 b2 f1 f2 (fun i => if i = p then r else g i) := by
  have hc : Chg (fun i => i = go) wr (wr.setCell ⟨go, p, none⟩ (.int .u16 (r : Nat))) := (Chg.refl (fun i => i = go) _).setCell (p := ⟨go, p, none⟩) (fun _ => rfl) _
  exact ⟨h.m1.chg hc h.n1, h.m2.chg hc h.n2, h.ne, h.n1, h.n2, h.l1, h.l2, h.lg, h.row.set_ p r, h.chg.trans hc (fun i hi e => by have := h.lg; omega)⟩
theorem Mid.none {bs : List Nat} {k base : Nat} {f1 f2 : Nat → Option Nat} {g : Nat → Nat} (h : Mid bs k base f1 f2 g) : (fun i => if i = k then 0 else g i) = g := by
  funext i
  split
  · subst_vars; exact (h.g2 _ (Nat.le_refl _)).symm
  · rfl
theorem StLoop.next {w wr w' : World} {bs : List Nat} {n go k base b1 b2 x : Nat} {f1 f2 : Nat → Option Nat} {g : Nat → Nat} (h : StLoop w wr bs n go k base b1 b2 f1 f2 g) (hm : MapIs w' b1 (k + 1) (setF f1 x k)) (hg : wr.grownBy w' (some b1)) :
    StLoop w w' bs n go (k + 1) base b1 b2 (setF f1 x k) f2 g := by
  have hc : Chg (fun i => i = b1) wr w' := (Chg.refl _ _).grown hg (fun k e _ => by injection e with e; exact e.symm)
  exact ⟨hm, (h.m2.chg hc (fun e => h.ne e.symm)).mono (by omega), h.ne, h.n1, h.n2, h.l1, h.l2, h.lg, own_chg h.row hc (fun i hi e => h.n1 (by injection hi with hi; have hi : go = i := hi; omega)), h.chg.trans hc (fun i hi e => by have := h.l1; omega)⟩
theorem StLoop.same {w wr : World} {bs : List Nat} {n go k base b1 b2 : Nat} {f1 f2 : Nat → Option Nat} {g g' : Nat → Nat} (h : StLoop w wr bs n go k base b1 b2 f1 f2 g) (e : ∀ i, g i = g' i) : StLoop w wr bs n go k base b1 b2 f1 f2 g' := by
  obtain rfl : g = g' := funext e
  exact h
set_option maxHeartbeats 1000000 in
theorem steps_any (bs : List Nat) (A : Option Addr) (c : Nat) (w : World) (hS : Src w 1 A bs.length c (ocells bs)) (hl : bs.length ≤ 16777216) (hg : ∀ b ∈ bs, b < 256) :
    Calls Tryz.prog 144 #[.slice A bs.length c] w (StepsTo w bs bs.length) := by
  have H3 := keepf (fun (W : World) (p : Nat) (hS : Src W 1 A bs.length c (ocells bs)) (hp : p + 2 < bs.length) => three_any bs A c p W hS (by unfold maxLen; omega) hp hg)
  have HG := keepf hg
  have HS := keepf hS
  obtain ⟨n, hn⟩ : ∃ n, n = bs.length := ⟨_, rfl⟩
  have HN := keepf hn
  rw [← hn] at hl H3 HS ⊢
  clear hS hg hn
  obtain ⟨i0, hi, hz0, hz1, hz2⟩ := info_parts info_u16
  have hmm := @run_makeMap Tryz.prog
  go_enter Tryz.func144, Tryz.ntmps144
  go_wp2_with (first
    | (at_make; go_loud (refine wpList_make_full _ rfl (.tmp 11) (.tmp 11) 202 rfl 0 37 i0 (.int .u16 0) 1 Tryz.underlying202 hi hz0 hz1 .i64 .i64 _ _ n rfl rfl rfl rfl (by rw [hz2]; omega) (by unfold maxLen; omega) (Nat.zero_le _) ?_); intro w2 hown2 hgr; have HO2 := keepf hown2; have HG2 := keepf hgr; clear hown2 hgr))
  have HL := keepf (show StLoop w ((w2.alloc (.map #[] 0)).alloc (.map #[] 0)) bs n w.heap.size 0 0 w2.heap.size (w2.heap.size + 1) (fun _ => none) (fun _ => none) (fun _ => 0) by
    have hsz := HG2.out.size
    have hlt : w.heap.size < w2.heap.size := own_lt HO2.out rfl
    refine ⟨(MapIs.made w2 (.map #[] 0) _ rfl).chg ((Chg.refl NoS _).alloc _) (fun h => h), MapIs.made _ (.map #[] 0) _ (by simp), by omega, by omega, by omega, by omega, by omega, Nat.le_refl _, ?_, ?_⟩
    · have h := HO2.out
      rw [srow_zero] at h
      exact own_chg (S := NoS) h (((Chg.refl NoS _).alloc _).alloc _) (fun _ _ h => h)
    · exact ((((Chg.refl NoS w).grown HG2.out (fun k e _ => by cases e)).alloc _).alloc _))
  obtain ⟨go, hgo⟩ : ∃ go, go = w.heap.size := ⟨_, rfl⟩
  rw [← hgo] at HL ⊢
  clear hgo HO2 HG2 hi hz0 hz1 hz2
  go_loopw [4, 5, 19] (fun v1 v2 vi wr => ∃ k base b1 b2 : Nat, ∃ f1 f2 : Nat → Option Nat, ∃ g : Nat → Nat, k ≤ n - 2 ∧ vi = .int .i64 k ∧ v1 = .map (some b1) ∧ v2 = .map (some b2) ∧ Hid (StLoop w wr bs n go k base b1 b2 f1 f2 g) ∧ Hid (Hd bs k base f1 f2 g)) (fun _ _ vi _ => n - (intOf vi).toNat)
  case atStart => exact ⟨0, 0, _, _, _, _, _, Nat.zero_le _, rfl, rfl, rfl, HL.out, hd_start bs⟩
  case round =>
    clear HL
    obtain ⟨k, hrel⟩ := hrel
    by_cases hlt : (k : Int) < (n : Int) - 3 + 1
    · by_cases hrot : k % 32768 = 0
      · obtain ⟨base, c2, c1, F2, F0, g, hk, rfl, rfl, rfl, HLP, HHD⟩ := hrel
        have HM := keepf (HHD.out.rot hrot)
        have r1 : ((k : Int) % 32768 == 0) = true := by simp; omega
        have hxl := three_lt HG.out k
        have HC3 := keepf (fun (W : World) (h : Src W 1 A n c (ocells bs)) => H3.out W k h (by omega))
        obtain ⟨x, hx⟩ : ∃ x, threeOf bs k = x := ⟨_, rfl⟩
        rw [hx] at HC3 hxl
        have HX := keepf hx
        have hkn : k < n := by omega
        have hkN : (k : Int) < n := by omega
        clear hrot HHD hx
        rcases hf2 : F2 x with _ | u
        · have HF := keepf hf2
          have HU := keepf (HM.out.far (rfl) (fun v hv => by rw [HX.out, hf2] at hv; cases hv))
          clear hf2
          go_wp2_with (first
            | (refine wpList_clear rfl (.tmp 27) rfl c1 k F0 rfl HLP.out.swap.m1 ?_; intro w5 hm5 hg5; have HL5 := keepf (HLP.out.swap.turn (base' := k) hm5 (Nat.zero_le _) hg5); clear hm5 hg5; have hro := HL5.out.row.cellAt k (by omega); rw [srow_at (by omega)] at hro; have hfr := HL5.out.row.frozenAt k)
            | (go_at_call 159; refine (HC3.out _ (Src.below (w0 := w) HS.out HL5.out.chg)).mono ?_; rintro e w3 ⟨rfl, q, rfl⟩; have HLQ := keepf (HL5.out.drewN q))
            | (at_lookup; refine wpList_look_none rfl (.tmp 32) (.tmp 33) rfl c1 k (fun _ => none) x rfl HLQ.out.m1 rfl (by omega) rfl ?_)
            | (at_lookup; refine wpList_look_none rfl (.tmp 40) (.tmp 41) rfl c2 k F2 x rfl HLQ.out.m2 rfl (by omega) HF.out ?_)
            | (at_mapUpdate; refine wpList_store rfl (.tmp 59) (.tmp 60) (.tmp 61) rfl c1 k (fun _ => none) x k rfl HLQ.out.m1 rfl rfl (by omega) (by omega) (by unfold maxLen; omega) ?_; intro w4 hm4 hg4; have HM4 := keepf hm4; have HG4 := keepf hg4; clear hm4 hg4))
          go_roundw
          case rel =>
            refine ⟨k + 1, k, c1, c2, setF (fun _ => none) x k, F2, g, by omega, by go_num, rfl, rfl, HLQ.out.next HM4.out HG4.out, ?_⟩
            have h := HM.out.next (r := 0) HU.out
            rw [HX.out, HM.out.none] at h
            exact h
          case measure => simp [intOf]; omega
        · have hu := HM.out.two (u := u) rfl (by rw [HX.out]; exact hf2)
          by_cases hfar : k - u ≤ 32768
          · have HF := keepf hf2
            have HU := keepf (hu.2 hfar)
            have hu1 := hu.1
            have hu2 := hfar
            obtain ⟨r, hr⟩ : ∃ r, r = k - u := ⟨_, rfl⟩
            have hr1 : (k : Int) - u = r := by omega
            rw [← hr] at HU hu2
            have hr2 : (r : Int) ≤ 32768 := by omega
            clear hu hf2 hr hfar
            go_wp2_with (first
              | (refine wpList_clear rfl (.tmp 27) rfl c1 k F0 rfl HLP.out.swap.m1 ?_; intro w5 hm5 hg5; have HL5 := keepf (HLP.out.swap.turn (base' := k) hm5 (Nat.zero_le _) hg5); clear hm5 hg5; have hro := HL5.out.row.cellAt k (by omega); rw [srow_at (by omega)] at hro; have hfr := HL5.out.row.frozenAt k)
              | (go_at_call 159; refine (HC3.out _ (Src.below (w0 := w) HS.out HL5.out.chg)).mono ?_; rintro e w3 ⟨rfl, q, rfl⟩; have HLQ := keepf (HL5.out.drewN q))
              | (at_lookup; refine wpList_look_none rfl (.tmp 32) (.tmp 33) rfl c1 k (fun _ => none) x rfl HLQ.out.m1 rfl (by omega) rfl ?_)
              | (at_lookup; refine wpList_look_some rfl (.tmp 40) (.tmp 41) rfl c2 k F2 x u rfl HLQ.out.m2 rfl (by omega) HF.out ?_)
              | (at_mapUpdate; refine wpList_store rfl (.tmp 59) (.tmp 60) (.tmp 61) rfl c1 k (fun _ => none) x k rfl (HLQ.out.store k r).m1 rfl rfl (by omega) (by omega) (by unfold maxLen; omega) ?_; intro w4 hm4 hg4; have HM4 := keepf hm4; have HG4 := keepf hg4; clear hm4 hg4))
            go_roundw
            case rel =>
              refine ⟨k + 1, k, c1, c2, setF (fun _ => none) x k, F2, (fun i => if i = k then r else g i), by omega, by go_num, rfl, rfl, (HLQ.out.store k r).next HM4.out HG4.out, ?_⟩
              have h := HM.out.next (r := r) HU.out
              rw [HX.out] at h
              exact h
            case measure => simp [intOf]; omega
          · have HF := keepf hf2
            have hu1 := hu.1
            have hfar2 : 32768 < k - u := by omega
            have HU := keepf (HM.out.far (rfl) (fun v hv => by rw [HX.out, hf2] at hv; injection hv with hv; omega))
            have d1 : ¬ ((k : Int) - u ≤ 32768) := by omega
            clear hu hf2 hfar hfar2
            go_wp2_with (first
              | (refine wpList_clear rfl (.tmp 27) rfl c1 k F0 rfl HLP.out.swap.m1 ?_; intro w5 hm5 hg5; have HL5 := keepf (HLP.out.swap.turn (base' := k) hm5 (Nat.zero_le _) hg5); clear hm5 hg5; have hro := HL5.out.row.cellAt k (by omega); rw [srow_at (by omega)] at hro; have hfr := HL5.out.row.frozenAt k)
              | (go_at_call 159; refine (HC3.out _ (Src.below (w0 := w) HS.out HL5.out.chg)).mono ?_; rintro e w3 ⟨rfl, q, rfl⟩; have HLQ := keepf (HL5.out.drewN q))
              | (at_lookup; refine wpList_look_none rfl (.tmp 32) (.tmp 33) rfl c1 k (fun _ => none) x rfl HLQ.out.m1 rfl (by omega) rfl ?_)
              | (at_lookup; refine wpList_look_some rfl (.tmp 40) (.tmp 41) rfl c2 k F2 x u rfl HLQ.out.m2 rfl (by omega) HF.out ?_)
              | (at_mapUpdate; refine wpList_store rfl (.tmp 59) (.tmp 60) (.tmp 61) rfl c1 k (fun _ => none) x k rfl HLQ.out.m1 rfl rfl (by omega) (by omega) (by unfold maxLen; omega) ?_; intro w4 hm4 hg4; have HM4 := keepf hm4; have HG4 := keepf hg4; clear hm4 hg4))
            go_roundw
            case rel =>
              refine ⟨k + 1, k, c1, c2, setF (fun _ => none) x k, F2, g, by omega, by go_num, rfl, rfl, HLQ.out.next HM4.out HG4.out, ?_⟩
              have h := HM.out.next (r := 0) HU.out
              rw [HX.out, HM.out.none] at h
              exact h
            case measure => simp [intOf]; omega
      · obtain ⟨base, c1, c2, F1, F2, g, hk, rfl, rfl, rfl, HLP, HHD⟩ := hrel
        have HM := keepf (HHD.out.mid hrot)
        have r1 : ((k : Int) % 32768 == 0) = false := by simp; omega
        have hxl := three_lt HG.out k
        have HC3 := keepf (fun (W : World) (h : Src W 1 A n c (ocells bs)) => H3.out W k h (by omega))
        obtain ⟨x, hx⟩ : ∃ x, threeOf bs k = x := ⟨_, rfl⟩
        rw [hx] at HC3 hxl
        have HX := keepf hx
        have hkn : k < n := by omega
        have hkN : (k : Int) < n := by omega
        clear hrot HHD hx
        rcases hf1 : F1 x with _ | u
        · have HF1 := keepf hf1
          clear hf1
          rcases hf2 : F2 x with _ | u
          · have HF := keepf hf2
            have HU := keepf (HM.out.far (by rw [HX.out]; exact HF1.out) (fun v hv => by rw [HX.out, hf2] at hv; cases hv))
            clear hf2
            go_wp2_with (first
              | (go_at_call 159; refine (HC3.out _ (Src.below (w0 := w) HS.out HLP.out.chg)).mono ?_; rintro e w3 ⟨rfl, q, rfl⟩; have HLQ := keepf (HLP.out.drewN q))
              | (at_lookup; refine wpList_look_none rfl (.tmp 32) (.tmp 33) rfl c1 k F1 x rfl HLQ.out.m1 rfl (by omega) HF1.out ?_)
              | (at_lookup; refine wpList_look_none rfl (.tmp 40) (.tmp 41) rfl c2 k F2 x rfl HLQ.out.m2 rfl (by omega) HF.out ?_)
              | (at_mapUpdate; refine wpList_store rfl (.tmp 59) (.tmp 60) (.tmp 61) rfl c1 k F1 x k rfl HLQ.out.m1 rfl rfl (by omega) (by omega) (by unfold maxLen; omega) ?_; intro w4 hm4 hg4; have HM4 := keepf hm4; have HG4 := keepf hg4; clear hm4 hg4))
            go_roundw
            case rel =>
              refine ⟨k + 1, base, c1, c2, setF F1 x k, F2, g, by omega, by go_num, rfl, rfl, HLQ.out.next HM4.out HG4.out, ?_⟩
              have h := HM.out.next (r := 0) HU.out
              rw [HX.out, HM.out.none] at h
              exact h
            case measure => simp [intOf]; omega
          · have hu := HM.out.two (u := u) (by rw [HX.out]; exact HF1.out) (by rw [HX.out]; exact hf2)
            by_cases hfar : k - u ≤ 32768
            · have HF := keepf hf2
              have HU := keepf (hu.2 hfar)
              have hu1 := hu.1
              have hu2 := hfar
              obtain ⟨r, hr⟩ : ∃ r, r = k - u := ⟨_, rfl⟩
              have hr1 : (k : Int) - u = r := by omega
              rw [← hr] at HU hu2
              have hr2 : (r : Int) ≤ 32768 := by omega
              have hro := HLP.out.row.cellAt k (by omega)
              rw [srow_at (by omega)] at hro
              have hfr := HLP.out.row.frozenAt k
              clear hu hf2 hr hfar
              go_wp2_with (first
                | (go_at_call 159; refine (HC3.out _ (Src.below (w0 := w) HS.out HLP.out.chg)).mono ?_; rintro e w3 ⟨rfl, q, rfl⟩; have HLQ := keepf (HLP.out.drewN q))
                | (at_lookup; refine wpList_look_none rfl (.tmp 32) (.tmp 33) rfl c1 k F1 x rfl HLQ.out.m1 rfl (by omega) HF1.out ?_)
                | (at_lookup; refine wpList_look_some rfl (.tmp 40) (.tmp 41) rfl c2 k F2 x u rfl HLQ.out.m2 rfl (by omega) HF.out ?_)
                | (at_mapUpdate; refine wpList_store rfl (.tmp 59) (.tmp 60) (.tmp 61) rfl c1 k F1 x k rfl (HLQ.out.store k r).m1 rfl rfl (by omega) (by omega) (by unfold maxLen; omega) ?_; intro w4 hm4 hg4; have HM4 := keepf hm4; have HG4 := keepf hg4; clear hm4 hg4))
              go_roundw
              case rel =>
                refine ⟨k + 1, base, c1, c2, setF F1 x k, F2, (fun i => if i = k then r else g i), by omega, by go_num, rfl, rfl, (HLQ.out.store k r).next HM4.out HG4.out, ?_⟩
                have h := HM.out.next (r := r) HU.out
                rw [HX.out] at h
                exact h
              case measure => simp [intOf]; omega
            · have HF := keepf hf2
              have hu1 := hu.1
              have hfar2 : 32768 < k - u := by omega
              have HU := keepf (HM.out.far (by rw [HX.out]; exact HF1.out) (fun v hv => by rw [HX.out, hf2] at hv; injection hv with hv; omega))
              have d1 : ¬ ((k : Int) - u ≤ 32768) := by omega
              clear hu hf2 hfar hfar2
              go_wp2_with (first
                | (go_at_call 159; refine (HC3.out _ (Src.below (w0 := w) HS.out HLP.out.chg)).mono ?_; rintro e w3 ⟨rfl, q, rfl⟩; have HLQ := keepf (HLP.out.drewN q))
                | (at_lookup; refine wpList_look_none rfl (.tmp 32) (.tmp 33) rfl c1 k F1 x rfl HLQ.out.m1 rfl (by omega) HF1.out ?_)
                | (at_lookup; refine wpList_look_some rfl (.tmp 40) (.tmp 41) rfl c2 k F2 x u rfl HLQ.out.m2 rfl (by omega) HF.out ?_)
                | (at_mapUpdate; refine wpList_store rfl (.tmp 59) (.tmp 60) (.tmp 61) rfl c1 k F1 x k rfl HLQ.out.m1 rfl rfl (by omega) (by omega) (by unfold maxLen; omega) ?_; intro w4 hm4 hg4; have HM4 := keepf hm4; have HG4 := keepf hg4; clear hm4 hg4))
              go_roundw
              case rel =>
                refine ⟨k + 1, base, c1, c2, setF F1 x k, F2, g, by omega, by go_num, rfl, rfl, HLQ.out.next HM4.out HG4.out, ?_⟩
                have h := HM.out.next (r := 0) HU.out
                rw [HX.out, HM.out.none] at h
                exact h
              case measure => simp [intOf]; omega
        · have hu := HM.out.one (u := u) (by rw [HX.out]; exact hf1)
          have HU := keepf hu.2.2
          have hu1 := hu.1
          have hu2 := hu.2.1
          have HF := keepf hf1
          obtain ⟨r, hr⟩ : ∃ r, r = k - u := ⟨_, rfl⟩
          have hr1 : (k : Int) - u = r := by omega
          rw [← hr] at HU hu2
          have hr2 : (r : Int) ≤ 32768 := by omega
          have hro := HLP.out.row.cellAt k (by omega)
          rw [srow_at (by omega)] at hro
          have hfr := HLP.out.row.frozenAt k
          clear hu hf1 hr
          go_wp2_with (first
            | (go_at_call 159; refine (HC3.out _ (Src.below (w0 := w) HS.out HLP.out.chg)).mono ?_; rintro e w3 ⟨rfl, q, rfl⟩; have HLQ := keepf (HLP.out.drewN q))
            | (at_lookup; refine wpList_look_some rfl (.tmp 32) (.tmp 33) rfl c1 k F1 x u rfl HLQ.out.m1 rfl (by omega) HF.out ?_)
            | (at_mapUpdate; refine wpList_store rfl (.tmp 59) (.tmp 60) (.tmp 61) rfl c1 k F1 x k rfl (HLQ.out.store k r).m1 rfl rfl (by omega) (by omega) (by unfold maxLen; omega) ?_; intro w4 hm4 hg4; have HM4 := keepf hm4; have HG4 := keepf hg4; clear hm4 hg4))
          go_roundw
          case rel =>
            refine ⟨k + 1, base, c1, c2, setF F1 x k, F2, (fun i => if i = k then r else g i), by omega, by go_num, rfl, rfl, (HLQ.out.store k r).next HM4.out HG4.out, ?_⟩
            have h := HM.out.next (r := r) HU.out
            rw [HX.out] at h
            exact h
          case measure => simp [intOf]; omega
    · obtain ⟨base, c1, c2, F1, F2, g, hk, rfl, rfl, rfl, HLP, HHD⟩ := hrel
      have HK := keepf (show k = bs.length - 2 by have := HN.out; omega)
      go_wp2_with fail
      go_ret
      exact ⟨go, g, rfl, HLP.out.row, HHD.out.done HK.out, HLP.out.chg, HLP.out.lg⟩
end Go.Proofs.YtmmilchmnimjoaaGreat
