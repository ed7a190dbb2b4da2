/- Pieces that were put, as the document keeps them, and the steps that come in. -/
import Derived.Test.YtnbjigopgbjneaaSoFw
import Derived.Test.YtnbjigopgbjneaaLexIn
import Derived.Test.YtnbjigopgbjneaaSame
namespace Go.Proofs.Ytnbjigopgbjneaa
open Go.RowKit Go.Deep Go.ChangeShapes Go.WideShapes
set_option linter.unusedVariables false
set_option linter.unusedSimpArgs false

/-- A piece: where it was put, and its bytes. -/
structure PcS where
  p : Nat
  A : Option Addr
  cap : Nat
  bs : List Nat

instance : Inhabited PcS := ⟨⟨0, none, 0, []⟩⟩

def encPc (x : PcS) : List Value := [.int .i64 (x.p : Nat), .slice x.A x.bs.length x.cap]

theorem encPc_len (x : PcS) : (encPc x).length = 2 := rfl

theorem encPc_one (x : PcS) : ∀ u ∈ encPc x, u.oneCell' = true := by
  intro u hu
  simp [encPc] at hu
  rcases hu with rfl | rfl <;> rfl

/-- Its bytes lie there. -/
structure PcAt (w : World) (x : PcS) : Prop where
  src : Src w 1 x.A x.bs.length x.cap (lcells x.bs)
  cap : x.bs.length ≤ x.cap
  len : x.bs.length ≤ 100
  p : x.p ≤ 200

theorem PcAt.no {w w' : World} {x : PcS} (h : PcAt w x) (hc : Chg NoS w w') : PcAt w' x := ⟨src_no h.src hc, h.cap, h.len, h.p⟩

/-- The byte at a place: of the first piece that has it. -/
def byteO : List PcS → Nat → Option Nat
  | [], _ => none
  | x :: l, q => if x.p ≤ q ∧ q < x.p + x.bs.length then some (x.bs.getD (q - x.p) 0) else byteO l q

theorem byteO_app (l : List PcS) (x : PcS) (q : Nat) : byteO (l ++ [x]) q = match byteO l q with
    | some b => some b
    | none => if x.p ≤ q ∧ q < x.p + x.bs.length then some (x.bs.getD (q - x.p) 0) else none := by
  induction l with
  | nil => rfl
  | cons y l ih =>
    rw [List.cons_append]
    simp only [byteO]
    split
    · rfl
    · exact ih

theorem byteO_drop {l : List PcS} {k : Nat} {x : PcS} (h : l[k]? = some x) (q : Nat) : byteO (l.drop k) q = if x.p ≤ q ∧ q < x.p + x.bs.length then some (x.bs.getD (q - x.p) 0) else byteO (l.drop (k + 1)) q := by
  obtain ⟨hk, rfl⟩ := List.getElem?_eq_some_iff.1 h
  rw [List.drop_eq_getElem_cons hk]
  rfl

/-- The cells of the k-th piece of a row. -/
theorem pc_cells {w : World} {B : Option Addr} {n c : Nat} {xs : List PcS} (h : Src w 2 B n c (xs.flatMap encPc)) (hl : xs.length = n) {k : Nat} (hk : k < n) :
    ∃ b off, B = some ⟨b, off, none⟩ ∧ ∃ y, xs[k]? = some y ∧ w.cell? ⟨b, off + k * 2, none⟩ = some (.int .i64 (y.p : Nat)) ∧ w.cell? ⟨b, off + k * 2 + 1, none⟩ = some (.slice y.A y.bs.length y.cap) := by
  obtain ⟨b, off, rfl, hc⟩ := h.plain (by rw [flat_len _ 2 encPc_len]; omega)
  refine ⟨b, off, rfl, xs[k], List.getElem?_eq_getElem (by omega), ?_, ?_⟩
  · have := hc (k * 2 + 0) (.int .i64 ((xs[k]'(by omega)).p : Nat)) (by rw [flat_get encPc 2 encPc_len xs k 0 _ (List.getElem?_eq_getElem (by omega)) (by omega)]; rfl)
    simpa using this
  · have := hc (k * 2 + 1) (.slice (xs[k]'(by omega)).A (xs[k]'(by omega)).bs.length (xs[k]'(by omega)).cap) (by rw [flat_get encPc 2 encPc_len xs k 1 _ (List.getElem?_eq_getElem (by omega)) (by omega)]; rfl)
    rw [← Nat.add_assoc] at this
    exact this

/-- A byte, or none. -/
def byV : Option Nat → Value
  | some x => .tuple #[.int .u8 (x : Nat), .bool true]
  | none => .tuple #[.int .u8 0, .bool false]

/-- The row of pieces. -/
structure PcRow (w : World) (B : Option Addr) (n c : Nat) (xs : List PcS) : Prop where
  src : Src w 2 B n c (xs.flatMap encPc)
  len : xs.length = n
  all : ∀ x ∈ xs, PcAt w x
  few : n ≤ 30

theorem PcRow.no {w w' : World} {B : Option Addr} {n c : Nat} {xs : List PcS} (h : PcRow w B n c xs) (hc : Chg NoS w w') : PcRow w' B n c xs := ⟨src_no h.src hc, h.len, fun x hx => (h.all x hx).no hc, h.few⟩

theorem PcRow.drewN {w : World} {B : Option Addr} {n c : Nat} {xs : List PcS} (h : PcRow w B n c xs) (m : Nat) : PcRow (w.drewN m) B n c xs := h.no ((Chg.refl _ _).drewN m)

set_option maxHeartbeats 4000000 in
set_option maxRecDepth 100000 in
theorem byte16 (B : Option Addr) (n c : Nat) (xs : List PcS) (q : Nat) (w : World) (h : PcRow w B n c xs) (hq : q ≤ 1000000) :
    Calls Try.prog 29 #[.slice B n c, .int .i64 (q : Nat)] w (fun e w' => e = .returned (byV (byteO xs q)) ∧ Chg NoS w w') := by
  have HR := keepf h
  have hfew := h.few
  clear h
  go_enter Try.func29, Try.ntmps29
  go_wp2_with fail
  go_loopw [6] (fun v6 wr => ∃ k : Nat, k ≤ n ∧ v6 = .int .i64 k ∧ Hid (Chg NoS w wr) ∧ Hid (byteO xs q = byteO (xs.drop k) q)) (fun v6 _ => n - (intOf v6).toNat)
  case atStart => exact ⟨0, Nat.zero_le _, rfl, Chg.refl _ _, by show _ = _; rw [List.drop_zero]⟩
  case round =>
    obtain ⟨k, hk, rfl, HC, HB⟩ := hrel
    by_cases hlt : k < n
    · obtain ⟨b, off, rfl, ⟨p, A, cap, bs⟩, hx, c0, c1⟩ := pc_cells (HR.out.no HC.out).src HR.out.len hlt
      simp only at c0 c1
      have hpc := HR.out.all _ (List.mem_of_getElem? hx)
      have hdr := byteO_drop hx q
      simp only at hdr
      have hp2 := hpc.p
      simp only at hp2
      by_cases h1 : p ≤ q
      · have e1 : decide ((p : Int) ≤ (q : Int)) = true := by simp; omega
        have e2 : decide (p ≤ q) = true := by simp; omega
        obtain ⟨t, ht⟩ : ∃ t, t = q - p := ⟨_, rfl⟩
        have hsub : (q : Int) - (p : Int) = (t : Int) := by omega
        have hwr : IntKind.i64.wrap ((q : Int) - (p : Int)) = (t : Int) := by rw [IntKind.wrap_i64]; omega
        by_cases h2 : t < bs.length
        · have e3 : decide ((t : Int) < (bs.length : Int)) = true := by simp; omega
          have e4 : decide (t < bs.length) = true := by simp; omega
          rw [if_pos (by omega), ← ht] at hdr
          obtain ⟨x, hx0, _⟩ := drop_at h2
          obtain ⟨b2, o2, hA, hcell⟩ := lcell (HR.out.all _ (List.mem_of_getElem? hx)).src HC.out (show 0 < bs.length by omega)
          simp only at hA
          subst hA
          have cb := hcell t x hx0
          have HD := keepf (show byteO xs q = some x by rw [HB.out, hdr, List.getD_eq_getElem?_getD, hx0]; rfl)
          clear hcell hx0 hx hdr hpc ht
          go_wp2_with fail
          go_quiet (fail)
          go_wp2_with fail
          go_quiet (fail)
          go_wp2_with fail
          go_ret2
          exact ⟨by rw [HD.out]; rfl, (HC.out.drewN _).drewN _⟩
        · have e3 : decide ((t : Int) < (bs.length : Int)) = false := by simp; omega
          have e4 : decide (t < bs.length) = false := by simp; omega
          rw [if_neg (by omega)] at hdr
          have HD := keepf (HB.out.trans hdr)
          clear hx hdr hpc ht
          go_wp2_with fail
          go_quiet (fail)
          go_wp2_with fail
          go_roundw
          case rel => exact ⟨k + 1, by omega, by go_num, HC.out.drewN _, HD.out⟩
          case measure => simp [intOf]; omega
      · have e1 : decide ((p : Int) ≤ (q : Int)) = false := by simp; omega
        have e2 : decide (p ≤ q) = false := by simp; omega
        rw [if_neg (by omega)] at hdr
        have HD := keepf (HB.out.trans hdr)
        clear hx hdr hpc
        go_wp2_with fail
        go_quiet (fail)
        go_wp2_with fail
        go_roundw
        case rel => exact ⟨k + 1, by omega, by go_num, HC.out.drewN _, HD.out⟩
        case measure => simp [intOf]; omega
    · obtain rfl : k = n := by omega
      have HD := keepf (show byteO xs q = none by rw [HB.out, List.drop_of_length_le (by rw [HR.out.len]; exact Nat.le_refl _)]; rfl)
      go_wp2_with fail
      go_ret2
      exact ⟨by rw [HD.out]; rfl, HC.out⟩

end Go.Proofs.Ytnbjigopgbjneaa
