/- works(): the dictionary that every law asks for. -/
import Derived.Test.YtjbjfoingpnlmaaVDi3
import Derived.Test.YtjbjfoingpnlmaaVGet
import Derived.Test.YtjbjfoingpnlmaaVChk
namespace Go.Proofs.Ytjbjfoingpnlmaa
open Go.RowKit
set_option linter.unusedVariables false
set_option linter.unusedSimpArgs false

def sA : ByteArray := ⟨#[65]⟩
def sB : ByteArray := ⟨#[66]⟩
def ref3 : VT := .mk 8 3 ⟨#[]⟩ []
def int7 : VT := .mk 2 7 ⟨#[]⟩ []
def wkL : List VT := [nmT sB, ref3, nmT sA, int7]
def wkD : List VT := [nmT sA, int7, nmT sB, ref3]
theorem lessAB : Op.bytesLess sA.toList sB.toList = true := by simp [sA, sB, ByteArray.toList_eq, Op.bytesLess]
theorem lessBA : Op.bytesLess sB.toList sA.toList = false := by simp [sA, sB, ByteArray.toList_eq, Op.bytesLess]
theorem neAB : sA ≠ sB := fun h => by have := lessAB; rw [h] at this; simp [bytesLess_self] at this
theorem dict_wk : dictT wkL = wkD := by
  have k0 : keyAt wkL 0 = sB := rfl
  have k1 : keyAt wkL 1 = sA := rfl
  have v0 : valAt wkL 0 = ref3 := rfl
  have v1 : valAt wkL 1 = int7 := rfl
  have h : sortR (keyAt wkL) (List.range (wkL.length / 2)) = [0, 1] := by
    show insR (keyAt wkL) 1 [0] = _
    rw [insR, k0, k1, if_pos lessAB]
    rfl
  unfold dictT
  rw [h]
  show emF (keyAt wkL) (valAt wkL) [1, 0] = _
  rw [emF_ne (by rw [k0, k1]; exact neAB.symm), emF_last, k0, k1, v0, v1]
  rfl
theorem get_wk : getT 7 wkD sB = (ref3, true) := by
  have h : findL sB wkD = some 1 := by
    unfold wkD
    rw [findL_no (t := nmT sA) (key := sB) (fun h => neAB h.2)]
    rw [List.drop_succ_cons, List.drop_zero, findL_hit (hit_nm sB)]
    rfl
  rw [get_some h]
  rfl
theorem depth_wk : depthT (.mk 7 0 ⟨#[]⟩ wkD) = 2 := by
  unfold wkD nmT ref3 int7
  simp [depthT, depthL]
theorem check_wk : checkT (.mk 7 0 ⟨#[]⟩ wkD) = 0 := by
  unfold checkT
  rw [depth_wk, if_neg (by decide), firstT_mk]
  have hd : ownO 7 0 ⟨#[]⟩ wkD = 0 := by
    rw [own_7]
    refine dict_ok rfl ?_ ?_
    · intro j t h
      match j, h with
      | 0, h => cases h; rfl
      | 1, h => cases h; rfl
      | j + 2, h => rw [show 2 * (j + 2) = 2 * j + 4 by omega] at h; simp [wkD] at h
    · intro j t u h h2
      match j, h, h2 with
      | 0, h, h2 => cases h; cases h2; exact lessAB
      | j + 1, h, h2 => rw [show 2 * (j + 1) + 2 = 2 * j + 4 by omega] at h2; simp [wkD] at h2
  rw [hd, if_neg (fun h => h rfl), if_pos (.inr rfl)]
  have tA : textO sA := by unfold textO sA; exact ⟨by intro d hd; simp [sl] at hd; omega, by decide⟩
  have tB : textO sB := by unfold textO sB; exact ⟨by intro d hd; simp [sl] at hd; omega, by decide⟩
  have fz : ∀ {k n : Int} {s : ByteArray} {l : List VT}, ownO k n s l = 0 → ¬ (k = 6 ∨ k = 7) → firstT (.mk k n s l) = 0 := fun h h6 => by
    rw [firstT_mk, h, if_neg (fun h => h rfl), if_neg h6]
  have e1 : firstT (nmT sA) = 0 := fz (by rw [own_5, if_neg (fun h => h tA)]; exact if_pos ⟨rfl, rfl⟩) (by decide)
  have e2 : firstT (nmT sB) = 0 := fz (by rw [own_5, if_neg (fun h => h tB)]; exact if_pos ⟨rfl, rfl⟩) (by decide)
  have e3 : firstT int7 = 0 := fz (by rw [own_2]; unfold chkOf; exact if_pos ⟨rfl, rfl, by unfold mayN; simp⟩) (by decide)
  have e4 : firstT ref3 = 0 := fz (by rw [own_8]; exact if_pos ⟨rfl, rfl, by decide, by decide⟩) (by decide)
  unfold wkD
  rw [firstL_cons, e1, firstL_cons, e3, firstL_cons, e2, firstL_cons, e4]
  simp [firstL]
theorem row4 {W : World} {B : Nat} {t1 t2 t3 t4 : VT} {e1 e2 e3 e4 : VC} (hb : Blk W B 24 #[.int .i64 e1.k, .int .i64 e1.n, .string e1.s, .slice e1.A e1.len e1.cap, .int .i64 e2.k, .int .i64 e2.n, .string e2.s, .slice e2.A e2.len e2.cap, .int .i64 e3.k, .int .i64 e3.n, .string e3.s, .slice e3.A e3.len e3.cap, .int .i64 e4.k, .int .i64 e4.n, .string e4.s, .slice e4.A e4.len e4.cap])
    (h1 : ValIs W t1 e1) (h2 : ValIs W t2 e2) (h3 : ValIs W t3 e3) (h4 : ValIs W t4 e4) : RowIs W (some ⟨B, 0, none⟩) 0 [t1, t2, t3, t4] := by
  have hadd : ∀ j, (⟨B, 0, none⟩ : Addr).add j = ⟨B, j, none⟩ := fun j => by unfold Addr.add; split <;> simp_all
  have go : ∀ (j : Nat) (e : VC), (∀ i, i < 4 → (#[Value.int .i64 e1.k, .int .i64 e1.n, .string e1.s, .slice e1.A e1.len e1.cap, .int .i64 e2.k, .int .i64 e2.n, .string e2.s, .slice e2.A e2.len e2.cap, .int .i64 e3.k, .int .i64 e3.n, .string e3.s, .slice e3.A e3.len e3.cap, .int .i64 e4.k, .int .i64 e4.n, .string e4.s, .slice e4.A e4.len e4.cap])[j * 4 + i]? = e.cells[i]?) → ∀ i, i < 4 → W.cell? ((⟨B, 0, none⟩ : Addr).add (j * 4 + i)) = e.cells[i]? := by
    intro j e h i hi
    rw [hadd, hb.cell]
    exact h i hi
  refine .cons _ 0 t1 _ e1 (go 0 e1 ?_) h1 (.cons _ 1 t2 _ e2 (go 1 e2 ?_) h2 (.cons _ 2 t3 _ e3 (go 2 e3 ?_) h3 (.cons _ 3 t4 _ e4 (go 3 e4 ?_) h4 (.nil _ _))))
  all_goals
    intro i hi
    match i, hi with
    | 0, _ => rfl
    | 1, _ => rfl
    | 2, _ => rfl
    | 3, _ => rfl
end Go.Proofs.Ytjbjfoingpnlmaa
