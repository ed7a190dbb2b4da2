/- What the library reads of the world (a table of powers of ten, a bound): it stays where no block that was there is changed. -/
import Derived.Test.YtmmehaghcfdjdaaStr9
import Derived.Test.YtmmehaghcfdjdaaProg
import Derived.Lib.LaidTab
import Derived.Lib.ItoaNum
import Derived.Lib.Repeat
import Derived.Sort.Grow
namespace Go.Proofs.Ytmmehaghcfdjdaa
open Go.RowKit
set_option linter.unusedVariables false

structure LibOk (w : World) : Prop where
  tab : Lib.TabIs Try.prog w "internal/strconv.uint64pow10" .u64 Lib.pow10Tab
  most : ∃ m, w.cell? ⟨0, 0, none⟩ = some (.int .i64 m)

theorem cell_in {w : World} {a : Addr} {v : Value} (h : w.cell? a = some v) : a.block < w.heap.size := by
  rcases Nat.lt_or_ge a.block w.heap.size with h' | h'
  · exact h'
  · simp [World.cell?, Array.getElem?_eq_none h'] at h
theorem var_chg {P : Program} {w w' : World} {n : String} {cs : Array Value} (h : w.var? P n = some cs) (hc : Chg NoS w w') : w'.var? P n = some cs := by
  unfold World.var? at h ⊢
  cases hg : P.globalNamed n with
  | none => simp [hg] at h
  | some g =>
    simp only [hg, Option.bind_some] at h ⊢
    have hlt : g < w.heap.size := by
      rcases Nat.lt_or_ge g w.heap.size with h' | h'
      · exact h'
      · simp [Array.getElem?_eq_none h'] at h
    rw [hc.block g hlt (fun h => h)]
    exact h
theorem LibOk.chg {w w' : World} (h : LibOk w) (hc : Chg NoS w w') : LibOk w' := by
  obtain ⟨m, hm⟩ := h.most
  exact ⟨var_chg h.tab hc, m, (hc.cell (cell_in hm) (fun h => h)).trans hm⟩
theorem chg_grow {w : World} (k : Nat) (os : Array Obj) : Chg NoS w (Go.Sort.grow (w.drewN k) os) :=
  ⟨rfl, rfl, rfl, by rw [Go.Sort.size_grow]; exact Nat.le_add_right _ _, fun i hi _ => Go.Sort.heap_grow_old _ _ hi⟩

/-- Bytes of a string and numbers. -/
theorem sl_mk (l : List UInt8) : sl ⟨l.toArray⟩ = l.map UInt8.toNat := rfl
theorem mk_sb (l : List UInt8) : (⟨l.toArray⟩ : ByteArray) = sb (l.map UInt8.toNat) := by
  unfold sb
  rw [List.map_map]
  have e : (UInt8.ofNat ∘ UInt8.toNat) = id := by funext x; simp
  rw [e, List.map_id]
theorem of_dig (d : Nat) (h : d < 10) : (UInt8.ofNat (48 + d)).toNat = 48 + d := by
  simp
  omega
theorem dec_txt (u : Nat) : (Lib.decDigits u).map UInt8.toNat = txt u 1 := by
  induction u using Nat.strongRecOn with
  | _ u ih =>
    rw [Lib.decDigits]
    by_cases h : u < 10
    · rw [dif_pos h, List.map_cons, List.map_nil, of_dig u h]
      by_cases h0 : u = 0
      · subst h0; rw [txt, dn_0]; rfl
      · rw [txt, dn_s h0, show u / 10 = 0 from by omega, dn_0, show u % 10 = u from by omega]
        rfl
    · rw [dif_neg h, List.map_append, ih (u / 10) (by omega), List.map_cons, List.map_nil, of_dig _ (by omega), txt_step u 1 (.inl (by omega))]
      rw [txt, txt]
      congr 1
      have h1 := dn_more (n := u / 10) (k := 0) (by simp; omega)
      rw [show 1 - (dn (u / 10)).length = 0 from by omega, show 1 - 1 - (dn (u / 10)).length = 0 from by omega]
theorem itoa_pos (n : Int) (h : 0 ≤ n) : (⟨(Lib.itoa n).toArray⟩ : ByteArray) = sb (txt n.toNat 1) := by
  unfold Lib.itoa
  rw [if_neg (by omega), mk_sb, dec_txt]
theorem rep_zero : ∀ c, Lib.repeatL [48] c = List.replicate c 48
  | 0 => rfl
  | c + 1 => by rw [Lib.repeatL, rep_zero c, List.replicate_succ]; rfl
theorem rep_sb (c : Nat) : (⟨(Lib.repeatL [48] c).toArray⟩ : ByteArray) = sb (List.replicate c 48) := by
  rw [mk_sb, rep_zero, List.map_replicate]
  rfl
end Go.Proofs.Ytmmehaghcfdjdaa
