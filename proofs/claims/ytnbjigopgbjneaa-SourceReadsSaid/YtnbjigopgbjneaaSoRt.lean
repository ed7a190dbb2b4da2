/- Put and Read of a step, whatever they tell, beside the document's. -/
import Derived.Test.YtnbjigopgbjneaaSoRs
namespace Go.Proofs.Ytnbjigopgbjneaa
open Go.RowKit
set_option linter.unusedVariables false
set_option linter.unusedSimpArgs false

/-- What Put told: f; where it is 0 the bytes are there. -/
def PutAny (w : World) (S : Nat → Prop) (g n m : Nat) (F : List Sp) (c : Nat → Nat) (p : Int) (bs : List Nat) (f : Int) (e : Ending) (w' : World) : Prop :=
  e = .returned (.int .i64 f) ∧ ((f ≠ 0 ∧ w = w') ∨ (f = 0 ∧ ∃ u : Nat, p = u ∧ u + bs.length ≤ n ∧ SoPutTo w S g n m F c u bs e w'))

theorem put_both {w : World} {S : Nat → Prop} {g n m : Nat} {F : List Sp} {c : Nat → Nat} (h : SoAt w S g n m F c) (p : Int) (A : Option Addr) (len cap : Nat) (bs : List Nat) (hn : n ≤ 200) (hS : Src w 1 A len cap (lcells bs)) (hl : bs.length = len) (hcap : len ≤ cap)
    (hlen : len ≤ 100) (hm : m ≤ 100000) (hF : F.length ≤ 1000) (hA : 0 < len → ∀ ad, A = some ad → ¬ S ad.block) :
    ∃ f : Int, (∀ V, Calls Try.prog 10 #[.int .i64 (n : Nat), .int .i64 p, .int .i64 (len : Nat)] V (fun e w' => e = .returned (.int .i64 f) ∧ V = w')) ∧
      Calls Try.prog 11 #[.pointer (some ⟨g, 0, none⟩), .int .i64 p, .slice A len cap] w (PutAny w S g n m F c p bs f) := by
  cases h0 : hasP n p with
  | false =>
    refine ⟨2, fun V => ?_, ?_⟩
    · have h1 := rput16 (n : Int) p (len : Int) V ⟨by omega, by omega⟩
      rw [show rputO (n : Int) p (len : Int) = 2 by
        simp [hasP] at h0
        unfold rputO
        rw [if_pos]
        omega] at h1
      exact h1
    · exact (put_arg h p A len cap h0).mono fun e w' h1 => ⟨h1.1, .inl ⟨by decide, h1.2⟩⟩
  | true =>
    simp [hasP] at h0
    obtain ⟨u, rfl⟩ : ∃ u : Nat, p = u := ⟨p.toNat, by omega⟩
    by_cases h1 : n < u + len
    · refine ⟨5, fun V => ?_, ?_⟩
      · have h2 := rput16 (n : Int) (u : Int) (len : Int) V ⟨by omega, by omega⟩
        rw [show rputO (n : Int) (u : Int) (len : Int) = 5 by
          unfold rputO
          rw [if_neg (by omega), if_pos (by omega)]] at h2
        exact h2
      · exact (put_rng h u A len cap (by omega) (by omega) h1).mono fun e w' h2 => ⟨h2.1, .inl ⟨by decide, h2.2⟩⟩
    · refine ⟨0, fun V => ?_, ?_⟩
      · have h2 := rput16 (n : Int) (u : Int) (len : Int) V ⟨by omega, by omega⟩
        rw [show rputO (n : Int) (u : Int) (len : Int) = 0 by
          unfold rputO
          rw [if_neg (by omega), if_neg (by omega)]] at h2
        exact h2
      · refine (put_so h u A len cap bs (by omega) hS hl hcap (by omega) (by omega) (by omega) (by omega) hA).mono fun e w' h2 => ?_
        have h3 := h2
        obtain ⟨S', c', he, _⟩ := h3
        exact ⟨he, .inr ⟨rfl, u, rfl, by omega, h2⟩⟩

/-- What Read tells: bytes that read as X, and b. -/
def RdAny (w : World) (X : ByteArray) (b : Bool) (e : Ending) (w' : World) : Prop :=
  ∃ A m c, e = .returned (.tuple #[.slice A m c, .bool b]) ∧ Chg NoS w w' ∧ ∀ V, Chg NoS w' V → (convert 30 9 (.slice A m c)).run Try.prog V = .ok (.string X) V

theorem read_both {w wr : World} {n g M : Nat} {S : Nat → Prop} {PL : List PcS} {A : Option Addr} {cp m : Nat} {F : List Sp} {c : Nat → Nat} (h : SrI w wr n g M S PL (.slice A m cp) F c) (hm : m = PL.length) (hf : m ≤ 30) (hn : n ≤ 200) (p mo : Int) (hmo : mo ≤ 9223372036854775807) :
    ∃ (X : ByteArray) (b : Bool), (∀ V, Chg NoS wr V → Calls Try.prog 12 #[.pointer (some ⟨g, 0, none⟩), .int .i64 p, .int .i64 mo] V (RdAny V X b)) ∧
      (∀ V, Chg NoS wr V → Calls Try.prog 13 #[.int .i64 (n : Nat), .slice A m cp, .int .i64 p, .int .i64 mo] V (fun e w' => e = .returned (.tuple #[.string X, .bool b]) ∧ Chg NoS V w')) := by
  subst hm
  by_cases h0 : hasP n p = false ∨ mo < 0
  · refine ⟨⟨#[]⟩, false, fun V hV => ?_, fun V hV => ?_⟩
    · refine (read_no (h.so.no hV) p mo h0).mono ?_
      rintro e w' ⟨he, rfl⟩
      exact ⟨none, 0, 0, he, Chg.refl _ _, fun V hV => conv_l (bs := []) ⟨rfl, fun _ => ⟨rfl, rfl⟩, fun ad e => by cases e⟩⟩
    · refine (rread_no A PL.length cp n p mo V h0).mono ?_
      rintro e w' ⟨he, rfl⟩
      exact ⟨he, Chg.refl _ _⟩
  · have h1 : hasP n p = true := by
      cases h2 : hasP n p with
      | true => rfl
      | false => exact absurd (.inl h2) h0
    have h2 : ¬ mo < 0 := fun h3 => h0 (.inr h3)
    simp [hasP] at h1
    obtain ⟨u, rfl⟩ : ∃ u : Nat, p = u := ⟨p.toNat, by omega⟩
    obtain ⟨v, rfl⟩ : ∃ v : Nat, mo = v := ⟨mo.toNat, by omega⟩
    refine ⟨sb (rngB c u (readN n F u v)), decide (u + readN n F u v = n), fun V hV => ?_, fun V hV => ?_⟩
    · refine (read_ok (h.so.no hV) u v (by omega) (by omega)).mono ?_
      rintro e w' ⟨gr, he, ho, hc, _⟩
      exact ⟨_, _, _, he, hc, fun V2 hV2 => conv_l (src_no (src_own ho) hV2)⟩
    · exact rread_ok A PL.length cp n PL F c u v V ((h.prow hf).no hV) h.kn hn (by omega) (by omega)

end Go.Proofs.Ytnbjigopgbjneaa
