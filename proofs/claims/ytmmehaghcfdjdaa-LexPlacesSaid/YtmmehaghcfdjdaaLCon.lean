/- What the program's functions of words of a file are to answer (to be proved of what lands), the law's own two small functions, and its works. -/
import Derived.Test.YtmmehaghcfdjdaaLexT
import Derived.Test.YtmmehaghcfdjdaaRLx1
import Derived.Laws.BytesArg
import Derived.Lib.SlBytesConst
import Derived.BigQuiet
import Derived.Deep.QuietTactic
namespace Go.Proofs.Ytmmehaghcfdjdaa
open Go.RowKit
set_option linter.unusedVariables false
set_option linter.unusedSimpArgs false

/-- All tokens from a place on, where the last one ended, and the error. -/
inductive AllIs (bs : List Nat) : Nat → List Tkn → Nat → Int → Prop
  | done {p : Nat} (h : nextO bs p true = (0, noT bs.length)) : AllIs bs p [] p 0
  | err {p q : Nat} {er : Int} (h : nextO bs p true = (er, noT q)) (he : er ≠ 0) : AllIs bs p [] q er
  | tok {p q : Nat} {er : Int} {t : Tkn} {ts : List Tkn} (h : nextO bs p true = (0, t)) (hk : t.kind ≠ 0) (hp : t.to ≤ bs.length) (h2 : AllIs bs t.to ts q er) : AllIs bs p (t :: ts) q er
def tkcells (ts : List Tkn) : List Value := ts.flatMap fun t => [.int .i64 (t.kind : Nat), .int .i64 (t.from_ : Nat), .int .i64 (t.to : Nat), .int .i64 (t.vk : Nat), .int .i64 t.vn, .string (sb t.vs), .slice none 0 0, .string (sb t.s)]
structure LexOk : Prop where
  space : ∀ (c : Nat) (w : World), c < 256 → Calls Try.prog 13 #[.int .u8 (c : Nat)] w fun e w' => e = .returned (.bool (isSp c)) ∧ Chg NoS w w'
  delim : ∀ (c : Nat) (w : World), c < 256 → Calls Try.prog 15 #[.int .u8 (c : Nat)] w fun e w' => e = .returned (.bool (isDl c)) ∧ Chg NoS w w'
  skip : ∀ (bs : List Nat) (A : Option Addr) (c : Nat) (p : Int) (w : World), Src w 1 A bs.length c (lcells bs) → bs.length ≤ 90000 → bs.length ≤ c → (∀ x ∈ bs, x < 256) → Calls Try.prog 17 #[.slice A bs.length c, .int .i64 p] w fun e w' => e = .returned (.int .i64 (skipO bs p : Nat)) ∧ Chg NoS w w'
  next : ∀ (bs : List Nat) (A : Option Addr) (c : Nat) (p : Int) (last : Bool) (w : World), Src w 1 A bs.length c (lcells bs) → bs.length ≤ 90000 → bs.length ≤ c → (∀ x ∈ bs, x < 256) → Calls Try.prog 9 #[.slice A bs.length c, .int .i64 p, .bool last] w (NxTo w (nextA bs p last))
  all : ∀ (bs : List Nat) (A : Option Addr) (c : Nat) (w : World), Src w 1 A bs.length c (lcells bs) → bs.length ≤ 90000 → bs.length ≤ c → (∀ x ∈ bs, x < 256) → Calls Try.prog 19 #[.slice A bs.length c] w fun e w' => ∃ (A2 : Option Addr) (c2 m q : Nat) (er : Int) (ts : List Tkn), m = ts.length ∧ e = .returned (.tuple #[.slice A2 m c2, .int .i64 (q : Nat), .int .i64 er]) ∧ Src w' 8 A2 m c2 (tkcells ts) ∧ AllIs bs 0 ts q er ∧ Chg NoS w w'

set_option maxHeartbeats 1000000 in
set_option maxRecDepth 100000 in
/-- A token, as the document has it. -/
theorem of10_any (t : Tkn) (w : World) : Calls Try.prog 12 #[tknV t] w fun e w' => e = .returned (tknV t) ∧ Chg NoS w w' := by
  obtain ⟨kind, fr, to, vk, vn, vs, s⟩ := t
  unfold tknV
  obtain ⟨S1, h1⟩ : ∃ S1, S1 = sb vs := ⟨_, rfl⟩
  obtain ⟨S2, h2⟩ : ∃ S2, S2 = sb s := ⟨_, rfl⟩
  simp only []
  rw [← h1, ← h2]
  clear h1 h2
  go_enter Try.func12, Try.ntmps12
  go_wp2_with fail
  (try simp only [Exit.noGoto_ret])
  refine bodyPost_ret (v := .agg #[.int .i64 (kind : Nat), .int .i64 (fr : Nat), .int .i64 (to : Nat), .int .i64 (vk : Nat), .int .i64 vn, .string S1, .slice none 0 0, .string S2]) (by simp [results, Try.results12, go_sem]) rfl ?_
  exact ⟨rfl, ((Chg.refl NoS w).alloc _).alloc _⟩
set_option maxHeartbeats 1000000 in
set_option maxRecDepth 100000 in
theorem same10_eq (t : Tkn) (w : World) : Calls Try.prog 11 #[tknV t, tknV t] w fun e w' => e = .returned (.bool true) ∧ Chg NoS w w' := by
  obtain ⟨kind, fr, to, vk, vn, vs, s⟩ := t
  unfold tknV
  obtain ⟨S1, h1⟩ : ∃ S1, S1 = sb vs := ⟨_, rfl⟩
  obtain ⟨S2, h2⟩ : ∃ S2, S2 = sb s := ⟨_, rfl⟩
  simp only []
  rw [← h1, ← h2]
  clear h1 h2
  go_enter Try.func11, Try.ntmps11
  go_wp2_with fail
  go_ret
  exact ⟨rfl, ((Chg.refl NoS w).alloc _).alloc _⟩
end Go.Proofs.Ytmmehaghcfdjdaa
