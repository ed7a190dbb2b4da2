/- The program's All, and the structure of all that the laws ask of lex (written by mkpall.py). -/
import Derived.Test.YtmmehaghcfdjdaaPNext
import Derived.Deep.RegionHeld3
namespace Go.Proofs.Ytmmehaghcfdjdaa
open Go.RowKit
set_option linter.unusedVariables false
set_option linter.unusedSimpArgs false

theorem info_tok : (Try.prog.info? 28).map (fun i => (i.zero, i.size, i.bytes)) = some (some (.agg #[.int .i64 0, .int .i64 0, .int .i64 0, .int .i64 0, .int .i64 0, .string ⟨#[]⟩, .slice none 0 0, .string ⟨#[]⟩]), 8, 96) := by kernel_rfl
/-- A row of tokens of the call's own, that grows. -/
structure GT (w wr : World) (xs : List Value) (n : Nat) (A : Option Addr) (c : Nat) : Prop where
  own : wr.ownsRow w.heap.size 28 8 (.slice A n c) n xs
  chg : Chg NoS w wr
theorem GT.call {w wr w2 : World} {xs : List Value} {n c : Nat} {A : Option Addr} (h : GT w wr xs n A c) (hc : Chg NoS wr w2) : GT w w2 xs n A c :=
  ⟨own_chg (S := NoS) h.own hc (fun _ _ e => e), h.chg.trans hc (fun _ _ e => e)⟩
theorem GT.ne {w wr : World} {xs : List Value} {n c g : Nat} {A : Option Addr} (h : GT w wr xs n A c) (hg : wr.heap.size ≤ g) : (Value.slice A n c).ownBlock ≠ some g := fun e => absurd (own_lt h.own e) (Nat.not_lt.2 hg)
theorem stepT {w wr W : World} {ops : Array Oper} {o : Oper} {a : Act} {K : Act → World → Prop} {Q : Exit → Act → World → Prop} {E : Prop} {xs news : List Value} {m c B : Nat} {A : Option Addr} (hgd : o.guard = none) (s x : Operand)
    (ho : o.op = .call { callee := .builtin .append, args := #[s, x], argTypes := #[41, 41] }) (hs : a.eval s = .slice A m c) (hx : a.eval x = .slice (some ⟨B, 0, none⟩) 1 1)
    (h : GT w wr xs m A c) (hm : m ≤ 2000000) (hc : Chg NoS wr W) (hl : news.length = 8) (hy : ∀ j u, news[j]? = some u → W.cell? ((⟨B, 0, none⟩ : Addr).add j) = some u) (h1 : ∀ u ∈ news, u.oneCell' = true)
    (k : ∀ g c3 w', GT w w' (xs ++ news) (m + 1) (some ⟨g, 0, none⟩) c3 → W.grownBy w' (Value.slice A m c).ownBlock → K (a.put o.dst (.slice (some ⟨g, 0, none⟩) (m + 1) c3)) w') :
    if Region.wanted o (yielded ops a.tmps) = true then Oper.wp Try.prog o a W K Q else E := by
  obtain ⟨i0, hi, hz0, hz1, hz2⟩ := info_partsL info_tok
  have hsz := (h.chg.trans hc (fun _ _ e => e)).size
  refine step_append_lies W hgd s x 41 ho w.heap.size 28 i0 _ 8 96 Try.underlying41 hi hz0 hz1 hz2 rfl (by decide) (.slice A m c) m xs hs (h.call hc).own ⟨B, 0, none⟩ 1 1 news hx (by rw [hl]) hy h1 (by decide) (by unfold maxLen; omega) (by omega) hsz W.heap.size rfl ?_
  intro g c4 w4 hown4 hgr4 hat4 hlt4
  refine k g c4 w4 ⟨hown4, ?_⟩ hgr4
  exact (h.chg.trans hc (fun _ _ e => e)).grown hgr4 (fun k hk e => absurd e (Nat.not_lt.2 (h.own.lt k hk).1))
theorem tkcells_app (a b : List Tkn) : tkcells (a ++ b) = tkcells a ++ tkcells b := by simp [tkcells]
def AlJ (w : World) (bs : List Nat) (A : Option Addr) (c : Nat) (n : Nat) (x : Act) (w' : World) : Prop :=
  x.defers = [] ∧ x.tmps.size = 32 ∧ x.tmps.getD 0 undef = .slice A bs.length c ∧ ∃ (p m c2 : Nat) (A2 : Option Addr) (ts0 : List Tkn), x.tmps.getD 5 undef = .slice A2 m c2 ∧ x.tmps.getD 6 undef = .int .i64 (p : Nat) ∧ n = bs.length - p + 1 ∧ p ≤ bs.length ∧ m ≤ p ∧
    Hid (GT w w' (tkcells ts0) m A2 c2 ∧ m = ts0.length ∧ ∀ ts q er, AllIs bs p ts q er → AllIs bs 0 (ts0 ++ ts) q er)
theorem slots_32 {x : Act} {v0 v5 v6 : Value} {C : Act → Prop} (h1 : x.defers = []) (h2 : x.tmps.size = 32) (h3 : x.tmps.getD 0 undef = v0) (h4 : x.tmps.getD 5 undef = v5) (h5 : x.tmps.getD 6 undef = v6)
    (k : ∀ f : Nat → Value, C { tmps := #[v0, f 1, f 2, f 3, f 4, v5, v6, f 7, f 8, f 9, f 10, f 11, f 12, f 13, f 14, f 15, f 16, f 17, f 18, f 19, f 20, f 21, f 22, f 23, f 24, f 25, f 26, f 27, f 28, f 29, f 30, f 31], defers := [] }) : C x := by
  obtain ⟨t, d⟩ := x
  simp only at h1 h2 h3 h4 h5
  subst h1
  have h6 := k (fun i => t.getD i undef)
  rw [← h3, ← h4, ← h5] at h6
  rw [arr_slots t 32 h2]
  exact h6
/-- Behind All. -/
def AllTo (w : World) (bs : List Nat) (e : Ending) (w' : World) : Prop :=
  ∃ (A2 : Option Addr) (c2 m q : Nat) (er : Int) (ts : List Tkn), m = ts.length ∧ e = .returned (.tuple #[.slice A2 m c2, .int .i64 (q : Nat), .int .i64 er]) ∧ Src w' 8 A2 m c2 (tkcells ts) ∧ AllIs bs 0 ts q er ∧ Chg NoS w w'
set_option maxHeartbeats 4000000 in
set_option maxRecDepth 100000 in
theorem pall_any (bs : List Nat) (A : Option Addr) (c : Nat) (w : World) (hS : Src w 1 A bs.length c (lcells bs)) (hl : bs.length ≤ 90000) (hc : bs.length ≤ c) (hb : ∀ x ∈ bs, x < 256) :
    Calls Try.prog 19 #[.slice A bs.length c] w (AllTo w bs) := by
  have HNX := keepf (fun (p : Nat) (hp : p ≤ bs.length) W (hW : Chg NoS w W) => (show Calls Try.prog 9 #[.slice A bs.length c, .int .i64 (p : Nat), .bool true] W (NxTo W (nextO bs p true)) from by
    have h := pnext_any bs A c (p : Int) true W (Src.below (w0 := w) hS hW) hl hc hb
    unfold nextA at h
    rw [if_neg (by omega)] at h
    exact h))
  have HPL := keepf (fun (p : Nat) (hp : p ≤ bs.length) => nextO_place bs p true hp)
  clear hS hb hc
  go_enter Try.func19, Try.ntmps19
  go_wp2
  refine wp_scope1 (AlJ w bs A c) rfl ?pass0 ?first
  case first =>
    intro hpass
    have HPass := keepf hpass
    clear hpass
    go_wp2
    go_step3
    rename_i hK
    refine hK _ _ (HPass.out _ _ _ ⟨rfl, rfl, rfl, 0, 0, 0, none, [], rfl, rfl, rfl, Nat.zero_le _, Nat.le_refl _, keepf ⟨⟨own_nil _ _ _ _, Chg.refl _ _⟩, rfl, fun ts q er h => h⟩⟩)
  case pass0 =>
    intro n x w1 hx
    obtain ⟨h1, h2, h3, p, m, c2, A2, ts0, h4, h5, rfl, hp, hm, HT⟩ := hx
    refine slots_32 h1 h2 h3 h4 h5 (C := fun y => Code.wp _ _ _ y w1) ?_
    intro f
    clear h1 h2 h3 h4 h5
    have HN1 := keepf (HNX.out p hp w1 HT.out.1.chg)
    have HP1 := keepf (HPL.out p hp)
    obtain ⟨r, hr⟩ : ∃ r, nextO bs p true = r := ⟨_, rfl⟩
    have HR := keepf hr
    rw [hr] at HN1 HP1
    clear hr
    obtain ⟨er, ⟨tk, tf, tt_, tvk, tvn, tvs, ts⟩⟩ := r
    obtain ⟨S6, hS6⟩ : ∃ S6, S6 = sb tvs := ⟨_, rfl⟩
    obtain ⟨S7, hS7⟩ : ∃ S7, S7 = sb ts := ⟨_, rfl⟩
    have HNX1 := keepf (show Calls Try.prog 9 #[.slice A bs.length c, .int .i64 (p : Nat), .bool true] w1 fun e w' => e = .returned (.tuple #[.agg #[.int .i64 (tk : Nat), .int .i64 (tf : Nat), .int .i64 (tt_ : Nat), .int .i64 (tvk : Nat), .int .i64 tvn, .string S6, .slice none 0 0, .string S7], .int .i64 er]) ∧ Chg NoS w1 w' from by
      have h := HN1.out
      unfold NxTo tknV at h
      rw [hS6, hS7]
      exact h)
    have HS6 := keepf hS6
    have HS7 := keepf hS7
    clear hS6 hS7 HN1
    by_cases he : er = 0
    · subst he
      by_cases hk : tk = 0
      · subst hk
        rcases HP1.out with ⟨q, _, _, h8, h9⟩ | ⟨_, h8, _⟩
        · have hq := (h9 rfl).2
          have HD := keepf (show AllIs bs p [] p 0 from .done (by rw [HR.out]; exact congrArg (Prod.mk (0 : Int)) (h8.trans (by rw [hq]))))
          clear h8 h9 hq
          go_wp2_with (go_at_call 9; refine HNX1.out.mono ?_; rintro e w3 ⟨rfl, hc3⟩; have HC3 := keepf hc3; clear hc3)
          all_goals (try simp only [hops])
          go_ret3
          have HG := HT.out.1.call (HC3.out.alloc (.cells #[.int .i64 ((0 : Nat) : Int), .int .i64 (tf : Nat), .int .i64 (tt_ : Nat), .int .i64 (tvk : Nat), .int .i64 tvn, .string S6, .slice none 0 0, .string S7] 28))
          exact ⟨A2, c2, m, p, 0, ts0, HT.out.2.1, rfl, src_own HG.own, by have := HT.out.2.2 [] p 0 HD.out; rwa [List.append_nil] at this, HG.chg⟩
        · exact absurd rfl h8
      · rcases HP1.out with ⟨q, _, _, h8, h9⟩ | ⟨_, _, h10, h11, h12, _⟩
        · exact absurd (congrArg Tkn.kind h8) hk
        · simp only at h10 h11 h12
          have HD := keepf (fun ts' q er (h : AllIs bs tt_ ts' q er) => (show AllIs bs p (⟨tk, tf, tt_, tvk, tvn, tvs, ts⟩ :: ts') q er from .tok HR.out hk h12 h))
          have e1 : ((tk : Int) == 0) = false := by simp; omega
          have e2 : (tk == 0) = false := by simp; omega
          go_upto_region 8 with (go_at_call 9; refine HNX1.out.mono ?_; rintro e w3 ⟨rfl, hc3⟩; have HC3 := keepf hc3; clear hc3)
          have HG3 := keepf (HT.out.1.call HC3.out)
          obtain ⟨g, hg⟩ : ∃ g, g = w3.heap.size := ⟨_, rfl⟩
          have HG4 := keepf (HG3.out.call ((Chg.refl NoS w3).alloc (.cells #[.int .i64 (tk : Nat), .int .i64 (tf : Nat), .int .i64 (tt_ : Nat), .int .i64 (tvk : Nat), .int .i64 tvn, .string S6, .slice none 0 0, .string S7] 28)))
          have HNE := keepf (HG3.out.ne (g := g) (by omega))
          have HBL := keepf (Blk.new w3 28 #[.int .i64 (tk : Nat), .int .i64 (tf : Nat), .int .i64 (tt_ : Nat), .int .i64 (tvk : Nat), .int .i64 tvn, .string S6, .slice none 0 0, .string S7])
          obtain ⟨W4, hW4⟩ : ∃ W4, W4 = w3.alloc (.cells #[.int .i64 (tk : Nat), .int .i64 (tf : Nat), .int .i64 (tt_ : Nat), .int .i64 (tvk : Nat), .int .i64 tvn, .string S6, .slice none 0 0, .string S7] 28) := ⟨_, rfl⟩
          have hg4 : g < W4.heap.size := by rw [hW4, hg]; simp
          rw [← hW4] at HG4 HBL ⊢
          rw [← hg] at HBL ⊢
          obtain ⟨q0, q1, q2, q3, q4, q5, q6, q7, _, _, _, _, _, _, _, _⟩ := HBL.out.cl8
          clear hW4 hg hk
          first
            | (go_loud (go_region_held3 (fun w' => w'.cell? ⟨g, 0, none⟩ = some (.int .i64 (tk : Nat)) ∧ w'.cell? ⟨g, 1, none⟩ = some (.int .i64 (tf : Nat)) ∧ w'.cell? ⟨g, 2, none⟩ = some (.int .i64 (tt_ : Nat)) ∧ w'.cell? ⟨g, 3, none⟩ = some (.int .i64 (tvk : Nat)) ∧ w'.cell? ⟨g, 4, none⟩ = some (.int .i64 tvn) ∧ w'.cell? ⟨g, 5, none⟩ = some (.string S6) ∧ w'.cell? ⟨g, 6, none⟩ = some (.slice none 0 0) ∧ w'.cell? ⟨g, 7, none⟩ = some (.string S7))
                (first
                  | (go_keep; done)
                  | (go_split_ands
                     refine ⟨?_, ?_, ?_, ?_, ?_, ?_, ?_, ?_⟩
                     all_goals (rw [hgrow.cell_far _ (by simp; omega) (Ne.symm HNE.out)]; assumption)))
                ((refine stepT (w := w) (wr := W4) (B := W4.heap.size) (news := [.int .i64 (tk : Nat), .int .i64 (tf : Nat), .int .i64 (tt_ : Nat), .int .i64 (tvk : Nat), .int .i64 tvn, .string S6, .slice none 0 0, .string S7]) (by rfl) (.tmp 26) (.tmp 28) (by rfl) (by rfl) (by rfl) HG4.out (by omega) ((Chg.refl _ _).alloc _).drew (by rfl) (World.news_of_block (cs := #[.int .i64 (tk : Nat), .int .i64 (tf : Nat), .int .i64 (tt_ : Nat), .int .i64 (tvk : Nat), .int .i64 tvn, .string S6, .slice none 0 0, .string S7]) (t := 28) (fr := (0, 0)) (heap_alloc_new W4 _)) (by intro u hu; simp only [List.mem_cons, List.not_mem_nil, or_false] at hu; rcases hu with rfl | rfl | rfl | rfl | rfl | rfl | rfl | rfl <;> rfl) ?_; intro gg cap w5 hg5 hgrow))))
            | fail "region"
          have HG5 := keepf hg5
          clear hg5 hgrow
          go_wp2_with fail
          go_step3
          exact ⟨bs.length - tt_ + 1, by omega, rfl, rfl, rfl, rfl, tt_, m + 1, cap, some ⟨gg, 0, none⟩, ts0 ++ [⟨tk, tf, tt_, tvk, tvn, tvs, ts⟩], rfl, rfl, rfl, h12, by omega, keepf ⟨by rw [tkcells_app]; have h := HG5.out; rw [HS6.out, HS7.out] at h; exact h, by rw [List.length_append, ← HT.out.2.1]; rfl, fun ts' q er h => by rw [List.append_assoc]; exact HT.out.2.2 _ _ _ (HD.out ts' q er h)⟩⟩
    · rcases HP1.out with ⟨q, _, _, h8, h9⟩ | ⟨h8, _⟩
      · have hq : tf = q := congrArg Tkn.from_ h8
        have HD := keepf (show AllIs bs p [] tf er from .err (by rw [HR.out]; exact congrArg (Prod.mk er) (h8.trans (by rw [hq]))) he)
        have e1 : (er != 0) = true := by simpa using he
        have e2 : (er == 0) = false := by simpa using he
        clear h8 h9 hq he
        go_upto_region 5 with (go_at_call 9; refine HNX1.out.mono ?_; rintro e w3 ⟨rfl, hc3⟩; have HC3 := keepf hc3; clear hc3)
        go_quiet (fail)
        go_wp2_with fail
        all_goals (try simp only [hops])
        go_ret3
        have HG := (HT.out.1.call (HC3.out.alloc (.cells #[.int .i64 (tk : Nat), .int .i64 (tf : Nat), .int .i64 (tt_ : Nat), .int .i64 (tvk : Nat), .int .i64 tvn, .string S6, .slice none 0 0, .string S7] 28))).call ((Chg.refl NoS _).drewN nq)
        exact ⟨A2, c2, m, tf, er, ts0, HT.out.2.1, rfl, src_own HG.own, by have := HT.out.2.2 [] tf er HD.out; rwa [List.append_nil] at this, HG.chg⟩
      · exact absurd h8 he
/-- THE PROGRAM'S lex IS WHAT THE LAWS ASK. -/
theorem lex_ok : LexOk where
  space := fun c w _ => (pspace_any c w).mono fun _ _ ⟨he, hm⟩ => ⟨he, by rw [← hm]; exact Chg.refl _ _⟩
  delim := fun c w _ => (pdelim_any c w).mono fun _ _ ⟨he, hm⟩ => ⟨he, by rw [← hm]; exact Chg.refl _ _⟩
  skip := fun bs A c p w hS hl hc _ => (pskip_any bs A c p w hS (by omega) hc).mono fun _ _ ⟨he, hm⟩ => ⟨he, by rw [← hm]; exact Chg.refl _ _⟩
  next := fun bs A c p last w hS hl hc hb => pnext_any bs A c p last w hS hl hc hb
  all := fun bs A c w hS hl hc hb => pall_any bs A c w hS hl hc hb
end Go.Proofs.Ytmmehaghcfdjdaa
