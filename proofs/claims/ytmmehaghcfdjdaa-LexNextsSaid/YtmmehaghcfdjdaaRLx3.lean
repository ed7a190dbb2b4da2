/- The document's own reading of a text in brackets. -/
import Derived.Test.YtmmehaghcfdjdaaRLx2
import Derived.OwnWalk
namespace Go.Proofs.Ytmmehaghcfdjdaa
open Go.RowKit
set_option linter.unusedVariables false
set_option linter.unusedSimpArgs false

/-- Behind the reading of a text, of either kind: an error, its bytes, and where it ends. -/
def TxTo (w : World) (R : Int × List Nat × Nat) (e : Ending) (w' : World) : Prop :=
  ∃ (A : Option Addr) (c m : Nat), m = R.2.1.length ∧ e = .returned (.tuple #[.slice A m c, .int .i64 (R.2.2 : Nat), .int .i64 R.1]) ∧ GR 5 w w' (lcells R.2.1) m A c
theorem TxTo.err {w w' : World} {R : Int × List Nat × Nat} {er : Int} (h : R = (er, [], 0)) (hc : Chg NoS w w') : TxTo w R (.returned (.tuple #[.slice none 0 0, .int .i64 0, .int .i64 er])) w' := by
  subst h
  exact ⟨none, 0, 0, rfl, rfl, GR.none hc⟩
section
variable {last : Bool} {deep k : Nat} {out l : List Nat}
theorem txt_92e (h : (escO last l).1 ≠ 0) : txtO last deep out k (92 :: l) = ((escO last l).1, [], 0) := by rw [txtO_cons, if_pos rfl, if_pos h]
theorem txt_92 (h : (escO last l).1 = 0) : txtO last deep out k (92 :: l) = txtO last deep (out ++ (escO last l).2.1.toList) (k + 1 + (escO last l).2.2) (l.drop (escO last l).2.2) := by
  rw [txtO_cons, if_pos rfl, if_neg (fun e => e h)]
theorem txt_13m (h : l = []) (h2 : last = false) : txtO last deep out k (13 :: l) = (6, [], 0) := by
  rw [txtO_cons, if_neg (show ¬ 13 = 92 by decide), if_pos rfl, if_pos ⟨h, h2⟩]
theorem txt_13b (h : l ≠ []) (h2 : l.head? = some 10) : txtO last deep out k (13 :: l) = txtO last deep (out ++ [10]) (k + 2) (l.drop 1) := by
  rw [txtO_cons, if_neg (show ¬ 13 = 92 by decide), if_pos rfl, if_neg (fun e => h e.1), if_pos h2]
theorem txt_13n (h : ¬ (l = [] ∧ last = false)) (h2 : ¬ l.head? = some 10) : txtO last deep out k (13 :: l) = txtO last deep (out ++ [10]) (k + 1) l := by
  rw [txtO_cons, if_neg (show ¬ 13 = 92 by decide), if_pos rfl, if_neg h, if_neg h2]
theorem txt_40 : txtO last deep out k (40 :: l) = txtO last (deep + 1) (out ++ [40]) (k + 1) l := by
  rw [txtO_cons, if_neg (show ¬ 40 = 92 by decide), if_neg (show ¬ 40 = 13 by decide), if_pos rfl]
theorem txt_41e (h : deep = 1) : txtO last deep out k (41 :: l) = (0, out, k + 1) := by
  rw [txtO_cons, if_neg (show ¬ 41 = 92 by decide), if_neg (show ¬ 41 = 13 by decide), if_neg (show ¬ 41 = 40 by decide), if_pos rfl, if_pos h]
theorem txt_41 (h : deep ≠ 1) : txtO last deep out k (41 :: l) = txtO last (deep - 1) (out ++ [41]) (k + 1) l := by
  rw [txtO_cons, if_neg (show ¬ 41 = 92 by decide), if_neg (show ¬ 41 = 13 by decide), if_neg (show ¬ 41 = 40 by decide), if_pos rfl, if_neg h]
theorem txt_x {x : Nat} (h1 : x ≠ 92) (h2 : x ≠ 13) (h3 : x ≠ 40) (h4 : x ≠ 41) : txtO last deep out k (x :: l) = txtO last deep (out ++ [x]) (k + 1) l := by
  rw [txtO_cons, if_neg h1, if_neg h2, if_neg h3, if_neg h4]
end
theorem escV_err {p : Nat} {r : Int × Option Nat × Nat} {er : Int} (h : r = (er, none, 0)) (he : er ≠ 0) : escV p r = .tuple #[.int .u8 0, .int .i64 0, .bool false, .int .i64 er] := by
  subst h
  unfold escV
  simp only []
  rw [if_neg he]
  rfl
theorem escO_two (last : Bool) (l : List Nat) : (escO last l).1 = 0 ∨ escO last l = ((escO last l).1, none, 0) := by
  cases l with
  | nil => exact .inr rfl
  | cons c l =>
    rw [escO_cons]
    repeat' split
    all_goals first
      | exact .inl rfl
      | exact .inr rfl
theorem escO_errs {last : Bool} {l : List Nat} (h : (escO last l).1 ≠ 0) : escO last l = ((escO last l).1, none, 0) := (escO_two last l).resolve_left h
def TxIn (last : Bool) (p : Nat) (bs : List Nat) (w wr : World) (k deep m c2 : Nat) (out : List Nat) (A2 : Option Addr) : Prop :=
  m = out.length ∧ GR 5 w wr (lcells out) m A2 c2 ∧ txtO last 1 [] p (bs.drop p) = txtO last deep out k (bs.drop k)
set_option maxHeartbeats 4000000 in
set_option maxRecDepth 100000 in
theorem rtext_in (bs : List Nat) (A : Option Addr) (c p : Nat) (last : Bool) (w : World) (hS : Src w 1 A bs.length c (lcells bs)) (hl : bs.length ≤ 1000000) (hc : bs.length ≤ c) (hp : p ≤ bs.length) (hb : ∀ x ∈ bs, x < 256) :
    Calls Try.prog 23 #[.slice A bs.length c, .int .i64 (p : Nat), .bool last] w (TxTo w (txtO last 1 [] p (bs.drop p))) := by
  have HS := keepf hS
  have HB := keepf hb
  have HESC := keepf (fun (W : World) (h : Chg NoS w W) (q : Nat) (hq : q ≤ bs.length) => resc_any bs A c q last W (Src.below (w0 := w) hS h) hl hc hq hb)
  obtain ⟨n, hn⟩ : ∃ n, n = bs.length := ⟨_, rfl⟩
  have HN := keepf hn
  rw [← hn] at hl hp hc HESC ⊢
  clear hS hn hb
  go_enter Try.func23, Try.ntmps23
  go_upto_region 3 with fail
  go_loopw [1, 9, 10] (fun vp vo vd wr => ∃ (k deep m c2 : Nat) (out : List Nat) (A2 : Option Addr), k ≤ n ∧ 1 ≤ deep ∧ deep ≤ k + 1 ∧ m ≤ k ∧ vp = .int .i64 (k : Nat) ∧ vo = .slice A2 m c2 ∧ vd = .int .i64 (deep : Nat) ∧ Hid (TxIn last p bs w wr k deep m c2 out A2)) (fun vp _ _ _ => n - (intOf vp).toNat)
  case atStart => exact ⟨p, 1, 0, 0, [], none, hp, by omega, by omega, by omega, rfl, rfl, rfl, keepf ⟨rfl, GR.start w, rfl⟩⟩
  case round =>
    obtain ⟨k, deep, m, c2, out, A2, hk, hd1, hd2, hm, rfl, rfl, rfl, HI⟩ := hrel
    by_cases h1 : k < n
    · obtain ⟨x, hx, hd⟩ := drop_at (bs := bs) (k := k) (by rw [← HN.out]; exact h1)
      obtain ⟨b, off, rfl, hcell⟩ := lcell HS.out HI.out.2.1.chg (by rw [← HN.out]; omega)
      have c0 := hcell k x hx
      have HCELL := keepf hcell
      have HR := keepf (show txtO last 1 [] p (bs.drop p) = txtO last deep out k (x :: bs.drop (k + 1)) from by rw [← hd]; exact HI.out.2.2)
      have i1 : (k : Int) < n := by omega
      clear hcell hx hd
      by_cases h92 : x = 92
      · subst h92
        have hE := HESC.out wr HI.out.2.1.chg (k + 1) (by omega)
        rw [show ((k + 1 : Nat) : Int) = (k : Int) + 1 from by omega] at hE
        have HE := keepf hE
        clear hE
        have hle := escO_le last (bs.drop (k + 1))
        rw [List.length_drop, ← HN.out] at hle
        by_cases he : (escO last (bs.drop (k + 1))).1 = 0
        · have HT := keepf (txt_92 (deep := deep) (k := k) (out := out) he)
          obtain ⟨q, hq⟩ : ∃ q, q = (escO last (bs.drop (k + 1))).2.2 := ⟨_, rfl⟩
          have HQ := keepf hq
          rw [← hq] at hle
          cases ho : (escO last (bs.drop (k + 1))).2.1 with
          | none =>
            have HV := keepf (show escV (k + 1) (escO last (bs.drop (k + 1))) = .tuple #[.int .u8 0, .int .i64 ((k + 1 + q : Nat) : Int), .bool false, .int .i64 0] from by unfold escV; rw [ho, he, hq]; rfl)
            have HO := keepf ho
            rw [HV.out] at HE
            clear he ho hq
            go_wp2_with (go_at_call 37; refine HE.out.mono ?_; rintro e w3 ⟨rfl, rfl⟩)
            go_roundw
            case rel => exact ⟨k + 1 + q, deep, m, c2, out, A2, by omega, hd1, by omega, by omega, congrArg (Value.int .i64) (by omega), rfl, rfl, keepf ⟨HI.out.1, HI.out.2.1, by rw [HR.out, HT.out, HO.out, ← HQ.out, List.drop_drop]; simp⟩⟩
            case measure => simp [intOf]; omega
          | some y =>
            have HV := keepf (show escV (k + 1) (escO last (bs.drop (k + 1))) = .tuple #[.int .u8 (y : Nat), .int .i64 ((k + 1 + q : Nat) : Int), .bool true, .int .i64 0] from by unfold escV; rw [ho, he, hq]; rfl)
            have HO := keepf ho
            rw [HV.out] at HE
            clear he ho hq
            go_wp2_with (first
              | (go_at_call 37; refine HE.out.mono ?_; rintro e w3 ⟨rfl, rfl⟩)
              | (at_builtin; refine app8 (w := w) (wr := wr) (out := out) (y := y) rfl (.tmp 41) (.tmp 43) rfl rfl rfl HI.out.2.1 (by omega) ((Chg.refl _ _).alloc _) (by simp) ?_; intro A3 c3 w3 hg3; have HG3 := keepf hg3; clear hg3))
            go_roundw
            case rel => exact ⟨k + 1 + q, deep, m + 1, c3, out ++ [y], A3, by omega, hd1, by omega, by omega, congrArg (Value.int .i64) (by omega), rfl, rfl, keepf ⟨by rw [List.length_append, ← HI.out.1]; rfl, HG3.out, by rw [HR.out, HT.out, HO.out, ← HQ.out, List.drop_drop]; rfl⟩⟩
            case measure => simp [intOf]; omega
        · have HT := keepf (txt_92e (deep := deep) (k := k) (out := out) he)
          have hV := escV_err (p := k + 1) (escO_errs he) he
          obtain ⟨er, her⟩ : ∃ er, er = (escO last (bs.drop (k + 1))).1 := ⟨_, rfl⟩
          rw [hV, ← her] at HE
          rw [← her] at HT he
          have v2 : (er != 0) = true := by simpa using he
          have v3 : (er == 0) = false := by simpa using he
          clear he hV her hle
          go_wp2_with (go_at_call 37; refine HE.out.mono ?_; rintro e w3 ⟨rfl, rfl⟩)
          go_ret3
          exact TxTo.err (by rw [HR.out, HT.out]) HI.out.2.1.chg
      by_cases h13 : x = 13
      · subst h13
        have d0 : ((deep : Int) == 0) = false := by simp; omega
        clear h92
        by_cases h1n : k + 1 = n
        · have HE := keepf (show bs.drop (k + 1) = [] from List.drop_of_length_le (by rw [← HN.out]; omega))
          have j1 : (n : Int) ≤ (k : Int) + 1 := by omega
          cases last
          · have HT := keepf (txt_13m (last := false) (deep := deep) (k := k) (out := out) HE.out rfl)
            go_wp2_with fail
            go_ret3
            exact TxTo.err (by rw [HR.out, HT.out]) HI.out.2.1.chg
          · have HT := keepf (txt_13n (last := true) (deep := deep) (k := k) (out := out) (l := bs.drop (k + 1)) (fun e => by cases e.2) (by rw [HE.out]; simp))
            go_wp2_with (at_builtin; refine app8 (w := w) (wr := wr) (out := out) (y := 10) rfl (.tmp 89) (.tmp 91) rfl rfl rfl HI.out.2.1 (by omega) ((Chg.refl _ _).alloc _) (by simp) ?_; intro A3 c3 w3 hg3; have HG3 := keepf hg3; clear hg3)
            go_roundw
            case rel => exact ⟨k + 1, deep, m + 1, c3, out ++ [10], A3, by omega, hd1, by omega, by omega, by go_num, rfl, rfl, keepf ⟨by rw [List.length_append, ← HI.out.1]; rfl, HG3.out, by rw [HR.out, HT.out]⟩⟩
            case measure => simp [intOf]; omega
        · obtain ⟨y, hy, hd5⟩ := drop_at (bs := bs) (k := k + 1) (by rw [← HN.out]; omega)
          have c5 := HCELL.out (k + 1) y hy
          have HD5 := keepf hd5
          have i2 : (k : Int) + 1 < n := by omega
          have i3 : k + 1 < n := by omega
          have i4 : ¬ ((n : Int) ≤ (k : Int) + 1) := by omega
          have hne : bs.drop (k + 1) ≠ [] := by rw [hd5]; simp
          clear hy
          by_cases h10 : y = 10
          · subst h10
            have HT := keepf (txt_13b (last := last) (deep := deep) (k := k) (out := out) hne (by rw [hd5]; rfl))
            clear hne hd5 h1n
            go_wp2_with (at_builtin; refine app8 (w := w) (wr := wr) (out := out) (y := 10) rfl (.tmp 89) (.tmp 91) rfl rfl rfl HI.out.2.1 (by omega) ((Chg.refl _ _).alloc _) (by simp) ?_; intro A3 c3 w3 hg3; have HG3 := keepf hg3; clear hg3)
            go_roundw
            case rel => exact ⟨k + 2, deep, m + 1, c3, out ++ [10], A3, by omega, hd1, by omega, by omega, congrArg (Value.int .i64) (by omega), rfl, rfl, keepf ⟨by rw [List.length_append, ← HI.out.1]; rfl, HG3.out, by rw [HR.out, HT.out, List.drop_drop]⟩⟩
            case measure => simp [intOf]; omega
          · have e0 : ((y : Int) == 10) = false := by simp; omega
            have e1 : ((y : Int) != 10) = true := by simp; omega
            have HT := keepf (txt_13n (last := last) (deep := deep) (k := k) (out := out) (fun e => hne e.1) (by rw [hd5]; simpa using h10))
            clear hne hd5 h1n h10
            go_wp2_with (at_builtin; refine app8 (w := w) (wr := wr) (out := out) (y := 10) rfl (.tmp 89) (.tmp 91) rfl rfl rfl HI.out.2.1 (by omega) ((Chg.refl _ _).alloc _) (by simp) ?_; intro A3 c3 w3 hg3; have HG3 := keepf hg3; clear hg3)
            go_roundw
            case rel => exact ⟨k + 1, deep, m + 1, c3, out ++ [10], A3, by omega, hd1, by omega, by omega, by go_num, rfl, rfl, keepf ⟨by rw [List.length_append, ← HI.out.1]; rfl, HG3.out, by rw [HR.out, HT.out]⟩⟩
            case measure => simp [intOf]; omega
      by_cases h40 : x = 40
      · subst h40
        have HT := keepf (txt_40 (last := last) (deep := deep) (k := k) (out := out) (l := bs.drop (k + 1)))
        have d0 : ((deep : Int) + 1 == 0) = false := by simp; omega
        clear h92 h13
        go_wp2_with (at_builtin; refine app8 (w := w) (wr := wr) (out := out) (y := 40) rfl (.tmp 89) (.tmp 91) rfl rfl rfl HI.out.2.1 (by omega) ((Chg.refl _ _).alloc _) (by simp) ?_; intro A3 c3 w3 hg3; have HG3 := keepf hg3; clear hg3)
        go_roundw
        case rel => exact ⟨k + 1, deep + 1, m + 1, c3, out ++ [40], A3, by omega, by omega, by omega, by omega, by go_num, rfl, by go_num, keepf ⟨by rw [List.length_append, ← HI.out.1]; rfl, HG3.out, by rw [HR.out, HT.out]⟩⟩
        case measure => simp [intOf]; omega
      by_cases h41 : x = 41
      · subst h41
        clear h92 h13 h40
        by_cases hd : deep = 1
        · subst hd
          have HT := keepf (txt_41e (last := last) (deep := 1) (k := k) (out := out) (l := bs.drop (k + 1)) rfl)
          go_wp2_with fail
          go_ret3
          refine ⟨A2, c2, m, by rw [HR.out, HT.out]; exact HI.out.1, by rw [HR.out, HT.out]; rfl, by rw [HR.out, HT.out]; exact HI.out.2.1⟩
        · have HT := keepf (txt_41 (last := last) (k := k) (out := out) (l := bs.drop (k + 1)) hd)
          have d0 : ((deep : Int) - 1 == 0) = false := by simp; omega
          have HDD := keepf hd
          clear hd
          go_wp2_with (at_builtin; refine app8 (w := w) (wr := wr) (out := out) (y := 41) rfl (.tmp 89) (.tmp 91) rfl rfl rfl HI.out.2.1 (by omega) ((Chg.refl _ _).alloc _) (by simp) ?_; intro A3 c3 w3 hg3; have HG3 := keepf hg3; clear hg3)
          go_roundw
          case rel => exact ⟨k + 1, deep - 1, m + 1, c3, out ++ [41], A3, by omega, by have := HDD.out; omega, by omega, by omega, by go_num, rfl, congrArg (Value.int .i64) (by have := HDD.out; omega), keepf ⟨by rw [List.length_append, ← HI.out.1]; rfl, HG3.out, by rw [HR.out, HT.out]⟩⟩
          case measure => simp [intOf]; omega
      have e1 : ((x : Int) == 92) = false := by simp; omega
      have e2 : ((x : Int) == 13) = false := by simp; omega
      have e3 : ((x : Int) == 40) = false := by simp; omega
      have e4 : ((x : Int) == 41) = false := by simp; omega
      have HT := keepf (txt_x (last := last) (deep := deep) (k := k) (out := out) (l := bs.drop (k + 1)) h92 h13 h40 h41)
      have d0 : ((deep : Int) == 0) = false := by simp; omega
      clear h92 h13 h40 h41
      go_wp2_with (at_builtin; refine app8 (w := w) (wr := wr) (out := out) (y := x) rfl (.tmp 89) (.tmp 91) rfl rfl rfl HI.out.2.1 (by omega) ((Chg.refl _ _).alloc _) (by simp) ?_; intro A3 c3 w3 hg3; have HG3 := keepf hg3; clear hg3)
      go_roundw
      case rel => exact ⟨k + 1, deep, m + 1, c3, out ++ [x], A3, by omega, hd1, by omega, by omega, by go_num, rfl, rfl, keepf ⟨by rw [List.length_append, ← HI.out.1]; rfl, HG3.out, by rw [HR.out, HT.out]⟩⟩
      case measure => simp [intOf]; omega
    · obtain rfl : k = n := by omega
      have HC := keepf (fun W => rcut_any last W)
      have HT := keepf (show txtO last 1 [] p (bs.drop p) = (cutE last, [], 0) from by rw [HI.out.2.2, List.drop_of_length_le (by rw [← HN.out]; exact Nat.le_refl _), txtO_nil])
      go_wp2_with (go_at_call 36; refine (HC.out _).mono ?_; rintro e w' ⟨rfl, rfl⟩)
      go_ret3
      exact TxTo.err HT.out HI.out.2.1.chg
end Go.Proofs.Ytmmehaghcfdjdaa
