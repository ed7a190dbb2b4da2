/- What Inflate tells, of any bytes. -/
import Derived.Test.YtbdnhhhagpgibaaBlockP
namespace Go.Proofs.Ytbdnhhhagpgibaa
open Go.RowKit
set_option linter.unusedVariables false
set_option linter.unusedSimpArgs false

theorem rep_byte (far : Nat) : ∀ (n : Nat) (out : List Nat), (∀ x ∈ out, x < 256) → ∀ x ∈ rep far n out, x < 256
  | 0, out, h => h
  | n + 1, out, h => by
    rw [rep]
    refine rep_byte far n _ (fun x hx => ?_)
    rcases List.mem_append.1 hx with h1 | h1
    · exact h x h1
    · rw [List.mem_singleton.1 h1, List.getD_eq_getElem?_getD]
      rcases Nat.lt_or_ge (out.length - far) out.length with h2 | h2
      · rw [List.getElem?_eq_getElem h2]
        exact h _ (List.getElem_mem h2)
      · rw [List.getElem?_eq_none h2]
        decide

theorem Step.bytes {bs : List Nat} {most : Nat} {s t : St} (h : Step bs most s (.inl t)) (hs : ∀ x ∈ s.out, x < 256) : ∀ x ∈ t.out, x < 256 := by
  cases h with
  | head e =>
    unfold stHead at e
    repeat' split at e
    all_goals first
      | cases e; done
      | (injection e with e; subst e; exact hs)
  | stored e =>
    unfold stStored at e
    repeat' split at e
    all_goals first
      | cases e; done
      | (injection e with e; subst e; exact hs)
  | plain e =>
    unfold stPlain at e
    repeat' split at e
    all_goals first
      | cases e; done
      | (injection e with e; subst e; exact hs)
      | (injection e with e
         subst e
         intro x hx
         rcases List.mem_append.1 hx with h1 | h1
         · exact hs x h1
         · rw [List.mem_singleton.1 h1]; exact obf_lt _ 8)
  | own e =>
    unfold stOwn at e
    repeat' split at e
    all_goals first
      | cases e; done
      | (injection e with e; subst e; exact hs)
  | kinds e =>
    unfold stKinds at e
    repeat' split at e
    all_goals first
      | cases e; done
      | (injection e with e; subst e; exact hs)
  | lensEnd h e =>
    unfold stEnd at e
    repeat' split at e
    all_goals first
      | cases e; done
      | (injection e with e; subst e; exact hs)
  | lens h o e =>
    unfold stLens stRun at e
    repeat' split at e
    all_goals first
      | cases e; done
      | (injection e with e; subst e; exact hs)
  | coded o e =>
    unfold stCoded at e
    repeat' split at e
    all_goals first
      | cases e; done
      | (injection e with e; subst e; exact hs)
      | (injection e with e
         subst e
         intro x hx
         rcases List.mem_append.1 hx with h1 | h1
         · exact hs x h1
         · rw [List.mem_singleton.1 h1]; assumption)
  | dist o e =>
    unfold stDist at e
    repeat' split at e
    all_goals first
      | cases e; done
      | (injection e with e; subst e; exact rep_byte _ _ _ hs)

theorem Runs.bytes {bs : List Nat} {most : Nat} {s : St} {out : List Nat} {a : Nat} (h : Runs bs most s (.ok out a)) (hs : ∀ x ∈ s.out, x < 256) : ∀ x ∈ out, x < 256 := by
  generalize hr : Res.ok out a = r at h
  induction h with
  | stop h =>
    subst hr
    obtain ⟨_, h2, _⟩ := h.last
    subst h2
    exact hs
  | go h k ih => exact ih (h.bytes hs) hr

/-- Where the machine starts. -/
def st0 : St := ⟨0, [], .head⟩

/-- Behind Inflate. -/
def InfTo (w : World) (bs : List Nat) (most : Nat) (e : Ending) (w' : World) : Prop :=
  ∃ (A : Option Addr) (c n : Nat) (k : Int) (out : List Nat), e = .returned (.tuple #[.slice A out.length c, .int .i64 n, .int .i64 k]) ∧ Chg NoS w w' ∧ w'.ownsRow 0 5 1 (.slice A out.length c) out.length (ucells out) ∧ (∀ x ∈ out, x < 256) ∧ out.length ≤ most ∧
    ((k = 0 ∧ ∃ b, b ≤ 8 * bs.length ∧ n = (b + 7) / 8 ∧ Runs bs most st0 (.ok out b)) ∨ (k ≠ 0 ∧ out = [] ∧ n = 0 ∧ Runs bs most st0 (.err k)))

set_option maxRecDepth 100000 in
theorem inflate_arg (A : Option Addr) (n c : Nat) (most : Int) (w : World) (h : most < 0 ∨ 16777216 < most) (h1 : -9223372036854775808 ≤ most) (h2 : most ≤ 9223372036854775807) :
    Calls Try.prog 8 #[.slice A n c, .int .i64 most] w fun e w' => e = .returned (.tuple #[.slice none 0 0, .int .i64 0, .int .i64 2]) ∧ w = w' := by
  rcases h with h | h
  · have d1 : decide (most < 0) = true := by simpa using h
    go_enter Try.func8, Try.ntmps8
    go_wp2_with fail
    go_ret3
    exact ⟨rfl, rfl⟩
  · have d1 : decide (most < 0) = false := by simp; omega
    have d2 : decide (16777216 < most) = true := by simpa using h
    go_enter Try.func8, Try.ntmps8
    go_wp2_with fail
    go_ret3
    exact ⟨rfl, rfl⟩

set_option maxHeartbeats 1000000 in
set_option maxRecDepth 100000 in
theorem inflate_any (bs : List Nat) (A : Option Addr) (c most : Nat) (w : World) (hS : Src w 1 A bs.length c (ucells bs)) (hL : bs.length ≤ 100000) (hb : ∀ b ∈ bs, b < 256) (hm : most ≤ 16777216) :
    Calls Try.prog 8 #[.slice A bs.length c, .int .i64 most] w (InfTo w bs most) := by
  have HRd := keepf (read_any false bs A c w hS (by omega))
  have HB := keepf hb
  have d1 : decide ((most : Int) < 0) = false := by simp
  have d2 : decide ((16777216 : Int) < most) = false := by simp; omega
  have d2' : decide (16777216 < most) = false := by simp; omega
  clear hS hb
  go_enter Try.func8, Try.ntmps8
  go_upto_region 4 with (go_at_call 19; refine HRd.out.mono ?_; rintro e w2 ⟨gr, S, rfl, hr, hc2, hgr, hS2⟩; have HR := keepf hr; have HC2 := keepf hc2; have HGR := keepf hgr; have HS2 := keepf hS2; clear hr hc2 hgr hS2)
  have hblk := Blk.new w2 46 #[.pointer (some ⟨gr, 0, none⟩), .int .i64 most, .slice none 0 0, .pointer none]
  have hc3 : Chg NoS w2 (w2.alloc (.cells #[.pointer (some ⟨gr, 0, none⟩), .int .i64 most, .slice none 0 0, .pointer none] 46)) := (Chg.refl NoS w2).alloc _
  obtain ⟨g, hg⟩ : ∃ g, g = w2.heap.size := ⟨_, rfl⟩
  rw [← hg] at hblk ⊢
  generalize w2.alloc (.cells #[.pointer (some ⟨gr, 0, none⟩), .int .i64 most, .slice none 0 0, .pointer none] 46) = w3 at *
  have hP : Pk w3 g gr bs 0 S most [] (.slice none 0 0) (.pointer none) := ⟨hblk, ⟨HR.out.1.chg hc3 (fun h => h), own_chg HR.out.2 hc3 (fun _ _ h => h)⟩, own_nil _ _ _ _, fun _ _ e => (by simp [Value.ownBlock] at e), .inl rfl, Nat.zero_le _, hL, HB.out, hm, Nat.zero_le _⟩
  have HBl := keepf (pblocks w3 g gr 0 most bs [] S _ _ hP)
  have HC3 := keepf (HC2.out.trans hc3 (fun _ _ h => h))
  have hgw : w.heap.size ≤ g := by have := HC2.out.size; omega
  have HGW := keepf hgw
  clear hblk hc3 hg hP hgw d1 d2 d2'
  go_upto_region 5 with (go_at_call 20; refine HBl.out.mono ?_; rintro e w4 ⟨k, b, out, So, fx, rfl, hP4, hm4, hk4⟩; have HP4 := keepf hP4; have HM4 := keepf hm4; have HK4 := keepf hk4; clear hP4 hm4 hk4)
  have hall : Chg NoS w w4 := HC3.out.trans HM4.out.1 (by
    rintro i hi (rfl | rfl | e)
    · have := HGW.out; omega
    · have := HGR.out; omega
    · simp [Value.ownBlock] at e)
  have HALL := keepf hall
  clear hall
  rcases HK4.out with ⟨rfl, hr⟩ | ⟨hk, hr⟩
  · have HRu := keepf hr
    have c0 := HP4.out.c0
    have c2 := HP4.out.c2
    obtain ⟨A4, c4, rfl, hA4⟩ := own_slice HP4.out.own
    have r0 := HP4.out.rd.1.cell 0
    have r2 := HP4.out.rd.1.cell 2
    simp at r0 r2
    have hb100 : b ≤ 800000 := by have := HP4.out.le; omega
    have HAt := keepf (fun W h0 h2 => at_any gr b W h0 h2)
    clear hr hA4 HK4 HBl
    go_upto_region 7 with fail
    go_quiet ((go_at_call 21; exact quiet_left (HAt.out _ r0 r2)))
    go_wp2_with fail
    go_ret3
    refine ⟨A4, c4, (b + 7) / 8, 0, out, by congr 1, HALL.out.drewN nq, own_drewN HP4.out.own nq, HRu.out.bytes (fun x hx => by cases hx), HP4.out.ole, .inl ⟨rfl, b, HP4.out.le, rfl, HRu.out⟩⟩
  · have HRu := keepf hr
    have HK := keepf hk
    have dk : (k == 0) = false := by simpa using hk
    clear hr hk HK4 HBl
    go_wp2_with fail
    go_ret3
    exact ⟨none, 0, 0, k, [], rfl, HALL.out, own_nil _ _ _ _, fun x hx => (by cases hx), Nat.zero_le _, .inr ⟨HK.out, rfl, rfl, HRu.out⟩⟩
end Go.Proofs.Ytbdnhhhagpgibaa
