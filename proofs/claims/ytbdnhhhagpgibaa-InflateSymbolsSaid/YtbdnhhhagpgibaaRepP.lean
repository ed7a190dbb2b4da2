/- Bytes again. -/
import Derived.Test.YtbdnhhhagpgibaaPutP
import Derived.Deep.AppendLies
namespace Go.Proofs.Ytbdnhhhagpgibaa
open Go.RowKit
set_option linter.unusedVariables false
set_option linter.unusedSimpArgs false

section
variable {P : Program} (w : World)

/-- append onto a row of the call's own: what the row held stays, where it lay, even if the new slice lies elsewhere. -/
theorem step_append_keep {ops : Array Oper} {o : Oper} {a : Act} {K : Act → World → Prop} {Q : Exit → Act → World → Prop} {E : Prop} (hgd : o.guard = none) (s x : Operand) (t : TypeId)
    (ho : o.op = .call { callee := .builtin .append, args := #[s, x], argTypes := #[t, t] })
    (base : Nat) (e : TypeId) (i : TypeInfo) (z : Value) (size bytes : Nat) (ht : P.underlying t = some (.slice e)) (hi : P.info? e = some i) (hz : i.zero = some z)
    (hsize : i.size = size) (hby : i.bytes = bytes) (hzs : z.cells.size = size) (hsz : 0 < size)
    (g0 cap0 n : Nat) (xs : List Value) (hs : a.eval s = .slice (some ⟨g0, 0, none⟩) n cap0) (hown : w.ownsRow base e size (.slice (some ⟨g0, 0, none⟩) n cap0) n xs)
    (ad : Addr) (m c : Nat) (news : List Value) (hx : a.eval x = .slice (some ad) m c) (hl : news.length = m * size) (hnews : ∀ j u, news[j]? = some u → w.cell? (ad.add j) = some u) (h1 : ∀ u ∈ news, u.oneCell' = true)
    (hm : 0 < m) (h63 : n + m ≤ maxLen) (hbytes : (n + m) * bytes ≤ 140737488355328) (hbase : base ≤ w.heap.size) (H : Nat) (hH : w.heap.size = H)
    (h : ∀ g cap w', w'.ownsRow base e size (.slice (some ⟨g, 0, none⟩) (n + m) cap) (n + m) (xs ++ news) → w.grownBy w' (some g0) → (g0 = g ∨ g = H) → g < w'.heap.size → (∀ j u, xs[j]? = some u → w'.cell? ⟨g0, j, none⟩ = some u) → K (a.put o.dst (.slice (some ⟨g, 0, none⟩) (n + m) cap)) w') :
    if Region.wanted o (yielded ops a.tmps) = true then Oper.wp P o a w K Q else E := by
  have hw : Region.wanted o (yielded ops a.tmps) = true := by simp [Region.wanted, hgd]
  rw [if_pos hw]
  subst hsize hby
  obtain ⟨g, cap, w', hr, h2, h3, h4, h5⟩ := run_append_lies (P := P) w t o.type base e i z i.size i.bytes ht hi hz rfl rfl hzs hsz _ n xs hown ad m c news hl hnews h1 hm h63 hbytes hbase H hH
  have hkeep : ∀ j u, xs[j]? = some u → w'.cell? ⟨g0, j, none⟩ = some u := by
    intro j u hu
    have hj : j < n * i.size := by rw [← hown.1]; exact (List.getElem?_eq_some_iff.1 hu).1
    have hc0 := hown.cellAt j hj
    rw [hu] at hc0
    rcases hown.2 with ⟨h', _⟩ | ⟨g', cap', cur, h', hbg, hg, hnc, hcm, hcs, htake⟩
    · cases h'
    · simp only [Value.slice.injEq, Option.some.injEq, Addr.mk.injEq, and_true, true_and] at h'
      obtain ⟨rfl, rfl⟩ := h'
      by_cases hroom : n + m ≤ cap0
      · have hfit : n * i.size + news.length ≤ cur.size := by rw [hl, hcs, ← Nat.add_mul]; exact Nat.mul_le_mul_right _ hroom
        have hr2 := run_append_room (P := P) w t o.type e i ht hi g0 n cap0 cur hg ad m c news hl hnews h1 hroom hfit
        rw [hr] at hr2
        injection hr2 with e1 e2
        simp only [Value.slice.injEq, Option.some.injEq, Addr.mk.injEq, and_true, true_and] at e1
        obtain ⟨rfl, _⟩ := e1
        have hc := h2.cellAt j (by rw [Nat.add_mul]; omega)
        rw [List.getElem?_append_left (by rw [hown.1]; exact hj), hu] at hc
        exact hc
      · have holds : ∀ j u, xs[j]? = some u → w.cell? ((⟨g0, 0, none⟩ : Addr).add j) = some u := hown.cells (g := g0) rfl
        have hr2 := run_append_grow (P := P) w t o.type e i z ht hi hz ⟨g0, 0, none⟩ n cap0 xs hown.1 holds ad m c news hl hnews (by omega) (by unfold maxLen at h63; omega) (growslice_fits (by unfold maxLen at h63; omega) hbytes)
        rw [hr] at hr2
        injection hr2 with e1 e2
        subst e2
        rw [World.cell?_of_block (w := w)]
        · exact hc0
        · exact Below.heap_alloc w.drew _ g0 (Array.getElem?_eq_some_iff.1 hg).1
  unfold Oper.wp execOp
  simp only [ho, resolve, invoke, builtin, Sem.run_bind, Sem.run_pure, Result.andThen_ok, List.map_toArray, List.map_cons, List.map_nil, hs, hx, hr]
  refine h g cap w' h2 h3 ?_ h5 hkeep
  rcases h4 with h4 | h4
  · exact .inl (by simpa [Value.ownBlock] using h4)
  · exact .inr h4
end

theorem rep_snoc (far : Nat) : ∀ (n : Nat) (out : List Nat), rep far (n + 1) out = rep far n out ++ [(rep far n out).getD ((rep far n out).length - far) 0]
  | 0, out => rfl
  | n + 1, out => by
    rw [rep, rep_snoc far n, rep]

theorem prep_far (w : World) (g gr a most length far : Nat) (bs out : List Nat) (S So fx : Value) (hP : Pk w g gr bs a S most out So fx) (hl : length ≤ 100000) (hf : far ≤ 100000) (h : out.length < far) :
    Calls Try.prog 56 #[.pointer (some ⟨g, 0, none⟩), .int .i64 length, .int .i64 far] w fun e w' => e = .returned (.int .i64 14) ∧ ∃ m, w' = w.drewN m := by
  have c2 := hP.c2
  obtain ⟨A, cap, rfl, hA⟩ := own_slice hP.own
  have d1 : decide ((out.length : Int) < far) = true := by simp; omega
  have d2 : decide (out.length < far) = true := by simp; omega
  have hm := hP.mst
  have hL := hP.ole
  clear hP hA
  go_enter Try.func56, Try.ntmps56
  go_wp2_with fail
  go_ret
  exact ⟨rfl, 0, rfl⟩

theorem prep_long (w : World) (g gr a most length far : Nat) (bs out : List Nat) (S So fx : Value) (hP : Pk w g gr bs a S most out So fx) (hl : length ≤ 100000) (hf : far ≤ out.length) (h : most - out.length < length) :
    Calls Try.prog 56 #[.pointer (some ⟨g, 0, none⟩), .int .i64 length, .int .i64 far] w fun e w' => e = .returned (.int .i64 3) ∧ ∃ m, w' = w.drewN m := by
  have c1 := hP.c1
  have c2 := hP.c2
  obtain ⟨A, cap, rfl, hA⟩ := own_slice hP.own
  have hm := hP.mst
  have hL := hP.ole
  have d1 : decide ((out.length : Int) < far) = false := by simp; omega
  have d2 : decide (out.length < far) = false := by simp; omega
  have d3 : decide ((most : Int) - out.length < length) = true := by simp; omega
  clear hP hA
  go_enter Try.func56, Try.ntmps56
  go_upto_region 3 with fail
  go_quiet (fail)
  go_wp2_with fail
  go_ret
  exact ⟨rfl, _, rfl⟩

set_option maxHeartbeats 1000000 in
set_option maxRecDepth 100000 in
theorem prep (w : World) (g gr a most length far : Nat) (bs out : List Nat) (S So fx : Value) (hP : Pk w g gr bs a S most out So fx) (hl : length ≤ 100000) (hf0 : 1 ≤ far) (hf : far ≤ out.length) (h : length ≤ most - out.length) :
    Calls Try.prog 56 #[.pointer (some ⟨g, 0, none⟩), .int .i64 length, .int .i64 far] w (PutTo2 w g gr bs a S most out (rep far length out) So fx) := by
  have c1 := hP.c1
  have c2 := hP.c2
  have HP := keepf hP
  have hm := hP.mst
  have hL := hP.ole
  obtain ⟨A, cap, rfl, hA⟩ := own_slice hP.own
  have d1 : decide ((out.length : Int) < far) = false := by simp; omega
  have d2 : decide (out.length < far) = false := by simp; omega
  have d3 : decide ((most : Int) - out.length < length) = false := by simp; omega
  obtain ⟨i0, hi, hz0, hz1, hz2⟩ := info_parts info_u8
  clear hP hA
  go_enter Try.func56, Try.ntmps56
  go_upto_region 3 with fail
  go_quiet (fail)
  go_wp2_with fail
  clear c1 c2 d1 d2 d3
  go_loopw [27] (fun vb wr => ∃ j : Nat, ∃ So2 : Value, j ≤ length ∧ vb = .int .i64 j ∧ Hid (Pk wr g gr bs a S most (rep far j out) So2 fx) ∧ Hid (Mv g gr w (.slice A out.length cap) wr So2)) (fun vb _ => length - (intOf vb).toNat)
  case atStart => exact ⟨0, _, Nat.zero_le _, rfl, HP.out.drewN nq, (Mv.refl _ _ _ _).drewN nq⟩
  case round =>
    obtain ⟨j, So2, hj, rfl, HP2, HM2⟩ := hrel
    by_cases hlt : j < length
    · have hPj := HP2.out
      have hln := rep_len far j out
      obtain ⟨o, ho⟩ : ∃ o, o = rep far j out := ⟨_, rfl⟩
      rw [← ho] at hPj hln
      obtain ⟨gb, cap2, rfl, hcap1, hcap2⟩ := own_form hPj.own (by omega)
      have e1 := hPj.c2
      have q1 := hPj.blk.frozen 2
      obtain ⟨q, hq⟩ : ∃ q, q = o.length - far := ⟨_, rfl⟩
      have hql : q < o.length := by omega
      obtain ⟨x, hx⟩ : ∃ x, x = o.getD q 0 := ⟨_, rfl⟩
      have e2 := hPj.own.cellAt q (by omega)
      have hx2 : (ucells o)[q]? = some (.int .u8 (x : Nat)) := by
        rw [hx]
        simp [ucells, List.getD_eq_getElem?_getD, hql]
      rw [hx2] at e2
      have lb : gb < wr.heap.size := own_lt hPj.own rfl
      have lg : g < wr.heap.size := hPj.blk.lt
      have ng : g ≠ gb := fun e => own_ne_blk hPj.own hPj.blk (by decide) (by rw [e]; rfl)
      have HO := keepf ho
      have HX := keepf hx
      have HQ := keepf hq
      have HPj := keepf hPj
      have HX2 := keepf hx2
      have HBK := keepf HPj.out.blk
      have HOW := keepf HPj.out.own
      have hN : o.length ≤ 16777216 := by omega
      obtain ⟨n, hn⟩ : ∃ n, n = o.length := ⟨_, rfl⟩
      have HN := keepf hn
      have HLT := keepf (show o.length < most by omega)
      rw [← hn] at e1 hql hcap1 hN hq HPj HOW
      have i0' : IntKind.i64.wrap ((n : Int) - far) = (n : Int) - far := by rw [IntKind.wrap_i64]; omega
      have i1 : (0 : Int) ≤ (n : Int) - far := by omega
      have i2 : (n : Int) - far < n := by omega
      have i3 : ((n : Int) - far).toNat = q := by omega
      have i4 : far ≤ n := by omega
      clear hPj ho hx hx2 hq hln hn
      go_upto_region 7 with fail
      first
        | (go_loud (go_region_law
            (refine step_append_lies _ (by rfl) _ _ _ (by rfl) 0 5 i0 _ 1 1 Try.underlying22 hi hz0 hz1 hz2 rfl (by omega) (.slice (some ⟨gb, 0, none⟩) n cap2) n (ucells o) (by rfl) ((own_chg (S := NoS) HOW.out ((Chg.refl _ _).alloc _) (fun _ _ h => h)).drew)
                  ⟨wr.heap.size, 0, none⟩ 1 1 [.int .u8 (x : Nat)] (by rfl) (by rfl) (World.news_of_block (cs := #[.int .u8 (x : Nat)]) (t := 5) (fr := (0, 0)) (heap_alloc_new wr _)) (by intro u hu; simp at hu; subst hu; rfl)
                  (by omega) (by unfold maxLen; omega) (by omega) (Nat.zero_le _) (wr.heap.size + 1) (by simp) ?_; intro gg cap w1 hown1 hgrow hat hlt1; have hb1 := ((HBK.out.alloc _).drew).grown hgrow (by simp [Value.ownBlock]; omega); have q3 := hb1.frozen 2; have e3 := hb1.cell 2; clear hb1)))
        | fail "region"
      all_goals
        have hdone := put_done (w := wr.drew) (x := x) (o := .cells #[.int .u8 (x : Nat)] 5) (HPj.out.news ((Chg.refl NoS _).drew)) HLT.out (by rw [← HN.out]; exact hown1) hgrow (by
          rcases hat with h | h
          · exact .inl h.symm
          · exact .inr (by rw [h]; simp [Value.ownBlock]))
        have hrep : rep far (j + 1) out = o ++ [x] := by rw [rep_snoc, ← HO.out, HX.out, HQ.out]
        have HD := keepf hdone
        have HR := keepf hrep
        clear hdone hrep hown1 hgrow hat hlt1
        go_wp2_with fail
        go_roundw
        case rel => exact ⟨j + 1, .slice (some ⟨gg, 0, none⟩) (n + 1) cap, by omega, by go_num, by rw [HR.out]; exact HD.out.1, HM2.out.trans ⟨HD.out.2.1.undrewN (n := 1), HD.out.2.2⟩⟩
        case measure => simp [intOf]; omega
    · obtain rfl : length = j := by omega
      go_wp2_with fail
      go_ret
      exact ⟨So2, rfl, HP2.out, HM2.out⟩
end Go.Proofs.Ytbdnhhhagpgibaa
