/- Merged by program: RVt4. -/
import Derived.Test.YtcehpobjnbgpdaaGreatDoorG03
/- The document's own check of a value by itself, of all in it, and Check. -/
namespace Go.Proofs.YtcehpobjnbgpdaaGreatDoor
open Go.RowKit
set_option linter.unusedVariables false
set_option linter.unusedSimpArgs false

/-- A value's error by itself. -/
noncomputable def ownO (k n : Int) (s : ByteArray) (l : List VT) : Int :=
  if k = 0 then (if s.size = 0 ∧ l.length = 0 ∧ n = 0 then 0 else 2)
  else if k = 1 then (if s.size = 0 ∧ l.length = 0 ∧ (n = 0 ∨ n = 1) then 0 else 2)
  else if k = 2 ∨ k = 3 then chkOf k n s.size l.length
  else if k = 4 then (if n = 0 ∧ l.length = 0 then 0 else 2)
  else if k = 5 then (if ¬ textO s then 17 else if n = 0 ∧ l.length = 0 then 0 else 2)
  else if k = 6 then (if n = 0 ∧ s.size = 0 then 0 else 2)
  else if k = 7 then dictO n s.size l
  else if k = 8 then (if s.size = 0 ∧ l.length = 0 ∧ 1 ≤ n ∧ n ≤ 4096 then 0 else 2)
  else 2

theorem own_0 (n : Int) (s : ByteArray) (l : List VT) : ownO 0 n s l = if s.size = 0 ∧ l.length = 0 ∧ n = 0 then 0 else 2 := by rw [ownO, if_pos rfl]

theorem own_1 (n : Int) (s : ByteArray) (l : List VT) : ownO 1 n s l = if s.size = 0 ∧ l.length = 0 ∧ (n = 0 ∨ n = 1) then 0 else 2 := by rw [ownO, if_neg (by decide), if_pos rfl]

theorem own_2 (n : Int) (s : ByteArray) (l : List VT) : ownO 2 n s l = chkOf 2 n s.size l.length := by rw [ownO, if_neg (by decide), if_neg (by decide), if_pos (.inl rfl)]

theorem own_3 (n : Int) (s : ByteArray) (l : List VT) : ownO 3 n s l = chkOf 3 n s.size l.length := by rw [ownO, if_neg (by decide), if_neg (by decide), if_pos (.inr rfl)]

theorem own_4 (n : Int) (s : ByteArray) (l : List VT) : ownO 4 n s l = if n = 0 ∧ l.length = 0 then 0 else 2 := by rw [ownO, if_neg (by decide), if_neg (by decide), if_neg (by decide), if_pos rfl]

theorem own_5 (n : Int) (s : ByteArray) (l : List VT) : ownO 5 n s l = if ¬ textO s then 17 else if n = 0 ∧ l.length = 0 then 0 else 2 := by rw [ownO, if_neg (by decide), if_neg (by decide), if_neg (by decide), if_neg (by decide), if_pos rfl]

theorem own_6 (n : Int) (s : ByteArray) (l : List VT) : ownO 6 n s l = if n = 0 ∧ s.size = 0 then 0 else 2 := by rw [ownO, if_neg (by decide), if_neg (by decide), if_neg (by decide), if_neg (by decide), if_neg (by decide), if_pos rfl]

theorem own_7 (n : Int) (s : ByteArray) (l : List VT) : ownO 7 n s l = dictO n s.size l := by rw [ownO, if_neg (by decide), if_neg (by decide), if_neg (by decide), if_neg (by decide), if_neg (by decide), if_neg (by decide), if_pos rfl]

theorem own_8 (n : Int) (s : ByteArray) (l : List VT) : ownO 8 n s l = if s.size = 0 ∧ l.length = 0 ∧ 1 ≤ n ∧ n ≤ 4096 then 0 else 2 := by rw [ownO, if_neg (by decide), if_neg (by decide), if_neg (by decide), if_neg (by decide), if_neg (by decide), if_neg (by decide), if_neg (by decide), if_pos rfl]

set_option maxHeartbeats 8000000 in
set_option maxRecDepth 100000 in
theorem rown_any (c : VC) (l : List VT) (w : World) (hv : ValIs w (.mk c.k c.n c.s l) c) :
    Calls Tryz.prog 90 #[c.val] w fun e w' => e = .returned (.int .i64 (ownO c.k c.n c.s l)) ∧ Chg NoS w w' := by
  obtain ⟨_, _, _, hg, hl, _⟩ := hv.inv
  have HD := keepf (fun W (h : ValIs W (.mk c.k c.n c.s l) c) => rdict_any c l W h)
  have HV := keepf hv
  have hss := hg.s
  obtain ⟨k, n, s, A, len, cap⟩ := c
  simp only [] at hl hss
  have hcap := hg.cap
  have hlm := hg.len
  simp only [] at hcap hlm
  unfold maxLen at hlm
  have HT := keepf (fun W => rtext11_any s W hss)
  have HK := keepf (fun W => rchk_any k n s A len cap W)
  unfold VC.val at HD ⊢
  simp only [] at HD HV ⊢
  clear hv hg
  have HB := keepf (Blk.new w 24 #[.int .i64 k, .int .i64 n, .string s, .slice A len cap])
  have HC0 := keepf ((Chg.refl NoS w).alloc (.cells #[.int .i64 k, .int .i64 n, .string s, .slice A len cap] 24))
  obtain ⟨W0, hW⟩ : ∃ W0, W0 = w.alloc (.cells #[.int .i64 k, .int .i64 n, .string s, .slice A len cap] 24) := ⟨_, rfl⟩
  obtain ⟨g, hgg⟩ : ∃ g, g = w.heap.size := ⟨_, rfl⟩
  rw [← hW] at HB HC0
  rw [← hgg] at HB
  have p0 := HB.out.cell 0
  have p1 := HB.out.cell 1
  have p2 := HB.out.cell 2
  have p3 := HB.out.cell 3
  simp at p0 p1 p2 p3
  by_cases h0 : k = 0
  · subst h0
    by_cases hs : s.size = 0
    · obtain rfl := str_nil hs
      by_cases hz : len = 0
      · subst hz
        by_cases hn : n = 0
        · subst hn
          have HE : Hid (ownO 0 0 ⟨#[]⟩ l = 0) := by
            show _ = _
            rw [own_0]
            rw [if_pos ⟨rfl, hl, rfl⟩]
          clear HD HV HT HK hl hss
          go_enter Tryz.func90, Tryz.ntmps90
          go_upto_region 1 with fail
          rw [← hgg, ← hW]
          clear hgg hW
          go_wp2_with fail
          go_ret
          exact ⟨ret_v64 HE.out.symm, HC0.out⟩
        · have e1 : (n == 0) = false := by simpa using hn
          have HE : Hid (ownO 0 n ⟨#[]⟩ l = 2) := by
            show _ = _
            rw [own_0]
            rw [if_neg (fun h => hn h.2.2)]
          clear HD HV HT HK hl hss
          go_enter Tryz.func90, Tryz.ntmps90
          go_upto_region 1 with fail
          rw [← hgg, ← hW]
          clear hgg hW
          go_wp2_with fail
          go_ret
          exact ⟨ret_v64 HE.out.symm, HC0.out⟩
      · have z1 : ((len : Int) == 0) = false := by simp; omega
        have HE : Hid (ownO 0 n ⟨#[]⟩ l = 2) := by
          show _ = _
          rw [own_0]
          rw [if_neg (fun h => hz (by rw [← hl]; exact h.2.1))]
        clear HD HV HT HK hl hss
        go_enter Tryz.func90, Tryz.ntmps90
        go_upto_region 1 with fail
        rw [← hgg, ← hW]
        clear hgg hW
        go_wp2_with fail
        go_ret
        exact ⟨ret_v64 HE.out.symm, HC0.out⟩
    · have u1 := str_em11 hs
      by_cases hz : len = 0
      · subst hz
        have HE : Hid (ownO 0 n s l = 2) := by
          show _ = _
          rw [own_0]
          rw [if_neg (fun h => hs h.1)]
        clear HD HV HT HK hl hss
        go_enter Tryz.func90, Tryz.ntmps90
        go_upto_region 1 with fail
        rw [← hgg, ← hW]
        clear hgg hW
        go_wp2_with fail
        go_ret
        exact ⟨ret_v64 HE.out.symm, HC0.out⟩
      · have z1 : ((len : Int) == 0) = false := by simp; omega
        have HE : Hid (ownO 0 n s l = 2) := by
          show _ = _
          rw [own_0]
          rw [if_neg (fun h => hs h.1)]
        clear HD HV HT HK hl hss
        go_enter Tryz.func90, Tryz.ntmps90
        go_upto_region 1 with fail
        rw [← hgg, ← hW]
        clear hgg hW
        go_wp2_with fail
        go_ret
        exact ⟨ret_v64 HE.out.symm, HC0.out⟩
  · have x0 : (k == 0) = false := by simpa using h0
    by_cases h1 : k = 1
    · subst h1
      by_cases hs : s.size = 0
      · obtain rfl := str_nil hs
        by_cases hz : len = 0
        · subst hz
          by_cases hn : n = 0
          · subst hn
            have HE : Hid (ownO 1 0 ⟨#[]⟩ l = 0) := by
              show _ = _
              rw [own_1]
              rw [if_pos ⟨rfl, hl, .inl rfl⟩]
            clear HD HV HT HK hl hss
            go_enter Tryz.func90, Tryz.ntmps90
            go_upto_region 1 with fail
            rw [← hgg, ← hW]
            clear hgg hW
            go_wp2_with fail
            go_ret
            exact ⟨ret_v64 HE.out.symm, HC0.out⟩
          · have e1 : (n == 0) = false := by simpa using hn
            by_cases hn1 : n = 1
            · subst hn1
              have HE : Hid (ownO 1 1 ⟨#[]⟩ l = 0) := by
                show _ = _
                rw [own_1]
                rw [if_pos ⟨rfl, hl, .inr rfl⟩]
              clear HD HV HT HK hl hss
              go_enter Tryz.func90, Tryz.ntmps90
              go_upto_region 1 with fail
              rw [← hgg, ← hW]
              clear hgg hW
              go_wp2_with fail
              go_ret
              exact ⟨ret_v64 HE.out.symm, HC0.out⟩
            · have e2 : (n == 1) = false := by simpa using hn1
              have HE : Hid (ownO 1 n ⟨#[]⟩ l = 2) := by
                show _ = _
                rw [own_1]
                rw [if_neg (fun h => by rcases h.2.2 with h | h; exact hn h; exact hn1 h)]
              clear HD HV HT HK hl hss
              go_enter Tryz.func90, Tryz.ntmps90
              go_upto_region 1 with fail
              rw [← hgg, ← hW]
              clear hgg hW
              go_wp2_with fail
              go_ret
              exact ⟨ret_v64 HE.out.symm, HC0.out⟩
        · have z1 : ((len : Int) == 0) = false := by simp; omega
          have HE : Hid (ownO 1 n ⟨#[]⟩ l = 2) := by
            show _ = _
            rw [own_1]
            rw [if_neg (fun h => hz (by rw [← hl]; exact h.2.1))]
          clear HD HV HT HK hl hss
          go_enter Tryz.func90, Tryz.ntmps90
          go_upto_region 1 with fail
          rw [← hgg, ← hW]
          clear hgg hW
          go_wp2_with fail
          go_ret
          exact ⟨ret_v64 HE.out.symm, HC0.out⟩
      · have u1 := str_em11 hs
        by_cases hz : len = 0
        · subst hz
          have HE : Hid (ownO 1 n s l = 2) := by
            show _ = _
            rw [own_1]
            rw [if_neg (fun h => hs h.1)]
          clear HD HV HT HK hl hss
          go_enter Tryz.func90, Tryz.ntmps90
          go_upto_region 1 with fail
          rw [← hgg, ← hW]
          clear hgg hW
          go_wp2_with fail
          go_ret
          exact ⟨ret_v64 HE.out.symm, HC0.out⟩
        · have z1 : ((len : Int) == 0) = false := by simp; omega
          have HE : Hid (ownO 1 n s l = 2) := by
            show _ = _
            rw [own_1]
            rw [if_neg (fun h => hs h.1)]
          clear HD HV HT HK hl hss
          go_enter Tryz.func90, Tryz.ntmps90
          go_upto_region 1 with fail
          rw [← hgg, ← hW]
          clear hgg hW
          go_wp2_with fail
          go_ret
          exact ⟨ret_v64 HE.out.symm, HC0.out⟩
    · have x1 : (k == 1) = false := by simpa using h1
      by_cases h2 : k = 2
      · subst h2
        by_cases hs : s.size = 0
        · obtain rfl := str_nil hs
          by_cases hz : len = 0
          · subst hz
            have HE : Hid (ownO 2 n ⟨#[]⟩ l = chkOf 2 n (ByteArray.mk #[]).size 0) := by
              show _ = _
              rw [own_2, hl]
            clear HD HV HT hl hss
            go_enter Tryz.func90, Tryz.ntmps90
            go_upto_region 1 with fail
            rw [← hgg, ← hW]
            clear hgg hW
            go_wp2_with (go_at_call 91; refine (HK.out _).mono ?_; rintro e w2 ⟨rfl, hc2⟩; have HC2 := keepf (HC0.out.trans hc2 (fun _ _ h => h)); clear hc2)
            go_ret
            exact ⟨ret_v64 HE.out.symm, HC2.out⟩
          · have z1 : ((len : Int) == 0) = false := by simp; omega
            have HE : Hid (ownO 2 n ⟨#[]⟩ l = chkOf 2 n (ByteArray.mk #[]).size len) := by
              show _ = _
              rw [own_2, hl]
            clear HD HV HT hl hss
            go_enter Tryz.func90, Tryz.ntmps90
            go_upto_region 1 with fail
            rw [← hgg, ← hW]
            clear hgg hW
            go_wp2_with (go_at_call 91; refine (HK.out _).mono ?_; rintro e w2 ⟨rfl, hc2⟩; have HC2 := keepf (HC0.out.trans hc2 (fun _ _ h => h)); clear hc2)
            go_ret
            exact ⟨ret_v64 HE.out.symm, HC2.out⟩
        · have u1 := str_em11 hs
          by_cases hz : len = 0
          · subst hz
            have HE : Hid (ownO 2 n s l = chkOf 2 n (s).size 0) := by
              show _ = _
              rw [own_2, hl]
            clear HD HV HT hl hss
            go_enter Tryz.func90, Tryz.ntmps90
            go_upto_region 1 with fail
            rw [← hgg, ← hW]
            clear hgg hW
            go_wp2_with (go_at_call 91; refine (HK.out _).mono ?_; rintro e w2 ⟨rfl, hc2⟩; have HC2 := keepf (HC0.out.trans hc2 (fun _ _ h => h)); clear hc2)
            go_ret
            exact ⟨ret_v64 HE.out.symm, HC2.out⟩
          · have z1 : ((len : Int) == 0) = false := by simp; omega
            have HE : Hid (ownO 2 n s l = chkOf 2 n (s).size len) := by
              show _ = _
              rw [own_2, hl]
            clear HD HV HT hl hss
            go_enter Tryz.func90, Tryz.ntmps90
            go_upto_region 1 with fail
            rw [← hgg, ← hW]
            clear hgg hW
            go_wp2_with (go_at_call 91; refine (HK.out _).mono ?_; rintro e w2 ⟨rfl, hc2⟩; have HC2 := keepf (HC0.out.trans hc2 (fun _ _ h => h)); clear hc2)
            go_ret
            exact ⟨ret_v64 HE.out.symm, HC2.out⟩
      · have x2 : (k == 2) = false := by simpa using h2
        by_cases h3 : k = 3
        · subst h3
          by_cases hs : s.size = 0
          · obtain rfl := str_nil hs
            by_cases hz : len = 0
            · subst hz
              have HE : Hid (ownO 3 n ⟨#[]⟩ l = chkOf 3 n (ByteArray.mk #[]).size 0) := by
                show _ = _
                rw [own_3, hl]
              clear HD HV HT hl hss
              go_enter Tryz.func90, Tryz.ntmps90
              go_upto_region 1 with fail
              rw [← hgg, ← hW]
              clear hgg hW
              go_wp2_with (go_at_call 91; refine (HK.out _).mono ?_; rintro e w2 ⟨rfl, hc2⟩; have HC2 := keepf (HC0.out.trans hc2 (fun _ _ h => h)); clear hc2)
              go_ret
              exact ⟨ret_v64 HE.out.symm, HC2.out⟩
            · have z1 : ((len : Int) == 0) = false := by simp; omega
              have HE : Hid (ownO 3 n ⟨#[]⟩ l = chkOf 3 n (ByteArray.mk #[]).size len) := by
                show _ = _
                rw [own_3, hl]
              clear HD HV HT hl hss
              go_enter Tryz.func90, Tryz.ntmps90
              go_upto_region 1 with fail
              rw [← hgg, ← hW]
              clear hgg hW
              go_wp2_with (go_at_call 91; refine (HK.out _).mono ?_; rintro e w2 ⟨rfl, hc2⟩; have HC2 := keepf (HC0.out.trans hc2 (fun _ _ h => h)); clear hc2)
              go_ret
              exact ⟨ret_v64 HE.out.symm, HC2.out⟩
          · have u1 := str_em11 hs
            by_cases hz : len = 0
            · subst hz
              have HE : Hid (ownO 3 n s l = chkOf 3 n (s).size 0) := by
                show _ = _
                rw [own_3, hl]
              clear HD HV HT hl hss
              go_enter Tryz.func90, Tryz.ntmps90
              go_upto_region 1 with fail
              rw [← hgg, ← hW]
              clear hgg hW
              go_wp2_with (go_at_call 91; refine (HK.out _).mono ?_; rintro e w2 ⟨rfl, hc2⟩; have HC2 := keepf (HC0.out.trans hc2 (fun _ _ h => h)); clear hc2)
              go_ret
              exact ⟨ret_v64 HE.out.symm, HC2.out⟩
            · have z1 : ((len : Int) == 0) = false := by simp; omega
              have HE : Hid (ownO 3 n s l = chkOf 3 n (s).size len) := by
                show _ = _
                rw [own_3, hl]
              clear HD HV HT hl hss
              go_enter Tryz.func90, Tryz.ntmps90
              go_upto_region 1 with fail
              rw [← hgg, ← hW]
              clear hgg hW
              go_wp2_with (go_at_call 91; refine (HK.out _).mono ?_; rintro e w2 ⟨rfl, hc2⟩; have HC2 := keepf (HC0.out.trans hc2 (fun _ _ h => h)); clear hc2)
              go_ret
              exact ⟨ret_v64 HE.out.symm, HC2.out⟩
        · have x3 : (k == 3) = false := by simpa using h3
          by_cases h4 : k = 4
          · subst h4
            by_cases hs : s.size = 0
            · obtain rfl := str_nil hs
              by_cases hz : len = 0
              · subst hz
                by_cases hn : n = 0
                · subst hn
                  have HE : Hid (ownO 4 0 ⟨#[]⟩ l = 0) := by
                    show _ = _
                    rw [own_4]
                    rw [if_pos ⟨rfl, hl⟩]
                  clear HD HV HT HK hl hss
                  go_enter Tryz.func90, Tryz.ntmps90
                  go_upto_region 1 with fail
                  rw [← hgg, ← hW]
                  clear hgg hW
                  go_wp2_with fail
                  go_ret
                  exact ⟨ret_v64 HE.out.symm, HC0.out⟩
                · have e1 : (n == 0) = false := by simpa using hn
                  have HE : Hid (ownO 4 n ⟨#[]⟩ l = 2) := by
                    show _ = _
                    rw [own_4]
                    rw [if_neg (fun h => hn h.1)]
                  clear HD HV HT HK hl hss
                  go_enter Tryz.func90, Tryz.ntmps90
                  go_upto_region 1 with fail
                  rw [← hgg, ← hW]
                  clear hgg hW
                  go_wp2_with fail
                  go_ret
                  exact ⟨ret_v64 HE.out.symm, HC0.out⟩
              · have z1 : ((len : Int) == 0) = false := by simp; omega
                by_cases hn : n = 0
                · subst hn
                  have HE : Hid (ownO 4 0 ⟨#[]⟩ l = 2) := by
                    show _ = _
                    rw [own_4]
                    rw [if_neg (fun h => hz (by rw [← hl]; exact h.2))]
                  clear HD HV HT HK hl hss
                  go_enter Tryz.func90, Tryz.ntmps90
                  go_upto_region 1 with fail
                  rw [← hgg, ← hW]
                  clear hgg hW
                  go_wp2_with fail
                  go_ret
                  exact ⟨ret_v64 HE.out.symm, HC0.out⟩
                · have e1 : (n == 0) = false := by simpa using hn
                  have HE : Hid (ownO 4 n ⟨#[]⟩ l = 2) := by
                    show _ = _
                    rw [own_4]
                    rw [if_neg (fun h => hn h.1)]
                  clear HD HV HT HK hl hss
                  go_enter Tryz.func90, Tryz.ntmps90
                  go_upto_region 1 with fail
                  rw [← hgg, ← hW]
                  clear hgg hW
                  go_wp2_with fail
                  go_ret
                  exact ⟨ret_v64 HE.out.symm, HC0.out⟩
            · have u1 := str_em11 hs
              by_cases hz : len = 0
              · subst hz
                by_cases hn : n = 0
                · subst hn
                  have HE : Hid (ownO 4 0 s l = 0) := by
                    show _ = _
                    rw [own_4]
                    rw [if_pos ⟨rfl, hl⟩]
                  clear HD HV HT HK hl hss
                  go_enter Tryz.func90, Tryz.ntmps90
                  go_upto_region 1 with fail
                  rw [← hgg, ← hW]
                  clear hgg hW
                  go_wp2_with fail
                  go_ret
                  exact ⟨ret_v64 HE.out.symm, HC0.out⟩
                · have e1 : (n == 0) = false := by simpa using hn
                  have HE : Hid (ownO 4 n s l = 2) := by
                    show _ = _
                    rw [own_4]
                    rw [if_neg (fun h => hn h.1)]
                  clear HD HV HT HK hl hss
                  go_enter Tryz.func90, Tryz.ntmps90
                  go_upto_region 1 with fail
                  rw [← hgg, ← hW]
                  clear hgg hW
                  go_wp2_with fail
                  go_ret
                  exact ⟨ret_v64 HE.out.symm, HC0.out⟩
              · have z1 : ((len : Int) == 0) = false := by simp; omega
                by_cases hn : n = 0
                · subst hn
                  have HE : Hid (ownO 4 0 s l = 2) := by
                    show _ = _
                    rw [own_4]
                    rw [if_neg (fun h => hz (by rw [← hl]; exact h.2))]
                  clear HD HV HT HK hl hss
                  go_enter Tryz.func90, Tryz.ntmps90
                  go_upto_region 1 with fail
                  rw [← hgg, ← hW]
                  clear hgg hW
                  go_wp2_with fail
                  go_ret
                  exact ⟨ret_v64 HE.out.symm, HC0.out⟩
                · have e1 : (n == 0) = false := by simpa using hn
                  have HE : Hid (ownO 4 n s l = 2) := by
                    show _ = _
                    rw [own_4]
                    rw [if_neg (fun h => hn h.1)]
                  clear HD HV HT HK hl hss
                  go_enter Tryz.func90, Tryz.ntmps90
                  go_upto_region 1 with fail
                  rw [← hgg, ← hW]
                  clear hgg hW
                  go_wp2_with fail
                  go_ret
                  exact ⟨ret_v64 HE.out.symm, HC0.out⟩
          · have x4 : (k == 4) = false := by simpa using h4
            by_cases h5 : k = 5
            · subst h5
              by_cases hs : s.size = 0
              · obtain rfl := str_nil hs
                by_cases hz : len = 0
                · subst hz
                  by_cases ht : textO ⟨#[]⟩
                  · have t1 : decide (textO ⟨#[]⟩) = true := decide_eq_true ht
                    rw [t1] at HT
                    by_cases hn : n = 0
                    · subst hn
                      have HE : Hid (ownO 5 0 ⟨#[]⟩ l = 0) := by
                        show _ = _
                        rw [own_5]
                        rw [if_neg (fun h => h ht), if_pos ⟨rfl, hl⟩]
                      clear HD HV HK hl hss
                      go_enter Tryz.func90, Tryz.ntmps90
                      go_upto_region 1 with fail
                      rw [← hgg, ← hW]
                      clear hgg hW
                      go_wp2_with (go_at_call 30; refine (HT.out _).mono ?_; rintro e w2 ⟨rfl, rfl⟩)
                      go_ret
                      exact ⟨ret_v64 HE.out.symm, HC0.out⟩
                    · have e1 : (n == 0) = false := by simpa using hn
                      have HE : Hid (ownO 5 n ⟨#[]⟩ l = 2) := by
                        show _ = _
                        rw [own_5]
                        rw [if_neg (fun h => h ht), if_neg (fun h => hn h.1)]
                      clear HD HV HK hl hss
                      go_enter Tryz.func90, Tryz.ntmps90
                      go_upto_region 1 with fail
                      rw [← hgg, ← hW]
                      clear hgg hW
                      go_wp2_with (go_at_call 30; refine (HT.out _).mono ?_; rintro e w2 ⟨rfl, rfl⟩)
                      go_ret
                      exact ⟨ret_v64 HE.out.symm, HC0.out⟩
                  · have t1 : decide (textO ⟨#[]⟩) = false := decide_eq_false ht
                    rw [t1] at HT
                    have HE : Hid (ownO 5 n ⟨#[]⟩ l = 17) := by
                      show _ = _
                      rw [own_5]
                      rw [if_pos ht]
                    clear HD HV HK hl hss
                    go_enter Tryz.func90, Tryz.ntmps90
                    go_upto_region 1 with fail
                    rw [← hgg, ← hW]
                    clear hgg hW
                    go_wp2_with (go_at_call 30; refine (HT.out _).mono ?_; rintro e w2 ⟨rfl, rfl⟩)
                    go_ret
                    exact ⟨ret_v64 HE.out.symm, HC0.out⟩
                · have z1 : ((len : Int) == 0) = false := by simp; omega
                  by_cases ht : textO ⟨#[]⟩
                  · have t1 : decide (textO ⟨#[]⟩) = true := decide_eq_true ht
                    rw [t1] at HT
                    by_cases hn : n = 0
                    · subst hn
                      have HE : Hid (ownO 5 0 ⟨#[]⟩ l = 2) := by
                        show _ = _
                        rw [own_5]
                        rw [if_neg (fun h => h ht), if_neg (fun h => hz (by rw [← hl]; exact h.2))]
                      clear HD HV HK hl hss
                      go_enter Tryz.func90, Tryz.ntmps90
                      go_upto_region 1 with fail
                      rw [← hgg, ← hW]
                      clear hgg hW
                      go_wp2_with (go_at_call 30; refine (HT.out _).mono ?_; rintro e w2 ⟨rfl, rfl⟩)
                      go_ret
                      exact ⟨ret_v64 HE.out.symm, HC0.out⟩
                    · have e1 : (n == 0) = false := by simpa using hn
                      have HE : Hid (ownO 5 n ⟨#[]⟩ l = 2) := by
                        show _ = _
                        rw [own_5]
                        rw [if_neg (fun h => h ht), if_neg (fun h => hn h.1)]
                      clear HD HV HK hl hss
                      go_enter Tryz.func90, Tryz.ntmps90
                      go_upto_region 1 with fail
                      rw [← hgg, ← hW]
                      clear hgg hW
                      go_wp2_with (go_at_call 30; refine (HT.out _).mono ?_; rintro e w2 ⟨rfl, rfl⟩)
                      go_ret
                      exact ⟨ret_v64 HE.out.symm, HC0.out⟩
                  · have t1 : decide (textO ⟨#[]⟩) = false := decide_eq_false ht
                    rw [t1] at HT
                    have HE : Hid (ownO 5 n ⟨#[]⟩ l = 17) := by
                      show _ = _
                      rw [own_5]
                      rw [if_pos ht]
                    clear HD HV HK hl hss
                    go_enter Tryz.func90, Tryz.ntmps90
                    go_upto_region 1 with fail
                    rw [← hgg, ← hW]
                    clear hgg hW
                    go_wp2_with (go_at_call 30; refine (HT.out _).mono ?_; rintro e w2 ⟨rfl, rfl⟩)
                    go_ret
                    exact ⟨ret_v64 HE.out.symm, HC0.out⟩
              · have u1 := str_em11 hs
                by_cases hz : len = 0
                · subst hz
                  by_cases ht : textO s
                  · have t1 : decide (textO s) = true := decide_eq_true ht
                    rw [t1] at HT
                    by_cases hn : n = 0
                    · subst hn
                      have HE : Hid (ownO 5 0 s l = 0) := by
                        show _ = _
                        rw [own_5]
                        rw [if_neg (fun h => h ht), if_pos ⟨rfl, hl⟩]
                      clear HD HV HK hl hss
                      go_enter Tryz.func90, Tryz.ntmps90
                      go_upto_region 1 with fail
                      rw [← hgg, ← hW]
                      clear hgg hW
                      go_wp2_with (go_at_call 30; refine (HT.out _).mono ?_; rintro e w2 ⟨rfl, rfl⟩)
                      go_ret
                      exact ⟨ret_v64 HE.out.symm, HC0.out⟩
                    · have e1 : (n == 0) = false := by simpa using hn
                      have HE : Hid (ownO 5 n s l = 2) := by
                        show _ = _
                        rw [own_5]
                        rw [if_neg (fun h => h ht), if_neg (fun h => hn h.1)]
                      clear HD HV HK hl hss
                      go_enter Tryz.func90, Tryz.ntmps90
                      go_upto_region 1 with fail
                      rw [← hgg, ← hW]
                      clear hgg hW
                      go_wp2_with (go_at_call 30; refine (HT.out _).mono ?_; rintro e w2 ⟨rfl, rfl⟩)
                      go_ret
                      exact ⟨ret_v64 HE.out.symm, HC0.out⟩
                  · have t1 : decide (textO s) = false := decide_eq_false ht
                    rw [t1] at HT
                    have HE : Hid (ownO 5 n s l = 17) := by
                      show _ = _
                      rw [own_5]
                      rw [if_pos ht]
                    clear HD HV HK hl hss
                    go_enter Tryz.func90, Tryz.ntmps90
                    go_upto_region 1 with fail
                    rw [← hgg, ← hW]
                    clear hgg hW
                    go_wp2_with (go_at_call 30; refine (HT.out _).mono ?_; rintro e w2 ⟨rfl, rfl⟩)
                    go_ret
                    exact ⟨ret_v64 HE.out.symm, HC0.out⟩
                · have z1 : ((len : Int) == 0) = false := by simp; omega
                  by_cases ht : textO s
                  · have t1 : decide (textO s) = true := decide_eq_true ht
                    rw [t1] at HT
                    by_cases hn : n = 0
                    · subst hn
                      have HE : Hid (ownO 5 0 s l = 2) := by
                        show _ = _
                        rw [own_5]
                        rw [if_neg (fun h => h ht), if_neg (fun h => hz (by rw [← hl]; exact h.2))]
                      clear HD HV HK hl hss
                      go_enter Tryz.func90, Tryz.ntmps90
                      go_upto_region 1 with fail
                      rw [← hgg, ← hW]
                      clear hgg hW
                      go_wp2_with (go_at_call 30; refine (HT.out _).mono ?_; rintro e w2 ⟨rfl, rfl⟩)
                      go_ret
                      exact ⟨ret_v64 HE.out.symm, HC0.out⟩
                    · have e1 : (n == 0) = false := by simpa using hn
                      have HE : Hid (ownO 5 n s l = 2) := by
                        show _ = _
                        rw [own_5]
                        rw [if_neg (fun h => h ht), if_neg (fun h => hn h.1)]
                      clear HD HV HK hl hss
                      go_enter Tryz.func90, Tryz.ntmps90
                      go_upto_region 1 with fail
                      rw [← hgg, ← hW]
                      clear hgg hW
                      go_wp2_with (go_at_call 30; refine (HT.out _).mono ?_; rintro e w2 ⟨rfl, rfl⟩)
                      go_ret
                      exact ⟨ret_v64 HE.out.symm, HC0.out⟩
                  · have t1 : decide (textO s) = false := decide_eq_false ht
                    rw [t1] at HT
                    have HE : Hid (ownO 5 n s l = 17) := by
                      show _ = _
                      rw [own_5]
                      rw [if_pos ht]
                    clear HD HV HK hl hss
                    go_enter Tryz.func90, Tryz.ntmps90
                    go_upto_region 1 with fail
                    rw [← hgg, ← hW]
                    clear hgg hW
                    go_wp2_with (go_at_call 30; refine (HT.out _).mono ?_; rintro e w2 ⟨rfl, rfl⟩)
                    go_ret
                    exact ⟨ret_v64 HE.out.symm, HC0.out⟩
            · have x5 : (k == 5) = false := by simpa using h5
              by_cases h6 : k = 6
              · subst h6
                by_cases hs : s.size = 0
                · obtain rfl := str_nil hs
                  by_cases hz : len = 0
                  · subst hz
                    by_cases hn : n = 0
                    · subst hn
                      have HE : Hid (ownO 6 0 ⟨#[]⟩ l = 0) := by
                        show _ = _
                        rw [own_6]
                        rw [if_pos ⟨rfl, rfl⟩]
                      clear HD HV HT HK hl hss
                      go_enter Tryz.func90, Tryz.ntmps90
                      go_upto_region 1 with fail
                      rw [← hgg, ← hW]
                      clear hgg hW
                      go_wp2_with fail
                      go_ret
                      exact ⟨ret_v64 HE.out.symm, HC0.out⟩
                    · have e1 : (n == 0) = false := by simpa using hn
                      have HE : Hid (ownO 6 n ⟨#[]⟩ l = 2) := by
                        show _ = _
                        rw [own_6]
                        rw [if_neg (fun h => hn h.1)]
                      clear HD HV HT HK hl hss
                      go_enter Tryz.func90, Tryz.ntmps90
                      go_upto_region 1 with fail
                      rw [← hgg, ← hW]
                      clear hgg hW
                      go_wp2_with fail
                      go_ret
                      exact ⟨ret_v64 HE.out.symm, HC0.out⟩
                  · have z1 : ((len : Int) == 0) = false := by simp; omega
                    by_cases hn : n = 0
                    · subst hn
                      have HE : Hid (ownO 6 0 ⟨#[]⟩ l = 0) := by
                        show _ = _
                        rw [own_6]
                        rw [if_pos ⟨rfl, rfl⟩]
                      clear HD HV HT HK hl hss
                      go_enter Tryz.func90, Tryz.ntmps90
                      go_upto_region 1 with fail
                      rw [← hgg, ← hW]
                      clear hgg hW
                      go_wp2_with fail
                      go_ret
                      exact ⟨ret_v64 HE.out.symm, HC0.out⟩
                    · have e1 : (n == 0) = false := by simpa using hn
                      have HE : Hid (ownO 6 n ⟨#[]⟩ l = 2) := by
                        show _ = _
                        rw [own_6]
                        rw [if_neg (fun h => hn h.1)]
                      clear HD HV HT HK hl hss
                      go_enter Tryz.func90, Tryz.ntmps90
                      go_upto_region 1 with fail
                      rw [← hgg, ← hW]
                      clear hgg hW
                      go_wp2_with fail
                      go_ret
                      exact ⟨ret_v64 HE.out.symm, HC0.out⟩
                · have u1 := str_em11 hs
                  by_cases hz : len = 0
                  · subst hz
                    by_cases hn : n = 0
                    · subst hn
                      have HE : Hid (ownO 6 0 s l = 2) := by
                        show _ = _
                        rw [own_6]
                        rw [if_neg (fun h => hs h.2)]
                      clear HD HV HT HK hl hss
                      go_enter Tryz.func90, Tryz.ntmps90
                      go_upto_region 1 with fail
                      rw [← hgg, ← hW]
                      clear hgg hW
                      go_wp2_with fail
                      go_ret
                      exact ⟨ret_v64 HE.out.symm, HC0.out⟩
                    · have e1 : (n == 0) = false := by simpa using hn
                      have HE : Hid (ownO 6 n s l = 2) := by
                        show _ = _
                        rw [own_6]
                        rw [if_neg (fun h => hn h.1)]
                      clear HD HV HT HK hl hss
                      go_enter Tryz.func90, Tryz.ntmps90
                      go_upto_region 1 with fail
                      rw [← hgg, ← hW]
                      clear hgg hW
                      go_wp2_with fail
                      go_ret
                      exact ⟨ret_v64 HE.out.symm, HC0.out⟩
                  · have z1 : ((len : Int) == 0) = false := by simp; omega
                    by_cases hn : n = 0
                    · subst hn
                      have HE : Hid (ownO 6 0 s l = 2) := by
                        show _ = _
                        rw [own_6]
                        rw [if_neg (fun h => hs h.2)]
                      clear HD HV HT HK hl hss
                      go_enter Tryz.func90, Tryz.ntmps90
                      go_upto_region 1 with fail
                      rw [← hgg, ← hW]
                      clear hgg hW
                      go_wp2_with fail
                      go_ret
                      exact ⟨ret_v64 HE.out.symm, HC0.out⟩
                    · have e1 : (n == 0) = false := by simpa using hn
                      have HE : Hid (ownO 6 n s l = 2) := by
                        show _ = _
                        rw [own_6]
                        rw [if_neg (fun h => hn h.1)]
                      clear HD HV HT HK hl hss
                      go_enter Tryz.func90, Tryz.ntmps90
                      go_upto_region 1 with fail
                      rw [← hgg, ← hW]
                      clear hgg hW
                      go_wp2_with fail
                      go_ret
                      exact ⟨ret_v64 HE.out.symm, HC0.out⟩
              · have x6 : (k == 6) = false := by simpa using h6
                by_cases h7 : k = 7
                · subst h7
                  by_cases hs : s.size = 0
                  · obtain rfl := str_nil hs
                    by_cases hz : len = 0
                    · subst hz
                      have HE : Hid (ownO 7 n ⟨#[]⟩ l = dictO n (ByteArray.mk #[]).size l) := own_7 _ _ _
                      clear HT HK hl hss
                      go_enter Tryz.func90, Tryz.ntmps90
                      go_upto_region 1 with fail
                      rw [← hgg, ← hW]
                      clear hgg hW
                      go_wp2_with (go_at_call 122; refine (HD.out _ (HV.out.chg HC0.out)).mono ?_; rintro e w2 ⟨rfl, hc2⟩; have HC2 := keepf (HC0.out.trans hc2 (fun _ _ h => h)); clear hc2)
                      go_ret
                      exact ⟨ret_v64 HE.out.symm, HC2.out⟩
                    · have z1 : ((len : Int) == 0) = false := by simp; omega
                      have HE : Hid (ownO 7 n ⟨#[]⟩ l = dictO n (ByteArray.mk #[]).size l) := own_7 _ _ _
                      clear HT HK hl hss
                      go_enter Tryz.func90, Tryz.ntmps90
                      go_upto_region 1 with fail
                      rw [← hgg, ← hW]
                      clear hgg hW
                      go_wp2_with (go_at_call 122; refine (HD.out _ (HV.out.chg HC0.out)).mono ?_; rintro e w2 ⟨rfl, hc2⟩; have HC2 := keepf (HC0.out.trans hc2 (fun _ _ h => h)); clear hc2)
                      go_ret
                      exact ⟨ret_v64 HE.out.symm, HC2.out⟩
                  · have u1 := str_em11 hs
                    by_cases hz : len = 0
                    · subst hz
                      have HE : Hid (ownO 7 n s l = dictO n (s).size l) := own_7 _ _ _
                      clear HT HK hl hss
                      go_enter Tryz.func90, Tryz.ntmps90
                      go_upto_region 1 with fail
                      rw [← hgg, ← hW]
                      clear hgg hW
                      go_wp2_with (go_at_call 122; refine (HD.out _ (HV.out.chg HC0.out)).mono ?_; rintro e w2 ⟨rfl, hc2⟩; have HC2 := keepf (HC0.out.trans hc2 (fun _ _ h => h)); clear hc2)
                      go_ret
                      exact ⟨ret_v64 HE.out.symm, HC2.out⟩
                    · have z1 : ((len : Int) == 0) = false := by simp; omega
                      have HE : Hid (ownO 7 n s l = dictO n (s).size l) := own_7 _ _ _
                      clear HT HK hl hss
                      go_enter Tryz.func90, Tryz.ntmps90
                      go_upto_region 1 with fail
                      rw [← hgg, ← hW]
                      clear hgg hW
                      go_wp2_with (go_at_call 122; refine (HD.out _ (HV.out.chg HC0.out)).mono ?_; rintro e w2 ⟨rfl, hc2⟩; have HC2 := keepf (HC0.out.trans hc2 (fun _ _ h => h)); clear hc2)
                      go_ret
                      exact ⟨ret_v64 HE.out.symm, HC2.out⟩
                · have x7 : (k == 7) = false := by simpa using h7
                  by_cases h8 : k = 8
                  · subst h8
                    by_cases hs : s.size = 0
                    · obtain rfl := str_nil hs
                      by_cases hz : len = 0
                      · subst hz
                        by_cases hn : 1 ≤ n
                        · have d1 : decide (1 ≤ n) = true := by simpa using hn
                          by_cases hn2 : n ≤ 4096
                          · have d2 : decide (n ≤ 4096) = true := by simpa using hn2
                            have HE : Hid (ownO 8 n ⟨#[]⟩ l = 0) := by
                              show _ = _
                              rw [own_8]
                              rw [if_pos ⟨rfl, hl, hn, hn2⟩]
                            clear HD HV HT HK hl hss
                            go_enter Tryz.func90, Tryz.ntmps90
                            go_upto_region 1 with fail
                            rw [← hgg, ← hW]
                            clear hgg hW
                            go_wp2_with fail
                            go_ret
                            exact ⟨ret_v64 HE.out.symm, HC0.out⟩
                          · have d2 : decide (n ≤ 4096) = false := by simpa using hn2
                            have HE : Hid (ownO 8 n ⟨#[]⟩ l = 2) := by
                              show _ = _
                              rw [own_8]
                              rw [if_neg (fun h => hn2 h.2.2.2)]
                            clear HD HV HT HK hl hss
                            go_enter Tryz.func90, Tryz.ntmps90
                            go_upto_region 1 with fail
                            rw [← hgg, ← hW]
                            clear hgg hW
                            go_wp2_with fail
                            go_ret
                            exact ⟨ret_v64 HE.out.symm, HC0.out⟩
                        · have d1 : decide (1 ≤ n) = false := by simpa using hn
                          have HE : Hid (ownO 8 n ⟨#[]⟩ l = 2) := by
                            show _ = _
                            rw [own_8]
                            rw [if_neg (fun h => hn h.2.2.1)]
                          clear HD HV HT HK hl hss
                          go_enter Tryz.func90, Tryz.ntmps90
                          go_upto_region 1 with fail
                          rw [← hgg, ← hW]
                          clear hgg hW
                          go_wp2_with fail
                          go_ret
                          exact ⟨ret_v64 HE.out.symm, HC0.out⟩
                      · have z1 : ((len : Int) == 0) = false := by simp; omega
                        have HE : Hid (ownO 8 n ⟨#[]⟩ l = 2) := by
                          show _ = _
                          rw [own_8]
                          rw [if_neg (fun h => hz (by rw [← hl]; exact h.2.1))]
                        clear HD HV HT HK hl hss
                        go_enter Tryz.func90, Tryz.ntmps90
                        go_upto_region 1 with fail
                        rw [← hgg, ← hW]
                        clear hgg hW
                        go_wp2_with fail
                        go_ret
                        exact ⟨ret_v64 HE.out.symm, HC0.out⟩
                    · have u1 := str_em11 hs
                      by_cases hz : len = 0
                      · subst hz
                        have HE : Hid (ownO 8 n s l = 2) := by
                          show _ = _
                          rw [own_8]
                          rw [if_neg (fun h => hs h.1)]
                        clear HD HV HT HK hl hss
                        go_enter Tryz.func90, Tryz.ntmps90
                        go_upto_region 1 with fail
                        rw [← hgg, ← hW]
                        clear hgg hW
                        go_wp2_with fail
                        go_ret
                        exact ⟨ret_v64 HE.out.symm, HC0.out⟩
                      · have z1 : ((len : Int) == 0) = false := by simp; omega
                        have HE : Hid (ownO 8 n s l = 2) := by
                          show _ = _
                          rw [own_8]
                          rw [if_neg (fun h => hs h.1)]
                        clear HD HV HT HK hl hss
                        go_enter Tryz.func90, Tryz.ntmps90
                        go_upto_region 1 with fail
                        rw [← hgg, ← hW]
                        clear hgg hW
                        go_wp2_with fail
                        go_ret
                        exact ⟨ret_v64 HE.out.symm, HC0.out⟩
                  · have x8 : (k == 8) = false := by simpa using h8
                    by_cases hs : s.size = 0
                    · obtain rfl := str_nil hs
                      by_cases hz : len = 0
                      · subst hz
                        have HE : Hid (ownO k n ⟨#[]⟩ l = 2) := by
                          show _ = _
                          rw [ownO, if_neg h0, if_neg h1, if_neg (fun h => h.elim h2 h3), if_neg h4, if_neg h5, if_neg h6, if_neg h7, if_neg h8]
                        clear HD HV HT HK hl hss
                        clear h0 h1 h2 h3 h4 h5 h6 h7 h8
                        go_enter Tryz.func90, Tryz.ntmps90
                        go_upto_region 1 with fail
                        rw [← hgg, ← hW]
                        clear hgg hW
                        go_wp2_with fail
                        go_ret
                        exact ⟨ret_v64 HE.out.symm, HC0.out⟩
                      · have z1 : ((len : Int) == 0) = false := by simp; omega
                        have HE : Hid (ownO k n ⟨#[]⟩ l = 2) := by
                          show _ = _
                          rw [ownO, if_neg h0, if_neg h1, if_neg (fun h => h.elim h2 h3), if_neg h4, if_neg h5, if_neg h6, if_neg h7, if_neg h8]
                        clear HD HV HT HK hl hss
                        clear h0 h1 h2 h3 h4 h5 h6 h7 h8
                        go_enter Tryz.func90, Tryz.ntmps90
                        go_upto_region 1 with fail
                        rw [← hgg, ← hW]
                        clear hgg hW
                        go_wp2_with fail
                        go_ret
                        exact ⟨ret_v64 HE.out.symm, HC0.out⟩
                    · have u1 := str_em11 hs
                      by_cases hz : len = 0
                      · subst hz
                        have HE : Hid (ownO k n s l = 2) := by
                          show _ = _
                          rw [ownO, if_neg h0, if_neg h1, if_neg (fun h => h.elim h2 h3), if_neg h4, if_neg h5, if_neg h6, if_neg h7, if_neg h8]
                        clear HD HV HT HK hl hss
                        clear h0 h1 h2 h3 h4 h5 h6 h7 h8
                        go_enter Tryz.func90, Tryz.ntmps90
                        go_upto_region 1 with fail
                        rw [← hgg, ← hW]
                        clear hgg hW
                        go_wp2_with fail
                        go_ret
                        exact ⟨ret_v64 HE.out.symm, HC0.out⟩
                      · have z1 : ((len : Int) == 0) = false := by simp; omega
                        have HE : Hid (ownO k n s l = 2) := by
                          show _ = _
                          rw [ownO, if_neg h0, if_neg h1, if_neg (fun h => h.elim h2 h3), if_neg h4, if_neg h5, if_neg h6, if_neg h7, if_neg h8]
                        clear HD HV HT HK hl hss
                        clear h0 h1 h2 h3 h4 h5 h6 h7 h8
                        go_enter Tryz.func90, Tryz.ntmps90
                        go_upto_region 1 with fail
                        rw [← hgg, ← hW]
                        clear hgg hW
                        go_wp2_with fail
                        go_ret
                        exact ⟨ret_v64 HE.out.symm, HC0.out⟩

mutual
/-- The first error of a value, and of all in it. -/
noncomputable def firstT : VT → Int
  | .mk k n s l => if ownO k n s l ≠ 0 then ownO k n s l else if k = 6 ∨ k = 7 then firstL l else 0
noncomputable def firstL : List VT → Int
  | [] => 0
  | t :: l => if firstT t ≠ 0 then firstT t else firstL l
end

theorem firstT_mk (k n : Int) (s : ByteArray) (l : List VT) : firstT (.mk k n s l) = if ownO k n s l ≠ 0 then ownO k n s l else if k = 6 ∨ k = 7 then firstL l else 0 := by rw [firstT]

theorem firstL_cons (t : VT) (l : List VT) : firstL (t :: l) = if firstT t ≠ 0 then firstT t else firstL l := by rw [firstL]

set_option maxHeartbeats 4000000 in
set_option maxRecDepth 100000 in
theorem rfirst_in : ∀ (N : Nat) (t : VT), sizT t ≤ N → ∀ (c : VC) (w : World), ValIs w t c →
    Calls Tryz.prog 54 #[c.val] w fun e w' => e = .returned (.int .i64 (firstT t)) ∧ Chg NoS w w' := by
  intro N
  induction N with
  | zero =>
    intro t ht
    obtain ⟨k, n, s, l⟩ := t
    rw [sizT_mk] at ht
    omega
  | succ N ih =>
    intro t ht c w hv
    obtain ⟨tk, tn, ts, l⟩ := t
    obtain ⟨h1, h2, h3, hg, hl, hr⟩ := hv.inv
    have HH := keepf (fun (W : World) => rholds_any c W)
    have hv2 : ValIs w (.mk c.k c.n c.s l) c := by rw [h1, h2, h3]; exact hv
    have HO := keepf (fun (W : World) (h : ValIs W (.mk c.k c.n c.s l) c) => rown_any c l W h)
    have HV := keepf hv2
    obtain ⟨ck, cn, cs, A, len, cap⟩ := c
    simp only [] at h1 h2 h3 hl hr
    subst h1 h2 h3
    rw [sizT_mk] at ht
    have hcap := hg.cap
    have hlm := hg.len
    simp only [] at hcap hlm
    unfold maxLen at hlm
    have HL := keepf hl
    have HR := keepf hr
    have HIH := keepf (fun (t' : VT) (ht' : sizT t' ≤ sizL l) => ih t' (by omega))
    unfold VC.val at HH HO
    unfold VC.val
    simp only [] at HH HO HV ⊢
    have HB := keepf (Blk.new w 24 #[.int .i64 ck, .int .i64 cn, .string cs, .slice A len cap])
    have HC0 := keepf ((Chg.refl NoS w).alloc (.cells #[.int .i64 ck, .int .i64 cn, .string cs, .slice A len cap] 24))
    obtain ⟨W0, hW⟩ : ∃ W0, W0 = w.alloc (.cells #[.int .i64 ck, .int .i64 cn, .string cs, .slice A len cap] 24) := ⟨_, rfl⟩
    obtain ⟨g, hgg⟩ : ∃ g, g = w.heap.size := ⟨_, rfl⟩
    rw [← hW] at HB HC0
    rw [← hgg] at HB
    have p0 := HB.out.cell 0
    have p1 := HB.out.cell 1
    have p2 := HB.out.cell 2
    have p3 := HB.out.cell 3
    simp at p0 p1 p2 p3
    clear hv hv2 hg hl hr ih ht
    obtain ⟨z, hz⟩ : ∃ z, ownO ck cn cs l = z := ⟨_, rfl⟩
    rw [hz] at HO
    by_cases hz0 : z = 0
    · subst hz0
      by_cases h67 : ck = 6 ∨ ck = 7
      · have HF := keepf (show firstT (.mk ck cn cs l) = firstL l from by rw [firstT_mk, hz, if_neg (by simp), if_pos h67])
        rw [show decide (ck = 6 ∨ ck = 7) = true from by simpa using h67] at HH
        clear h67 hz
        go_enter Tryz.func54, Tryz.ntmps54
        go_upto_region 1 with fail
        rw [← hgg, ← hW]
        clear hgg hW
        go_upto_region 2 with (go_at_call 90; refine (HO.out _ (HV.out.chg HC0.out)).mono ?_; rintro e w2 ⟨rfl, hc2⟩; have HC2 := keepf hc2; clear hc2)
        clear p0 p1 p2 p3
        have HB2 := keepf (HB.out.chg HC2.out (fun e => e))
        have p0 := HB2.out.cell 0
        have p1 := HB2.out.cell 1
        have p2 := HB2.out.cell 2
        have p3 := HB2.out.cell 3
        simp at p0 p1 p2 p3
        go_upto_region 5 with (go_at_call 89; refine (HH.out _).mono ?_; rintro e w3 ⟨rfl, hc3⟩; have HC3 := keepf (HC2.out.trans hc3 (fun _ _ e => e)); clear hc3)
        clear p0 p1 p2 p3
        go_loopw [3, 4] (fun ve vk wr => ∃ (k : Nat) (e0 : Int), k ≤ len ∧ ve = .int .i64 e0 ∧ vk = .int .i64 (k : Nat) ∧ Hid (Chg NoS W0 wr) ∧ Hid (RowIs w A k (l.drop k)) ∧ Hid (firstL l = firstL (l.drop k))) (fun _ vk _ => len - (intOf vk).toNat)
        case atStart => exact ⟨0, 0, by omega, rfl, rfl, HC3, by rw [List.drop_zero]; exact HR.out, keepf (by rw [List.drop_zero])⟩
        case round =>
          obtain ⟨k, e0, hk, rfl, rfl, HCW, HRW, HFW⟩ := hrel
          have HBW := keepf (HB.out.chg HCW.out (fun e => e))
          have HCR := keepf (HC0.out.trans HCW.out (fun _ _ e => e))
          have q3 := HBW.out.cell 3
          simp at q3
          by_cases h1 : k < len
          · obtain ⟨t', ht', hd⟩ := drop_vt (l := l) (k := k) (by rw [HL.out]; exact h1)
            obtain ⟨b, off, rfl⟩ : ∃ b off, A = some ⟨b, off, none⟩ := by
              have h := HR.out
              cases hll : l with
              | nil => rw [hll] at ht'; simp at ht'
              | cons t0 l0 => rw [hll] at h; exact h.start
            have hrw := HRW.out
            rw [hd] at hrw
            obtain ⟨ek, en, es, eA, el, ec, c0, c1, c2, c3, hv', hr'⟩ := hrw.at_ HCR.out
            have HX := keepf (HIH.out t' (sizL_at ht') ⟨ek, en, es, eA, el, ec⟩ wr hv')
            unfold VC.val at HX
            simp only [] at HX
            have HRN := keepf hr'
            obtain ⟨r, hr9⟩ : ∃ r, firstT t' = r := ⟨_, rfl⟩
            rw [hr9] at HX
            have i1 : (k : Int) < len := by omega
            by_cases hr0 : r = 0
            · subst hr0
              have HFN := keepf (show firstL l = firstL (l.drop (k + 1)) from by rw [HFW.out, hd, firstL_cons, if_neg (by rw [hr9]; simp)])
              clear hrw hv' hr' hd ht' hr9
              go_wp2_with (go_at_call 54; refine HX.out.mono ?_; rintro e w3 ⟨rfl, hc3⟩; have HC3 := keepf (HCW.out.trans hc3 (fun _ _ e => e)); clear hc3)
              go_roundw
              case rel => exact ⟨k + 1, 0, by omega, rfl, by go_num, HC3, HRN, HFN⟩
              case measure => simp [intOf]; omega
            · have HE := keepf (show firstT (.mk ck cn cs l) = r from by rw [HF.out, HFW.out, hd, firstL_cons, if_pos (by rw [hr9]; exact hr0), hr9])
              have e1 : (r != 0) = true := by simpa using hr0
              have e2 : (r == 0) = false := by simpa using hr0
              clear hrw hv' hr' hd ht' hr9 hr0
              go_wp2_with (go_at_call 54; refine HX.out.mono ?_; rintro e w3 ⟨rfl, hc3⟩; have HC3 := keepf (HCR.out.trans hc3 (fun _ _ e => e)); clear hc3)
              go_ret
              exact ⟨ret_v64 HE.out.symm, HC3.out⟩
          · obtain rfl : k = len := by omega
            have HE := keepf (show firstT (.mk ck cn cs l) = 0 from by rw [HF.out, HFW.out, List.drop_of_length_le (by rw [HL.out]; exact Nat.le_refl _), firstL])
            go_wp2_with fail
            go_ret
            exact ⟨ret_v64 HE.out.symm, HCR.out⟩
      · have HE := keepf (show firstT (.mk ck cn cs l) = 0 from by rw [firstT_mk, hz, if_neg (by simp), if_neg h67])
        rw [show decide (ck = 6 ∨ ck = 7) = false from by simpa using h67] at HH
        clear h67 hz
        go_enter Tryz.func54, Tryz.ntmps54
        go_upto_region 1 with fail
        rw [← hgg, ← hW]
        clear hgg hW
        go_upto_region 2 with (go_at_call 90; refine (HO.out _ (HV.out.chg HC0.out)).mono ?_; rintro e w2 ⟨rfl, hc2⟩; have HC2 := keepf hc2; clear hc2)
        clear p0 p1 p2 p3
        have HB2 := keepf (HB.out.chg HC2.out (fun e => e))
        have p0 := HB2.out.cell 0
        have p1 := HB2.out.cell 1
        have p2 := HB2.out.cell 2
        have p3 := HB2.out.cell 3
        simp at p0 p1 p2 p3
        go_wp2_with (go_at_call 89; refine (HH.out _).mono ?_; rintro e w3 ⟨rfl, hc3⟩; have HC3 := keepf (HC2.out.trans hc3 (fun _ _ e => e)); clear hc3)
        go_ret
        exact ⟨ret_v64 HE.out.symm, HC0.out.trans HC3.out (fun _ _ e => e)⟩
    · have HE := keepf (show firstT (.mk ck cn cs l) = z from by rw [firstT_mk, hz, if_pos hz0])
      have e1 : (z != 0) = true := by simpa using hz0
      have e2 : (z == 0) = false := by simpa using hz0
      clear hz0 hz
      go_enter Tryz.func54, Tryz.ntmps54
      go_upto_region 1 with fail
      rw [← hgg, ← hW]
      clear hgg hW
      go_wp2_with (go_at_call 90; refine (HO.out _ (HV.out.chg HC0.out)).mono ?_; rintro e w2 ⟨rfl, hc2⟩; have HC2 := keepf hc2; clear hc2)
      go_ret
      exact ⟨ret_v64 HE.out.symm, HC0.out.trans HC2.out (fun _ _ e => e)⟩

/-- Whether a value may be, or its error. -/
noncomputable def checkT (t : VT) : Int := if 64 < depthT t then 15 else firstT t

set_option maxHeartbeats 1000000 in
theorem rcheck11_any (t : VT) (c : VC) (w : World) (hv : ValIs w t c) (hs : sizT t ≤ 1000000000) :
    Calls Tryz.prog 28 #[c.val] w fun e w' => e = .returned (.int .i64 (checkT t)) ∧ Chg NoS w w' := by
  have HD := keepf (fun W (h : ValIs W t c) => rdepth_any t c W h hs)
  have HF := keepf (fun W (h : ValIs W t c) => rfirst_in _ t (Nat.le_refl _) c W h)
  have HV := keepf hv
  have hd := (depthT_le t).2
  obtain ⟨d, hd2⟩ : ∃ d, depthT t = d := ⟨_, rfl⟩
  obtain ⟨z, hz⟩ : ∃ z, firstT t = z := ⟨_, rfl⟩
  have HZ := keepf (show checkT t = if 64 < d then 15 else z from by rw [checkT, hd2, hz])
  rw [hd2] at HD hd
  rw [hz] at HF
  obtain ⟨k, n, s, A, len, cap⟩ := c
  unfold VC.val at HD HF ⊢
  simp only [] at HD HF ⊢
  have HB := keepf (Blk.new w 24 #[.int .i64 k, .int .i64 n, .string s, .slice A len cap])
  have HC0 := keepf ((Chg.refl NoS w).alloc (.cells #[.int .i64 k, .int .i64 n, .string s, .slice A len cap] 24))
  obtain ⟨W0, hW⟩ : ∃ W0, W0 = w.alloc (.cells #[.int .i64 k, .int .i64 n, .string s, .slice A len cap] 24) := ⟨_, rfl⟩
  obtain ⟨g, hgg⟩ : ∃ g, g = w.heap.size := ⟨_, rfl⟩
  rw [← hW] at HB HC0
  rw [← hgg] at HB
  have p0 := HB.out.cell 0
  have p1 := HB.out.cell 1
  have p2 := HB.out.cell 2
  have p3 := HB.out.cell 3
  simp at p0 p1 p2 p3
  have hd9 : d ≤ 1000000000 := by omega
  clear hv hd hd2 hz hs
  by_cases h64 : 64 < d
  · have d1 : decide ((64 : Int) < d) = true := by simp; omega
    have d1' : decide (64 < d) = true := by simp; omega
    have HE : Hid (checkT t = 15) := by show _ = _; rw [HZ.out, if_pos h64]
    clear h64
    go_enter Tryz.func28, Tryz.ntmps28
    go_upto_region 1 with fail
    rw [← hgg, ← hW]
    clear hgg hW
    go_wp2_with (go_at_call 53; refine (HD.out _ (HV.out.chg HC0.out)).mono ?_; rintro e w2 ⟨rfl, hc2⟩; have HC2 := keepf (HC0.out.trans hc2 (fun _ _ e => e)); clear hc2)
    go_ret
    exact ⟨ret_v64 HE.out.symm, HC2.out⟩
  · have d1 : decide ((64 : Int) < d) = false := by simp; omega
    have d1' : decide (64 < d) = false := by simp; omega
    have HE : Hid (checkT t = z) := by show _ = _; rw [HZ.out, if_neg h64]
    clear h64
    go_enter Tryz.func28, Tryz.ntmps28
    go_upto_region 1 with fail
    rw [← hgg, ← hW]
    clear hgg hW
    go_upto_region 3 with (go_at_call 53; refine (HD.out _ (HV.out.chg HC0.out)).mono ?_; rintro e w2 ⟨rfl, hc2⟩; have HC2 := keepf (HC0.out.trans hc2 (fun _ _ e => e)); have HB2 := keepf (HB.out.chg hc2 (fun e => e)); clear hc2)
    clear p0 p1 p2 p3
    have p0 := HB2.out.cell 0
    have p1 := HB2.out.cell 1
    have p2 := HB2.out.cell 2
    have p3 := HB2.out.cell 3
    simp at p0 p1 p2 p3
    go_wp2_with (go_at_call 54; refine (HF.out _ (HV.out.chg HC2.out)).mono ?_; rintro e w3 ⟨rfl, hc3⟩; have HC3 := keepf (HC2.out.trans hc3 (fun _ _ e => e)); clear hc3)
    go_ret
    exact ⟨ret_v64 HE.out.symm, HC3.out⟩

end Go.Proofs.YtcehpobjnbgpdaaGreatDoor

