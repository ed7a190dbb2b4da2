/- Merged by program. -/
import Derived.Test.YtcehpobjnbgpdaaGreatDoorC28
import Derived.Test.YtcehpobjnbgpdaaGreatDoorC30
set_option linter.unusedVariables false
set_option maxRecDepth 100000
set_option maxHeartbeats 8000000
set_option linter.unusedSimpArgs false
namespace Go.Proofs.YtcehpobjnbgpdaaGreatDoor
open Go.RowKit
mutual
theorem few_T13:∀ (t:VT) (left:Int),0<=fewT t left->fewT t left=left-sizT t
 |.mk _ _ _ l,left=>fun h=>by
  rw [fewT] at h ⊢
  rw [few_L13 l (left-1) h,sizT_mk]
  omega
theorem few_L13:∀ (l:List VT) (left:Int),0<=fewL l left->fewL l left=left-sizL l
 |[],left=>fun h=>by rw [fewL,sizL];omega
 |t::l,left=>fun h=>by
  rw [fewL_cons] at h ⊢
  by_cases h0:0<=left
  ·rw [if_pos h0] at h ⊢
   by_cases h1:0<=fewT t left
   ·rw [few_L13 l _ h,few_T13 t left h1,sizL_cons]
    omega
   ·rw [fewL_neg l h1] at h
    exact absurd h h1
  ·rw [if_neg h0] at h
   exact absurd h h0
end
noncomputable def txtsB (t:VT):Bool:=@decide (txtsT t) (Classical.propDecidable _)
theorem txtsB_true {t:VT} (h:txtsT t):txtsB t=true:=@decide_eq_true _ (Classical.propDecidable _) h
theorem txtsB_false {t:VT} (h:¬txtsT t):txtsB t=false:=@decide_eq_false _ (Classical.propDecidable _) h
theorem txtsB_iff {t:VT}:txtsB t=true↔txtsT t:=@decide_eq_true_iff _ (Classical.propDecidable _)
theorem texts_in:∀ (N:Nat) (t:VT),sizT t<=N->∀ (c:VC) (w:World),ValIs w t c ->
  Calls Tryz.prog 20 #[c.val] w fun e w'=>e=.returned (.bool (txtsB t))/\Chg NoS w w':=by
 intro N
 induction N using Nat.strongRecOn with
 |_ N ih =>
  intro t hN c w hv
  obtain⟨k,n,s,l⟩:=t
  rw [sizT_mk] at hN
  obtain⟨ck,cn,cs,A,len,cap⟩:=c
  obtain⟨e1,e2,e3,hg,hll,hr⟩:=hv.inv
  simp only [] at e1 e2 e3 hll hr
  subst e1 e2 e3
  have hlm:=hg.len
  have hsm:=hg.s
  simp only [] at hlm hsm
  unfold maxLen at hlm hsm
  have HP:=kf (fun x (hx:x∈l)=>(show ∀ (c:VC) (w:World),ValIs w x c->Calls Tryz.prog 20 #[c.val] w fun e w'=>e=.returned (.bool (txtsB x))/\Chg NoS w w' from by
   obtain⟨i,hi,rfl⟩:=List.mem_iff_getElem.1 hx
   have:=sizL_at (List.getElem?_eq_getElem hi)
   exact ih (N-1) (by omega) _ (by omega)))
  have HL:=kf hll
  have HR:=kf hr
  unfold VC.val
  simp only []
  have HB:=kf (Blk.new w 24 #[.int .i64 ck,.int .i64 cn,.string cs,.slice A len cap])
  have HC0:=kf ((Chg.refl NoS w).alloc (.cells #[.int .i64 ck,.int .i64 cn,.string cs,.slice A len cap] 24))
  obtain⟨W1,hW1⟩:∃ W1,W1=w.alloc (.cells #[.int .i64 ck,.int .i64 cn,.string cs,.slice A len cap] 24):=⟨_,rfl⟩
  obtain⟨g,hg⟩:∃ g,g=w.heap.size:=⟨_,rfl⟩
  rw [<- hW1] at HB HC0
  rw [<- hg] at HB
  obtain⟨z,hz⟩:∃ z,cs.size=z:=⟨_,rfl⟩
  have HZ:=kf hz
  rw [hz] at hsm
  clear hN ih hv hll hr hz
  go_enter Tryz.func20,Tryz.ntmps20
  go_upto_region 2 with fail
  rw [<- hg,<- hW1]
  clear hg hW1
  go_loopw [3] (fun vk wr=>∃ k:Nat,k<=len/\vk=.int .i64 (k:Nat)/\Hid (∀ x∈l.take k,txtsT x)/\Hid (RowIs w A k (l.drop k))/\Hid (Chg NoS W1 wr)) (fun vk _=>len-(intOf vk).toNat)
  case atStart=>exact⟨0,by omega,by go_num,fun x hx=>by simp at hx,by rw [List.drop_zero];exact HR.out,Chg.refl NoS W1⟩
  case round =>
   obtain⟨k,hk,rfl,HT,HRW,HCW⟩:=hrel
   have hbw:=HB.out.chg HCW.out (fun h=>h)
   have q2:=hbw.cell 2
   have q3:=hbw.cell 3
   simp at q2 q3
   clear hbw
   by_cases hlt:k<len
   ·obtain⟨t',ht',hdd⟩:=drop_vt (l:=l) (k:=k) (by rw [HL.out];exact hlt)
    obtain⟨b,off,rfl⟩:∃ b off,A=some ⟨b,off,none⟩:=by
     have h:=HR.out
     cases hll:l with
     |nil=>rw [hll] at ht';simp at ht'
     |cons t0 l0=>rw [hll] at h;exact h.start
    have hrw:=HRW.out
    rw [hdd] at hrw
    have hcw:=HC0.out.trans HCW.out (fun _ _ e=>e)
    obtain⟨ek,en,es,eA,el,ec,c0,c1,c2,c3,hv',hr'⟩:=hrw.at0 hcw
    have HRN:=kf hr'
    have hmem:=List.mem_of_getElem? ht'
    have HX:=kf (HP.out t' hmem ⟨ek,en,es,eA,el,ec⟩ wr (hv'.chg hcw))
    unfold VC.val at HX
    simp only [] at HX
    have i1:(k:Int)<len:=by omega
    have HTK:=kf (show l.take (k+1)=l.take k++[t'] from by rw [List.take_add_one,ht'];rfl)
    have HM:=kf hmem
    by_cases hx:txtsT t'
    ·rw [txtsB_true hx] at HX
     have HNX:=kf (show ∀ x∈l.take (k+1),txtsT x from by
      rw [HTK.out]
      intro x hxm
      rcases List.mem_append.1 hxm with h|h
      ·exact HT.out x h
      ·rw [List.mem_singleton] at h;rw [h];exact hx)
     clear hrw hv' hr' hdd ht' hcw hmem hx
     go_wp2_with (go_at_call 20;refine HX.out.mono ?_;rintro e w3 ⟨rfl,h3⟩;have HC3:=kf (HCW.out.trans h3 (fun _ _ e=>e));clear h3)
     go_roundw
     case rel=>exact⟨k+1,by omega,by go_num,HNX.out,HRN.out,HC3.out⟩
     case measure=>simp [intOf];omega
    ·rw [txtsB_false hx] at HX
     have HE:=kf (show txtsB (.mk ck cn cs l)=false from txtsB_false (fun h=>hx (txtsL_mem.1 ((txtsT_mk _ _ _ _).1 h).2 t' HM.out)))
     have HCE:=kf hcw
     clear hrw hv' hr' hdd ht' hcw hmem hx
     go_wp2_with (go_at_call 20;refine HX.out.mono ?_;rintro e w3 ⟨rfl,h3⟩;have HC3:=kf (HCE.out.trans h3 (fun _ _ e=>e));clear h3)
     go_ret
     exact⟨by rw [HE.out];rfl,HC3.out⟩
   ·obtain rfl:k=len:=by omega
    have HCE:=kf (HC0.out.trans HCW.out (fun _ _ e=>e))
    have hall:∀ x∈l,txtsT x:=fun x hx=>HT.out x (by rw [List.take_of_length_le (by rw [HL.out];exact Nat.le_refl _)];exact hx)
    by_cases h3:z<=300
    ·have HE:=kf (show txtsB (.mk ck cn cs l)=true from txtsB_true ((txtsT_mk _ _ _ _).2 ⟨by rw [HZ.out];exact h3,txtsL_mem.2 hall⟩))
     have d1:decide ((z:Int)<=300)=true:=by simp;omega
     have d1':decide (z<=300)=true:=by simp;omega
     have hz:=HZ.out
     clear hall h3
     go_wp2_with fail
     go_ret
     exact⟨by rw [HE.out];rfl,HCE.out⟩
    ·have HE:=kf (show txtsB (.mk ck cn cs l)=false from txtsB_false (fun h=>h3 (by have:=((txtsT_mk _ _ _ _).1 h).1;rw [HZ.out] at this;exact this)))
     have d1:decide ((z:Int)<=300)=false:=by simp;omega
     have d1':decide (z<=300)=false:=by simp;omega
     have hz:=HZ.out
     clear hall h3
     go_wp2_with fail
     go_ret
     exact⟨by rw [HE.out];rfl,HCE.out⟩
noncomputable def smallB (t:VT):Bool:=decide (0<=fewT t 300)&&txtsB t
theorem smallB_true {t:VT} (h:smallB t=true):sizT t<=300/\txtsT t:=by
 unfold smallB at h
 rw [Bool.and_eq_true] at h
 have h1:=of_decide_eq_true h.1
 have h2:=few_T13 t 300 h1
 exact⟨by omega,txtsB_iff.1 h.2⟩
theorem small13_any (t:VT) (c:VC) (w:World) (hv:ValIs w t c) :
  Calls Tryz.prog 7 #[c.val] w fun e w'=>e=.returned (.bool (smallB t))/\Chg NoS w w':=by
 have HF:=kf (fun W (h:Chg NoS w W)=>rfew_any t c 300 W (hv.chg h) (by decide) (by decide))
 have HT:=kf (fun W (h:Chg NoS w W)=>texts_in _ t (Nat.le_refl _) c W (hv.chg h))
 obtain⟨z,hz⟩:∃ z,fewT t 300=z:=⟨_,rfl⟩
 have hS:smallB t=(decide (0<=z)&&txtsB t):=by unfold smallB;rw [hz]
 rw [hz] at HF
 rw [hS]
 obtain⟨y,hy⟩:∃ y,txtsB t=y:=⟨_,rfl⟩
 rw [hy] at HT ⊢
 obtain⟨k,n,s,A,len,cap⟩:=c
 unfold VC.val at HF HT ⊢
 simp only [] at HF HT ⊢
 have HB:=kf (Blk.new w 24 #[.int .i64 k,.int .i64 n,.string s,.slice A len cap])
 have HC0:=kf ((Chg.refl NoS w).alloc (.cells #[.int .i64 k,.int .i64 n,.string s,.slice A len cap] 24))
 obtain⟨W1,hW1⟩:∃ W1,W1=w.alloc (.cells #[.int .i64 k,.int .i64 n,.string s,.slice A len cap] 24):=⟨_,rfl⟩
 obtain⟨g,hg⟩:∃ g,g=w.heap.size:=⟨_,rfl⟩
 rw [<- hW1] at HB HC0
 rw [<- hg] at HB
 clear hv hz hS hy
 by_cases h0:0<=z
 ·have d1:decide (0<=z)=true:=by simpa using h0
  rw [d1,Bool.true_and]
  go_enter Tryz.func7,Tryz.ntmps7
  go_upto_region 1 with fail
  rw [<- hg,<- hW1]
  clear hg hW1
  have q0:=HB.out.cell 0
  have q1:=HB.out.cell 1
  have q2:=HB.out.cell 2
  have q3:=HB.out.cell 3
  simp at q0 q1 q2 q3
  go_wp2_with first
   |(go_at_call 19;refine(HF.out _ HC0.out).mono ?_;rintro e w2 ⟨rfl,h2⟩;have HC2:=kf (HC0.out.trans h2 (fun _ _ e=>e));have hb2:=HB.out.chg h2 (fun h=>h);have p0:=hb2.cell 0;have p1:=hb2.cell 1;have p2:=hb2.cell 2;have p3:=hb2.cell 3;simp at p0 p1 p2 p3;clear h2 hb2)
   |(go_at_call 20;refine(HT.out _ HC2.out).mono ?_;rintro e w3 ⟨rfl,h3⟩;have HC3:=kf (HC2.out.trans h3 (fun _ _ e=>e));clear h3)
  go_ret
  exact⟨rfl,HC3.out⟩
 ·have d1:decide (0<=z)=false:=by simpa using h0
  rw [d1,Bool.false_and]
  go_enter Tryz.func7,Tryz.ntmps7
  go_upto_region 1 with fail
  rw [<- hg,<- hW1]
  clear hg hW1
  have q0:=HB.out.cell 0
  have q1:=HB.out.cell 1
  have q2:=HB.out.cell 2
  have q3:=HB.out.cell 3
  simp at q0 q1 q2 q3
  go_wp2_with (go_at_call 19;refine(HF.out _ HC0.out).mono ?_;rintro e w2 ⟨rfl,h2⟩;have HC2:=kf (HC0.out.trans h2 (fun _ _ e=>e));clear h2)
  go_ret
  exact⟨rfl,HC2.out⟩
structure VBx (w:World) (g:Nat) (cs:Array Value) (W:World):Prop where
 b:Blk W g 24 cs
 chg:Chg NoS w W
theorem VBx.call {w W W':World} {g:Nat} {cs:Array Value} (h:VBx w g cs W) (hc:Chg NoS W W'):VBx w g cs W':=⟨h.b.chg hc (fun e=>e),h.chg.trans hc (fun _ _ e=>e)⟩
theorem VBx.cells {w W:World} {g:Nat} {a b c d:Value} (h:VBx w g #[a,b,c,d] W):W.cell? ⟨g,0,none⟩=some a/\W.cell? ⟨g,1,none⟩=some b/\W.cell? ⟨g,2,none⟩=some c/\W.cell? ⟨g,3,none⟩=some d:=by
 have x0:=h.b.cell 0
 have x1:=h.b.cell 1
 have x2:=h.b.cell 2
 have x3:=h.b.cell 3
 simp at x0 x1 x2 x3
 exact⟨x0,x1,x2,x3⟩
theorem r12val_arr (bs:List Nat) (A:Option Addr) (c:Nat) (last:Bool) (w:World) (hS:Src w 1 A bs.length c (lcells bs)) (hl:bs.length<=400000) (hc:bs.length<=c) (hb:∀ x∈bs,x<256) (deep:Nat) (hd:deep<64) (H:RV12 bs A c last (deep+1)) (t:Tkn) (hk:t.kind=2) (l:List VT) (q:Nat) (hE:Elems bs last (deep+1) t.to l q) (ht:t.to<=bs.length) :
  Calls Tryz.prog 68 #[.slice A bs.length c,tknV t,.bool last,.int .i64 (deep:Nat)] w (V12To w (.mk 6 0 ⟨#[]⟩ l) q):=by
 have HAR:=kf (fun W (hW:Chg NoS w W)=>(r12array_any bs A c last W (Src.below (w0:=w) hS hW) hl hc hb (deep+1) (by omega) H l t.to q hE ht).mono fun _ _ h=>h.f)
 rw [show((deep+1:Nat):Int)=(deep:Int)+1 from rfl] at HAR
 obtain⟨N,hN⟩:∃ N,N=bs.length:=⟨_,rfl⟩
 rw [<- hN] at HAR hl ⊢
 obtain⟨tk,tf,tt,tvk,tvn,tvs,ts⟩:=t
 simp only [] at hk HAR
 subst hk
 unfold tknV
 simp only []
 obtain⟨T6,hT6⟩:∃ T6,T6=sb tvs:=⟨_,rfl⟩
 obtain⟨T7,hT7⟩:∃ T7,T7=sb ts:=⟨_,rfl⟩
 rw [<- hT6,<- hT7]
 rw [show((2:Nat):Int)=2 from rfl]
 have e1:decide ((64:Int)<=deep)=false:=by simp;omega
 have e2:decide (64<=deep)=false:=by simp;omega
 have hd1:(deep:Int)+1<=64:=by omega
 clear hS hl hc hb H hE ht hN hT6 hT7 hd
 have HB5:=kf (((Blk.new w 67 #[.int .i64 2,.int .i64 (tf:Nat),.int .i64 (tt:Nat),.int .i64 (tvk:Nat),.int .i64 tvn,.string T6,.slice none 0 0,.string T7]).alloc (.cells #[.int .i64 0,.int .i64 0,.string ⟨#[]⟩,.slice none 0 0] 24)).alloc (.cells #[.int .i64 0,.int .i64 0,.string ⟨#[]⟩,.slice none 0 0] 24))
 have HB8:=kf ((Blk.new (w.alloc (.cells #[.int .i64 2,.int .i64 (tf:Nat),.int .i64 (tt:Nat),.int .i64 (tvk:Nat),.int .i64 tvn,.string T6,.slice none 0 0,.string T7] 67)) 24 #[.int .i64 0,.int .i64 0,.string ⟨#[]⟩,.slice none 0 0]).alloc (.cells #[.int .i64 0,.int .i64 0,.string ⟨#[]⟩,.slice none 0 0] 24))
 have HC4:=kf ((((Chg.refl NoS w).alloc (.cells #[.int .i64 2,.int .i64 (tf:Nat),.int .i64 (tt:Nat),.int .i64 (tvk:Nat),.int .i64 tvn,.string T6,.slice none 0 0,.string T7] 67)).alloc (.cells #[.int .i64 0,.int .i64 0,.string ⟨#[]⟩,.slice none 0 0] 24)).alloc (.cells #[.int .i64 0,.int .i64 0,.string ⟨#[]⟩,.slice none 0 0] 24))
 simp only [World.size_alloc] at HB8
 obtain⟨W4,hW4⟩:∃ W4,W4=(((w.alloc (.cells #[.int .i64 2,.int .i64 (tf:Nat),.int .i64 (tt:Nat),.int .i64 (tvk:Nat),.int .i64 tvn,.string T6,.slice none 0 0,.string T7] 67)).alloc (.cells #[.int .i64 0,.int .i64 0,.string ⟨#[]⟩,.slice none 0 0] 24)).alloc (.cells #[.int .i64 0,.int .i64 0,.string ⟨#[]⟩,.slice none 0 0] 24)):=⟨_,rfl⟩
 obtain⟨g8,hg8⟩:∃ g8,g8=w.heap.size+1:=⟨_,rfl⟩
 obtain⟨g5,hg5⟩:∃ g5,g5=w.heap.size:=⟨_,rfl⟩
 rw [<- hW4] at HB5 HB8 HC4
 rw [<- hg8] at HB8
 rw [<- hg5] at HB5
 have hge8:w.heap.size<=g8:=by omega
 have hlt8:=HB8.out.lt
 go_enter Tryz.func68,Tryz.ntmps68
 go_upto_region 2 with fail
 rw [<- hW4,<- hg8,<- hg5]
 clear hW4 hg8 hg5
 obtain⟨q0,q1,q2,q3,q4,q5,q6,q7,_,_,_,_,_,_,_,_⟩:=HB5.out.cl8
 go_wp2_with (go_at_call 106;refine(HAR.out _ HC4.out).mono ?_;rintro e w6 ⟨ek,en,es,eA,el,ec,rfl,hin,hc6⟩;have HI6:=kf hin;have HC6:=kf (HC4.out.trans hc6 (fun _ _ e=>e));have HB86:=kf (HB8.out.chg hc6 (fun e=>e));clear hin hc6;obtain⟨r0,r1,r2,r3,z0,z1,z2,z3⟩:=HB86.out.cl4)
 have HB9:=kf (HB86.out.four (.int .i64 ek) (.int .i64 en) (.string es) (.slice eA el ec))
 have HI9:=kf (HI6.out.turn (O':=fun i=>i<w.heap.size) (set4_own w6 g8 (fun i=>i<W4.heap.size) hlt8 (.int .i64 ek) (.int .i64 en) (.string es) (.slice eA el ec)) (fun i _ e=>by have:=HC4.out.size;omega))
 have HC9:=kf (HC6.out.four hge8 (.int .i64 ek) (.int .i64 en) (.string es) (.slice eA el ec))
 clear r0 r1 r2 r3 z0 z1 z2 z3
 obtain⟨r0,r1,r2,r3,_,_,_,_⟩:=HB9.out.cl4
 (try simp only [Exit.noGoto_ret])
 refine bodyPost_ret (v:=.tuple #[.agg #[.int .i64 ek,.int .i64 en,.string es,.slice eA el ec],.int .i64 (q:Nat),.int .i64 0]) (by simp [results,Tryz.results68,go_sem,r0,r1,r2,r3]) rfl ?_
 exact⟨⟨ek,en,es,eA,el,ec⟩,rfl,HI9.out,HC9.out⟩
theorem r12val_dict (bs:List Nat) (A:Option Addr) (c:Nat) (last:Bool) (w:World) (hS:Src w 1 A bs.length c (lcells bs)) (hl:bs.length<=400000) (hc:bs.length<=c) (hb:∀ x∈bs,x<256) (deep:Nat) (hd:deep<64) (H:RV12 bs A c last (deep+1)) (t:Tkn) (hk:t.kind=4) (l:List VT) (q:Nat) (hE:Names bs last (deep+1) t.to [] l q) (ht:t.to<=bs.length) :
  Calls Tryz.prog 68 #[.slice A bs.length c,tknV t,.bool last,.int .i64 (deep:Nat)] w (V12To w (.mk 7 0 ⟨#[]⟩ (dictT l)) q):=by
 have HAR:=kf (fun W (hW:Chg NoS w W)=>(r12dict_any bs A c last W (Src.below (w0:=w) hS hW) hl hc hb (deep+1) (by omega) H l t.to q hE ht).mono fun _ _ h=>h.f)
 rw [show((deep+1:Nat):Int)=(deep:Int)+1 from rfl] at HAR
 obtain⟨N,hN⟩:∃ N,N=bs.length:=⟨_,rfl⟩
 rw [<- hN] at HAR hl ⊢
 obtain⟨tk,tf,tt,tvk,tvn,tvs,ts⟩:=t
 simp only [] at hk HAR
 subst hk
 unfold tknV
 simp only []
 obtain⟨T6,hT6⟩:∃ T6,T6=sb tvs:=⟨_,rfl⟩
 obtain⟨T7,hT7⟩:∃ T7,T7=sb ts:=⟨_,rfl⟩
 rw [<- hT6,<- hT7]
 rw [show((4:Nat):Int)=4 from rfl]
 have e1:decide ((64:Int)<=deep)=false:=by simp;omega
 have e2:decide (64<=deep)=false:=by simp;omega
 have hd1:(deep:Int)+1<=64:=by omega
 clear hS hl hc hb H hE ht hN hT6 hT7 hd
 have HB5:=kf (((Blk.new w 67 #[.int .i64 4,.int .i64 (tf:Nat),.int .i64 (tt:Nat),.int .i64 (tvk:Nat),.int .i64 tvn,.string T6,.slice none 0 0,.string T7]).alloc (.cells #[.int .i64 0,.int .i64 0,.string ⟨#[]⟩,.slice none 0 0] 24)).alloc (.cells #[.int .i64 0,.int .i64 0,.string ⟨#[]⟩,.slice none 0 0] 24))
 have HB8:=kf ((Blk.new (w.alloc (.cells #[.int .i64 4,.int .i64 (tf:Nat),.int .i64 (tt:Nat),.int .i64 (tvk:Nat),.int .i64 tvn,.string T6,.slice none 0 0,.string T7] 67)) 24 #[.int .i64 0,.int .i64 0,.string ⟨#[]⟩,.slice none 0 0]).alloc (.cells #[.int .i64 0,.int .i64 0,.string ⟨#[]⟩,.slice none 0 0] 24))
 have HC4:=kf ((((Chg.refl NoS w).alloc (.cells #[.int .i64 4,.int .i64 (tf:Nat),.int .i64 (tt:Nat),.int .i64 (tvk:Nat),.int .i64 tvn,.string T6,.slice none 0 0,.string T7] 67)).alloc (.cells #[.int .i64 0,.int .i64 0,.string ⟨#[]⟩,.slice none 0 0] 24)).alloc (.cells #[.int .i64 0,.int .i64 0,.string ⟨#[]⟩,.slice none 0 0] 24))
 simp only [World.size_alloc] at HB8
 obtain⟨W4,hW4⟩:∃ W4,W4=(((w.alloc (.cells #[.int .i64 4,.int .i64 (tf:Nat),.int .i64 (tt:Nat),.int .i64 (tvk:Nat),.int .i64 tvn,.string T6,.slice none 0 0,.string T7] 67)).alloc (.cells #[.int .i64 0,.int .i64 0,.string ⟨#[]⟩,.slice none 0 0] 24)).alloc (.cells #[.int .i64 0,.int .i64 0,.string ⟨#[]⟩,.slice none 0 0] 24)):=⟨_,rfl⟩
 obtain⟨g8,hg8⟩:∃ g8,g8=w.heap.size+1:=⟨_,rfl⟩
 obtain⟨g5,hg5⟩:∃ g5,g5=w.heap.size:=⟨_,rfl⟩
 rw [<- hW4] at HB5 HB8 HC4
 rw [<- hg8] at HB8
 rw [<- hg5] at HB5
 have hge8:w.heap.size<=g8:=by omega
 have hlt8:=HB8.out.lt
 go_enter Tryz.func68,Tryz.ntmps68
 go_upto_region 2 with fail
 rw [<- hW4,<- hg8,<- hg5]
 clear hW4 hg8 hg5
 obtain⟨q0,q1,q2,q3,q4,q5,q6,q7,_,_,_,_,_,_,_,_⟩:=HB5.out.cl8
 go_wp2_with (go_at_call 107;refine(HAR.out _ HC4.out).mono ?_;rintro e w6 ⟨ek,en,es,eA,el,ec,rfl,hin,hc6⟩;have HI6:=kf hin;have HC6:=kf (HC4.out.trans hc6 (fun _ _ e=>e));have HB86:=kf (HB8.out.chg hc6 (fun e=>e));clear hin hc6;obtain⟨r0,r1,r2,r3,z0,z1,z2,z3⟩:=HB86.out.cl4)
 have HB9:=kf (HB86.out.four (.int .i64 ek) (.int .i64 en) (.string es) (.slice eA el ec))
 have HI9:=kf (HI6.out.turn (O':=fun i=>i<w.heap.size) (set4_own w6 g8 (fun i=>i<W4.heap.size) hlt8 (.int .i64 ek) (.int .i64 en) (.string es) (.slice eA el ec)) (fun i _ e=>by have:=HC4.out.size;omega))
 have HC9:=kf (HC6.out.four hge8 (.int .i64 ek) (.int .i64 en) (.string es) (.slice eA el ec))
 clear r0 r1 r2 r3 z0 z1 z2 z3
 obtain⟨r0,r1,r2,r3,_,_,_,_⟩:=HB9.out.cl4
 (try simp only [Exit.noGoto_ret])
 refine bodyPost_ret (v:=.tuple #[.agg #[.int .i64 ek,.int .i64 en,.string es,.slice eA el ec],.int .i64 (q:Nat),.int .i64 0]) (by simp [results,Tryz.results68,go_sem,r0,r1,r2,r3]) rfl ?_
 exact⟨⟨ek,en,es,eA,el,ec⟩,rfl,HI9.out,HC9.out⟩
theorem tok_six (last:Bool) (p c:Nat) (l:List Nat):(tokO last p c l).2.kind=6->(tokO last p c l).2.vk=0/\(tokO last p c l).2.vn=0/\(tokO last p c l).2.vs=[]:=by
 have key:∀ r,tokO last p c l=r->r.2.kind≠6\/(r.2.vk=0/\r.2.vn=0/\r.2.vs=[]):=by
  intro r hr
  unfold tokO at hr
  by_cases h0:c=91
  ·rw [if_pos h0] at hr
   subst hr;first|exact .inr ⟨rfl,rfl,rfl⟩|exact .inl (Nat.ne_of_beq_eq_false rfl)
  rw [if_neg h0] at hr
  by_cases h1:c=93
  ·rw [if_pos h1] at hr
   subst hr;first|exact .inr ⟨rfl,rfl,rfl⟩|exact .inl (Nat.ne_of_beq_eq_false rfl)
  rw [if_neg h1] at hr
  by_cases h2:c=60/\l.head?=some 60
  ·rw [if_pos h2] at hr
   subst hr;first|exact .inr ⟨rfl,rfl,rfl⟩|exact .inl (Nat.ne_of_beq_eq_false rfl)
  rw [if_neg h2] at hr
  by_cases h3:c=62/\l.head?=some 62
  ·rw [if_pos h3] at hr
   subst hr;first|exact .inr ⟨rfl,rfl,rfl⟩|exact .inl (Nat.ne_of_beq_eq_false rfl)
  rw [if_neg h3] at hr
  by_cases h4:c=62/\l=[]/\last=false
  ·rw [if_pos h4] at hr
   subst hr;first|exact .inr ⟨rfl,rfl,rfl⟩|exact .inl (Nat.ne_of_beq_eq_false rfl)
  rw [if_neg h4] at hr
  by_cases h5:c=60
  ·rw [if_pos h5] at hr
   by_cases g0:(hexO last [] (p+1) l).1≠0
   ·rw [if_pos g0] at hr;subst hr;first|exact .inr ⟨rfl,rfl,rfl⟩|exact .inl (Nat.ne_of_beq_eq_false rfl)
   rw [if_neg g0] at hr
   subst hr;first|exact .inr ⟨rfl,rfl,rfl⟩|exact .inl (Nat.ne_of_beq_eq_false rfl)
  rw [if_neg h5] at hr
  by_cases h6:c=40
  ·rw [if_pos h6] at hr
   by_cases g0:(txtO last 1 [] (p+1) l).1≠0
   ·rw [if_pos g0] at hr;subst hr;first|exact .inr ⟨rfl,rfl,rfl⟩|exact .inl (Nat.ne_of_beq_eq_false rfl)
   rw [if_neg g0] at hr
   subst hr;first|exact .inr ⟨rfl,rfl,rfl⟩|exact .inl (Nat.ne_of_beq_eq_false rfl)
  rw [if_neg h6] at hr
  by_cases h7:c=47
  ·rw [if_pos h7] at hr
   by_cases g0:rgs l=l.length/\last=false
   ·rw [if_pos g0] at hr;subst hr;first|exact .inr ⟨rfl,rfl,rfl⟩|exact .inl (Nat.ne_of_beq_eq_false rfl)
   rw [if_neg g0] at hr
   by_cases g1:(nameO (l.take (rgs l))).1≠0
   ·rw [if_pos g1] at hr;subst hr;first|exact .inr ⟨rfl,rfl,rfl⟩|exact .inl (Nat.ne_of_beq_eq_false rfl)
   rw [if_neg g1] at hr
   subst hr;first|exact .inr ⟨rfl,rfl,rfl⟩|exact .inl (Nat.ne_of_beq_eq_false rfl)
  rw [if_neg h7] at hr
  by_cases h8:isDl c=true
  ·rw [if_pos h8] at hr
   subst hr;first|exact .inr ⟨rfl,rfl,rfl⟩|exact .inl (Nat.ne_of_beq_eq_false rfl)
  rw [if_neg h8] at hr
  by_cases h9:rgs l=l.length/\last=false
  ·rw [if_pos h9] at hr
   subst hr;first|exact .inr ⟨rfl,rfl,rfl⟩|exact .inl (Nat.ne_of_beq_eq_false rfl)
  rw [if_neg h9] at hr
  by_cases h10:isNm c=true
  ·rw [if_pos h10] at hr
   by_cases g0:(numOf ((c::l).take (rgs l+1))).1≠0
   ·rw [if_pos g0] at hr;subst hr;first|exact .inr ⟨rfl,rfl,rfl⟩|exact .inl (Nat.ne_of_beq_eq_false rfl)
   rw [if_neg g0] at hr
   subst hr;first|exact .inr ⟨rfl,rfl,rfl⟩|exact .inl (Nat.ne_of_beq_eq_false rfl)
  rw [if_neg h10] at hr
  subst hr;first|exact .inr ⟨rfl,rfl,rfl⟩|exact .inl (Nat.ne_of_beq_eq_false rfl)
 exact fun h=>(key _ rfl).resolve_left (fun e=>e h)
theorem next_six (bs:List Nat) (p:Nat) (last:Bool) (h:(nextO bs p last).2.kind=6):(nextO bs p last).2.vk=0/\(nextO bs p last).2.vn=0/\(nextO bs p last).2.vs=[]:=by
 unfold nextO at h ⊢
 split at h
 ·cases h
 ·exact tok_six _ _ _ _ h
theorem rv12_step (bs:List Nat) (A:Option Addr) (c:Nat) (last:Bool) (hl:bs.length<=400000) (hc:bs.length<=c) (hb:∀ x∈bs,x<256) (deep:Nat) (hd:deep<64) (H:RV12 bs A c last (deep+1)):RV12 bs A c last deep:=by
 intro t v q p w hv hp hn hS
 have hto:=next_lt hp hn (fun e=>by have:=reads_kind hv;omega)
 cases hv with
 |leaf hk _ h =>
  unfold leafO at h
  rcases hk with hk|hk
  ·rw [if_pos hk] at h
   have h6:=next_six bs p last (by rw [hn];exact hk)
   rw [hn] at h6
   simp only [] at h6
   have e1:(wordO t.s).1=0:=congrArg Prod.fst h
   have e2:(wordO t.s).2=v:=congrArg (fun x=>x.2.1) h
   have e3:t.to=q:=congrArg (fun x=>x.2.2) h
   subst e3
   unfold wordO at e1 e2
   by_cases n1:sb t.s=⟨#[110,117,108,108]⟩
   ·rw [if_pos n1] at e2
    rw [<- e2]
    exact r12val_null bs A c last w hl t deep hd hk h6.1 h6.2.1 h6.2.2 n1
   ·rw [if_neg n1] at e1 e2
    by_cases n2:sb t.s=⟨#[102,97,108,115,101]⟩
    ·rw [if_pos n2] at e2
     rw [<- e2]
     exact r12val_false bs A c last w hl t deep hd hk h6.1 h6.2.1 h6.2.2 n2
    ·rw [if_neg n2] at e1 e2
     by_cases n3:sb t.s=⟨#[116,114,117,101]⟩
     ·rw [if_pos n3] at e2
      rw [<- e2]
      exact r12val_true bs A c last w hl t deep hd hk h6.1 h6.2.1 h6.2.2 n3
     ·rw [if_neg n3] at e1
      cases e1
  ·rw [if_neg (by rw [hk];decide)] at h
   have htv:=next_val bs p last hb (by rw [hn]) (by rw [hn];exact hk)
   rw [hn] at htv
   simp only [] at htv
   by_cases h2:t.vk=2
   ·have h3:=r12val_num bs A c last w hS hl hc hb t deep hd hk h2 htv hto.2 (by rw [h])
    rw [h] at h3
    exact h3
   ·unfold refO at h
    rw [if_pos h2] at h
    have e2:tokV t=v:=congrArg (fun x=>x.2.1) h
    have e3:t.to=q:=congrArg (fun x=>x.2.2) h
    subst e2 e3
    exact r12val_tok bs A c last w hl t deep hd hk h2 htv
 |arr hk _ h=>exact r12val_arr bs A c last w hS hl hc hb deep hd H t hk _ q h hto.2
 |dict hk _ h=>exact r12val_dict bs A c last w hS hl hc hb deep hd H t hk _ q h hto.2
theorem rv12_all (bs:List Nat) (A:Option Addr) (c:Nat) (last:Bool) (hl:bs.length<=400000) (hc:bs.length<=c) (hb:∀ x∈bs,x<256):∀ (m deep:Nat),m+deep=64->RV12 bs A c last deep
 |0,deep,h=>fun t v q p w hv _ _ _=>by have:=reads_deep hv;omega
 |m+1,deep,h=>rv12_step bs A c last hl hc hb deep (by omega) (rv12_all bs A c last hl hc hb m (deep+1) (by omega))
theorem r12Value_any (bs:List Nat) (A:Option Addr) (c:Nat) (last:Bool) (w:World) (hS:Src w 1 A bs.length c (lcells bs)) (hl:bs.length<=400000) (hc:bs.length<=c) (hb:∀ x∈bs,x<256) (t:Tkn) (v:VT) (p q:Nat) (hp:p<=bs.length) (hn:nextO bs p last=(0,t)) (hv:Reads bs last 0 t v q) :
  Calls Tryz.prog 36 #[.slice A bs.length c,.int .i64 (p:Nat),.bool last] w (V12To w v q):=by
 have HNT:=kf (fun W (hW:Chg NoS w W)=>next_at12 hS hW hl hc hb hp hn)
 have HVT:=kf (fun W (hW:Chg NoS w W)=>(rv12_all bs A c last hl hc hb 64 0 rfl t v q p W hv hp hn (Src.below (w0:=w) hS hW)).mono fun _ _ h=>h.f)
 obtain⟨N,hN⟩:∃ N,N=bs.length:=⟨_,rfl⟩
 rw [<- hN] at HNT HVT ⊢
 obtain⟨tk,tf,tt,tvk,tvn,tvs,ts⟩:=t
 unfold tknV at HNT HVT
 simp only [] at HNT HVT
 obtain⟨T6,hT6⟩:∃ T6,T6=sb tvs:=⟨_,rfl⟩
 obtain⟨T7,hT7⟩:∃ T7,T7=sb ts:=⟨_,rfl⟩
 rw [<- hT6,<- hT7] at HNT HVT
 rw [show((0:Nat):Int)=0 from rfl] at HVT
 have HB6:=kf (Blk.new w 24 #[.int .i64 0,.int .i64 0,.string ⟨#[]⟩,.slice none 0 0])
 have HC6:=kf ((Chg.refl NoS w).alloc (.cells #[.int .i64 0,.int .i64 0,.string ⟨#[]⟩,.slice none 0 0] 24))
 obtain⟨w6,hw6⟩:∃ w6,w6=w.alloc (.cells #[.int .i64 0,.int .i64 0,.string ⟨#[]⟩,.slice none 0 0] 24):=⟨_,rfl⟩
 obtain⟨g6,hg6⟩:∃ g6,g6=w.heap.size:=⟨_,rfl⟩
 have hge6:w.heap.size<=g6:=by omega
 rw [<- hw6] at HB6 HC6
 rw [<- hg6] at HB6
 have hlt6:=HB6.out.lt
 clear hS hl hc hb hp hn hv hN hT6 hT7
 go_enter Tryz.func36,Tryz.ntmps36
 go_upto_region 1 with fail
 rw [<- hw6,<- hg6]
 clear hw6 hg6
 go_upto_region 2 with(go_at_call 37;refine(HNT.out _ HC6.out).mono ?_;rintro e w3 ⟨rfl,hc3⟩;have HC3:=kf hc3;clear hc3)
 have HB9:=kf (Blk.new w3 67 #[.int .i64 (tk:Nat),.int .i64 (tf:Nat),.int .i64 (tt:Nat),.int .i64 (tvk:Nat),.int .i64 tvn,.string T6,.slice none 0 0,.string T7])
 have HC4:=kf (HC3.out.alloc (.cells #[.int .i64 (tk:Nat),.int .i64 (tf:Nat),.int .i64 (tt:Nat),.int .i64 (tvk:Nat),.int .i64 tvn,.string T6,.slice none 0 0,.string T7] 67))
 obtain⟨W4,hW4⟩:∃ W4,W4=w3.alloc (.cells #[.int .i64 (tk:Nat),.int .i64 (tf:Nat),.int .i64 (tt:Nat),.int .i64 (tvk:Nat),.int .i64 tvn,.string T6,.slice none 0 0,.string T7] 67):=⟨_,rfl⟩
 obtain⟨g9,hg9⟩:∃ g9,g9=w3.heap.size:=⟨_,rfl⟩
 rw [<- hW4] at HB9 HC4 ⊢
 rw [<- hg9] at HB9 ⊢
 clear hW4 hg9
 obtain⟨q0,q1,q2,q3,q4,q5,q6,q7,_,_,_,_,_,_,_,_⟩:=HB9.out.cl8
 go_wp2_with (go_at_call 68;refine(HVT.out _ (HC6.out.trans HC4.out (fun _ _ e=>e))).mono ?_;rintro e w5 ⟨ek,en,es,eA,el,ec,rfl,hin,hc5⟩;have HI5:=kf hin;have HC5:=kf (HC4.out.trans hc5 (fun _ _ e=>e));have HB65:=kf (HB6.out.chg HC5.out (fun e=>e));clear hin hc5;obtain⟨r0,r1,r2,r3,z0,z1,z2,z3⟩:=HB65.out.cl4)
 have hle4:=HC4.out.size
 have HB7:=kf (HB65.out.four (.int .i64 ek) (.int .i64 en) (.string es) (.slice eA el ec))
 have HI7:=kf (HI5.out.turn (O':=fun i=>i<w.heap.size) (set4_own w5 g6 (fun i=>i<W4.heap.size) (by omega) (.int .i64 ek) (.int .i64 en) (.string es) (.slice eA el ec)) (fun i _ e=>by have:=HC6.out.size;omega))
 have HC7:=kf ((HC6.out.trans HC5.out (fun _ _ e=>e)).four hge6 (.int .i64 ek) (.int .i64 en) (.string es) (.slice eA el ec))
 clear r0 r1 r2 r3 z0 z1 z2 z3
 obtain⟨r0,r1,r2,r3,_,_,_,_⟩:=HB7.out.cl4
 (try simp only [Exit.noGoto_ret])
 refine bodyPost_ret (v:=.tuple #[.agg #[.int .i64 ek,.int .i64 en,.string es,.slice eA el ec],.int .i64 (q:Nat),.int .i64 0]) (by simp [results,Tryz.results36,go_sem,r0,r1,r2,r3]) rfl ?_
 exact⟨⟨ek,en,es,eA,el,ec⟩,rfl,HI7.out,HC7.out⟩
theorem r12Whole_any (bs:List Nat) (A:Option Addr) (c:Nat) (w:World) (hS:Src w 1 A bs.length c (lcells bs)) (hl:bs.length<=400000) (hc:bs.length<=c) (hb:∀ x∈bs,x<256) (t:Tkn) (v:VT) (hn:nextO bs 0 true=(0,t)) (hv:Reads bs true 0 t v bs.length) (hend:nextO bs bs.length true=(0,noT bs.length)) :
  Calls Tryz.prog 17 #[.slice A bs.length c] w fun e w'=>∃ u:VC,e=.returned (.tuple #[u.val,.int .i64 0])/\ValIs w' v u/\Chg NoS w w':=by
 have HVT:=kf (fun W (hW:Chg NoS w W)=>(r12Value_any bs A c true W (Src.below (w0:=w) hS hW) hl hc hb t v 0 bs.length (Nat.zero_le _) hn hv).mono fun _ _ h=>h.f)
 have HNT:=kf (fun W (hW:Chg NoS w W)=>next_at12 hS hW hl hc hb (Nat.le_refl _) hend)
 obtain⟨N,hN⟩:∃ N,N=bs.length:=⟨_,rfl⟩
 rw [<- hN] at HNT HVT ⊢
 unfold tknV noT at HNT
 simp only [] at HNT
 rw [show((0:Nat):Int)=0 from rfl] at HVT HNT
 have HB2:=kf (Blk.new w 24 #[.int .i64 0,.int .i64 0,.string ⟨#[]⟩,.slice none 0 0])
 have HC2:=kf ((Chg.refl NoS w).alloc (.cells #[.int .i64 0,.int .i64 0,.string ⟨#[]⟩,.slice none 0 0] 24))
 obtain⟨w2,hw2⟩:∃ w2,w2=w.alloc (.cells #[.int .i64 0,.int .i64 0,.string ⟨#[]⟩,.slice none 0 0] 24):=⟨_,rfl⟩
 obtain⟨g2,hg2⟩:∃ g2,g2=w.heap.size:=⟨_,rfl⟩
 have hge2:w.heap.size<=g2:=by omega
 rw [<- hw2] at HB2 HC2
 rw [<- hg2] at HB2
 have hlt2:=HB2.out.lt
 clear hS hl hc hb hn hv hend hN
 go_enter Tryz.func17,Tryz.ntmps17
 go_upto_region 1 with fail
 rw [<- hw2,<- hg2]
 clear hw2 hg2
 go_upto_region 2 with(go_at_call 36;refine(HVT.out _ HC2.out).mono ?_;rintro e w3 ⟨ek,en,es,eA,el,ec,rfl,hin,hc3⟩;have HI3:=kf hin;have HC3:=kf hc3;clear hin hc3)
 have HB4:=kf (Blk.new w3 24 #[.int .i64 ek,.int .i64 en,.string es,.slice eA el ec])
 have HC4:=kf (HC3.out.alloc (.cells #[.int .i64 ek,.int .i64 en,.string es,.slice eA el ec] 24))
 have HI4:=kf (HI3.out.chg ((Chg.refl NoS w3).alloc (.cells #[.int .i64 ek,.int .i64 en,.string es,.slice eA el ec] 24)))
 obtain⟨W4,hW4⟩:∃ W4,W4=w3.alloc (.cells #[.int .i64 ek,.int .i64 en,.string es,.slice eA el ec] 24):=⟨_,rfl⟩
 obtain⟨g4,hg4⟩:∃ g4,g4=w3.heap.size:=⟨_,rfl⟩
 rw [<- hW4] at HB4 HC4 HI4 ⊢
 rw [<- hg4] at HB4 ⊢
 clear hW4 hg4
 go_upto_region 5 with(go_at_call 37;refine(HNT.out _ (HC2.out.trans HC4.out (fun _ _ e=>e))).mono ?_;rintro e w5 ⟨rfl,hc5⟩;have HC5:=kf hc5;clear hc5)
 have HB7:=kf (Blk.new w5 67 #[.int .i64 0,.int .i64 (N:Nat),.int .i64 (N:Nat),.int .i64 0,.int .i64 0,.string (sb []),.slice none 0 0,.string (sb [])])
 have HC7:=kf (HC5.out.alloc (.cells #[.int .i64 0,.int .i64 (N:Nat),.int .i64 (N:Nat),.int .i64 0,.int .i64 0,.string (sb []),.slice none 0 0,.string (sb [])] 67))
 obtain⟨W6,hW6⟩:∃ W6,W6=w5.alloc (.cells #[.int .i64 0,.int .i64 (N:Nat),.int .i64 (N:Nat),.int .i64 0,.int .i64 0,.string (sb []),.slice none 0 0,.string (sb [])] 67):=⟨_,rfl⟩
 obtain⟨g7,hg7⟩:∃ g7,g7=w5.heap.size:=⟨_,rfl⟩
 have HC6:=kf (HC4.out.trans HC7.out (fun _ _ e=>e))
 have HB26:=kf (HB2.out.chg HC6.out (fun e=>e))
 have HB46:=kf (HB4.out.chg HC7.out (fun e=>e))
 have HI6:=kf (HI4.out.chg HC7.out)
 have hle:=HC6.out.size
 rw [<- hW6] at HB7 HC6 HB26 HB46 HI6 hle ⊢
 rw [<- hg7] at HB7 ⊢
 clear hW6 hg7
 obtain⟨q0,q1,q2,q3,q4,q5,q6,q7,_,_,_,_,_,_,_,_⟩:=HB7.out.cl8
 obtain⟨p0,p1,p2,p3,_,_,_,_⟩:=HB46.out.cl4
 obtain⟨r0,r1,r2,r3,z0,z1,z2,z3⟩:=HB26.out.cl4
 go_wp2_with fail
 have HB9:=kf (HB26.out.four (.int .i64 ek) (.int .i64 en) (.string es) (.slice eA el ec))
 have HI9:=kf (HI6.out.turn (O':=fun i=>i<w2.heap.size) (set4_own W6 g2 (fun i=>i<w2.heap.size) hlt2 (.int .i64 ek) (.int .i64 en) (.string es) (.slice eA el ec)) (fun i _ e=>e))
 have HC9:=kf ((HC2.out.trans HC6.out (fun _ _ e=>e)).four hge2 (.int .i64 ek) (.int .i64 en) (.string es) (.slice eA el ec))
 clear r0 r1 r2 r3 z0 z1 z2 z3
 obtain⟨r0,r1,r2,r3,_,_,_,_⟩:=HB9.out.cl4
 (try simp only [Exit.noGoto_ret])
 refine bodyPost_ret (v:=.tuple #[.agg #[.int .i64 ek,.int .i64 en,.string es,.slice eA el ec],.int .i64 0]) (by simp [results,Tryz.results17,go_sem,r0,r1,r2,r3]) rfl ?_
 exact⟨⟨ek,en,es,eA,el,ec⟩,rfl,HI9.out.now,HC9.out⟩
theorem conv_src13 (W:World) (l:List Nat) (hl:∀ d∈l,d<256):∃ cp W2,(convert 9 39 (.string (sb l))).run Tryz.prog W=.ok (.slice (some ⟨W.heap.size,0,none⟩) l.length cp) W2/\Chg NoS W W2/\Src W2 1 (some ⟨W.heap.size,0,none⟩) l.length cp (lcells l)/\l.length<=cp:=by
 refine⟨grownCap W (sb l).size 0 5,Lib.bytesWorld W 5 (sb l),?_,?_,?_,?_⟩
 ·have h:=Lib.run_convert_string_bytes (P:=Tryz.prog) W 9 39 5 (sb l) Tryz.underlying9 Tryz.underlying39 Tryz.underlying5
  rw [show Value.slice (some ⟨W.heap.size,0,none⟩) l.length (grownCap W (sb l).size 0 5)=Value.slice (some ⟨W.heap.size,0,none⟩) (sb l).size (grownCap W (sb l).size 0 5) from by rw [sb_size]]
  exact h
 ·unfold Lib.bytesWorld
  exact(((Chg.refl NoS W).drew).alloc _).freezeP (p:=⟨W.heap.size,_,none⟩) (Nat.le_refl _) 1
 ·refine⟨by rw [lcells_len];omega,fun e=>(by cases e),fun ad ha j u hj=>?_⟩
  cases ha
  have hjl:j<l.length:=by
   have:=(List.getElem?_eq_some_iff.1 hj).1
   rwa [lcells_len] at this
  have hadd:(⟨W.heap.size,0,none⟩:Addr).add j=⟨W.heap.size,j,none⟩:=by unfold Addr.add;split<;>simp_all
  rw [hadd,Lib.bytesWorld_cell W 5 (sb l) j (by rw [sb_size];exact hjl)]
  have h1:j<(sb l).data.toList.length:=by rw [Array.length_toList];show j<(sb l).size;rw [sb_size];exact hjl
  have e1:((sb l).data.toList.getD j 0).toNat=(sl (sb l)).getD j 0:=by
   rw [List.getD_eq_getElem?_getD,List.getD_eq_getElem?_getD,sl,List.getElem?_map,List.getElem?_eq_getElem h1]
   rfl
  rw [sl_sb l hl] at e1
  have e2:=lcells_at (bs:=l) (k:=j) (x:=l.getD j 0) (by rw [List.getD_eq_getElem?_getD,List.getElem?_eq_getElem hjl];rfl)
  rw [hj] at e2
  rw [e2,e1]
 ·have h:=grownCap_ge W (sb l).size 0 5
  rw [sb_size] at h ⊢
  exact h
def BkTo (w:World) (t:VT) (e:Ending) (w':World):Prop:=∃ (ek en:Int) (es:ByteArray) (eA:Option Addr) (el ec:Nat),e=.returned (.tuple #[.agg #[.int .i64 ek,.int .i64 en,.string es,.slice eA el ec],.int .i64 0])/\ValIs w' t ⟨ek,en,es,eA,el,ec⟩/\Chg NoS w w'
theorem bk_of {w:World} {t:VT} {e:Ending} {w':World} (h:∃ u:VC,e=.returned (.tuple #[u.val,.int .i64 0])/\ValIs w' t u/\Chg NoS w w'):BkTo w t e w':=by
 obtain⟨⟨ek,en,es,eA,el,ec⟩,h1,h2,h3⟩:=h
 exact⟨ek,en,es,eA,el,ec,h1,h2,h3⟩
theorem showBackW (t:VT) (c:VC) (w:World) (hv:ValIs w t c) (hL:LibOk w) :
  Calls Tryz.prog 5 #[c.val] w fun e w'=>e=.returned (.bool true)/\Chg NoS w w':=by
 have HS:=kf (fun W (h:Chg NoS w W)=>small13_any t c W (hv.chg h))
 have HW:=kf (fun W (h:Chg NoS w W)=>works_any13 W (hL.chg h))
 obtain⟨b,hb⟩:∃ b,smallB t=b:=⟨_,rfl⟩
 rw [hb] at HS
 have hf3:smallB t=true->checkT t=0->(formT t).length<=300000:=fun hs hc=>by
  obtain⟨h1,h2⟩:=smallB_true hs
  have:=form_len _ t (Nat.le_refl _) (first_of hc) h2
  omega
 have HSH:=kf (fun(hs:smallB t=true) W (h:Chg NoS w W)=>show_any t c W (hL.chg h) (hv.chg h) (by have:=(smallB_true hs).1;omega) (fun hc=>by have:=hf3 hs hc;omega))
 have HSM:=kf (fun(c':VC) W (h:Chg NoS w W) (hv':ValIs W t c')=>(show Calls Tryz.prog 18 #[c'.val,c.val] W fun e w'=>e=.returned (.bool true)/\Chg NoS W w' from by
  have h1:=rsame11_any t t c' c W hv' (hv.chg h)
  rw [decide_eq_true (cmpT_self t)] at h1
  exact h1))
 have HCT:=kf (rfl:checkT t=checkT t)
 obtain⟨z,hz⟩:∃ z,z=checkT t:=⟨_,rfl⟩
 have hsh:showO t=if z=0 then formT t else []:=by rw [hz];rfl
 rw [hsh,<- hz] at HSH
 have HF3:=kf hf3
 have HZ:=kf hz
 obtain⟨k,n,s,A,len,cap⟩:=c
 unfold VC.val at HS HSH ⊢
 simp only [] at HS HSH ⊢
 have HB:=kf (Blk.new w 24 #[.int .i64 k,.int .i64 n,.string s,.slice A len cap])
 have HC0:=kf ((Chg.refl NoS w).alloc (.cells #[.int .i64 k,.int .i64 n,.string s,.slice A len cap] 24))
 obtain⟨W1,hW1⟩:∃ W1,W1=w.alloc (.cells #[.int .i64 k,.int .i64 n,.string s,.slice A len cap] 24):=⟨_,rfl⟩
 obtain⟨g,hg⟩:∃ g,g=w.heap.size:=⟨_,rfl⟩
 rw [<- hW1] at HB HC0
 rw [<- hg] at HB
 have HV:=kf (⟨HB.out,HC0.out⟩:VBx w g #[.int .i64 k,.int .i64 n,.string s,.slice A len cap] W1)
 clear hv hL hz HB HC0 hf3 hsh HCT
 cases b with
 |false =>
  clear HSH HSM hb
  go_enter Tryz.func5,Tryz.ntmps5
  go_upto_region 1 with fail
  rw [<- hg,<- hW1]
  clear hg hW1
  obtain⟨q0,q1,q2,q3⟩:=HV.out.cells
  go_wp2_with first
   |(go_at_call 7;refine(HS.out _ HV.out.chg).mono ?_;rintro e w2 ⟨rfl,h2⟩;have HV2:=kf (HV.out.call h2);clear h2)
   |(go_at_call 8;refine(HW.out _ HV2.out.chg).mono ?_;rintro e w3 ⟨rfl,h3⟩;have HV3:=kf (HV2.out.call h3);clear h3)
  go_ret
  exact⟨rfl,HV3.out.chg⟩
 |true =>
  have HS1:=kf (HSH.out hb)
  by_cases h0:z=0
  ·subst h0
   have hlen:=HF3.out hb HZ.out.symm
   rw [if_pos rfl] at HS1
   obtain⟨hb1,hb2,u,hb3,hb4⟩:=form_back HZ.out.symm
   have HB1:=kf hb1
   have hwf:=whole_form HZ.out.symm
   have HQW:=kf (fun(X:Option Addr) (cp:Nat) W (hS:Src W 1 X (formT t).length cp (lcells (formT t))) (hcp:(formT t).length<=cp)=>(qwho_any (formT t) X cp W hS (by omega) hcp (form_lt t)).mono fun e w' h=>(show BkTo W t e w' from by
    unfold WhTo at h
    rw [hwf] at h
    obtain⟨u,h1,h2,h3⟩:=h
    exact bk_of ⟨u,h1,h2.now,h3⟩))
   have HRW:=kf (fun(X:Option Addr) (cp:Nat) W (hS:Src W 1 X (formT t).length cp (lcells (formT t))) (hcp:(formT t).length<=cp)=>(r12Whole_any (formT t) X cp W hS (by omega) hcp (form_lt t) u t hb3 hb4 hb2).mono fun e w' h=>bk_of h)
   have HCV:=kf (fun W=>conv_src13 W (formT t) (form_lt t))
   obtain⟨S,hS⟩:∃ S,S=sb (formT t):=⟨_,rfl⟩
   obtain⟨N,hN⟩:∃ N,N=(formT t).length:=⟨_,rfl⟩
   rw [<- hS] at HS1 HCV
   rw [<- hN] at HQW HRW HCV
   clear HSH hb hlen hb1 hb2 hb3 hb4 hS hN hwf
   go_enter Tryz.func5,Tryz.ntmps5
   go_upto_region 1 with fail
   rw [<- hg,<- hW1]
   clear hg hW1
   obtain⟨q0,q1,q2,q3⟩:=HV.out.cells
   go_upto_region 3 with(go_at_call 7;refine(HS.out _ HV.out.chg).mono ?_;rintro e w2 ⟨rfl,h2⟩;have HV2:=kf (HV.out.call h2);clear h2)
   clear q0 q1 q2 q3
   obtain⟨q0,q1,q2,q3⟩:=HV2.out.cells
   go_upto_region 6 with(go_at_call 9;refine(HS1.out _ HV2.out.chg).mono ?_;rintro e w3 ⟨rfl,h3⟩;have HV3:=kf (HV2.out.call h3);clear h3)
   clear q0 q1 q2 q3
   obtain⟨cp,W4,hcv,hc4,hS4,hcp⟩:=HCV.out w3
   have HV4:=kf (HV3.out.call hc4)
   have HQ4:=kf (HQW.out _ cp W4 hS4 hcp)
   clear hc4 hS4
   go_upto_region 7 with(go_at_call 16;refine HQ4.out.mono ?_;rintro e w5 ⟨ek,en,es,eA,el,ec,rfl,hx5,hc5⟩;have HX5:=kf hx5;have HV5:=kf (HV4.out.call hc5);clear hx5 hc5)
   have HB5:=kf (Blk.new w5 24 #[.int .i64 ek,.int .i64 en,.string es,.slice eA el ec])
   have HV6:=kf (HV5.out.call ((Chg.refl NoS w5).alloc (.cells #[.int .i64 ek,.int .i64 en,.string es,.slice eA el ec] 24)))
   have HX6:=kf (HX5.out.chg ((Chg.refl NoS w5).alloc (.cells #[.int .i64 ek,.int .i64 en,.string es,.slice eA el ec] 24)))
   obtain⟨W6,hW6⟩:∃ W6,W6=w5.alloc (.cells #[.int .i64 ek,.int .i64 en,.string es,.slice eA el ec] 24):=⟨_,rfl⟩
   obtain⟨g5,hg5⟩:∃ g5,g5=w5.heap.size:=⟨_,rfl⟩
   rw [<- hW6] at HB5 HV6 HX6 ⊢
   rw [<- hg5] at HB5 ⊢
   clear hW6 hg5 hcv hcp
   obtain⟨cp,W7,hcv,hc7,hS7,hcp⟩:=HCV.out W6
   have HV7:=kf (HV6.out.call hc7)
   have HX7:=kf (HX6.out.chg hc7)
   have HB7:=kf (HB5.out.chg hc7 (fun e=>e))
   have HR7:=kf (HRW.out _ cp W7 hS7 hcp)
   clear hc7 hS7
   go_upto_region 8 with(go_at_call 17;refine HR7.out.mono ?_;rintro e w8 ⟨fk,fn,fs,fA,fl,fc,rfl,hx8,hc8⟩;have HY8:=kf hx8;have HV8:=kf (HV7.out.call hc8);have HX8:=kf (HX7.out.chg hc8);have HB8:=kf (HB7.out.chg hc8 (fun e=>e));clear hx8 hc8)
   have HA:=kf ((Chg.refl NoS w8).alloc (.cells #[.int .i64 fk,.int .i64 fn,.string fs,.slice fA fl fc] 24))
   have HB9y:=kf (Blk.new w8 24 #[.int .i64 fk,.int .i64 fn,.string fs,.slice fA fl fc])
   have HB9:=kf (HB8.out.chg HA.out (fun e=>e))
   have HV9:=kf (HV8.out.call HA.out)
   have HX9:=kf (HX8.out.chg HA.out)
   have HY9:=kf (HY8.out.chg HA.out)
   obtain⟨W9,hW9⟩:∃ W9,W9=w8.alloc (.cells #[.int .i64 fk,.int .i64 fn,.string fs,.slice fA fl fc] 24):=⟨_,rfl⟩
   obtain⟨g7,hg7⟩:∃ g7,g7=w8.heap.size:=⟨_,rfl⟩
   rw [<- hW9] at HB9 HB9y HV9 HX9 HY9 ⊢
   rw [<- hg7] at HB9y ⊢
   clear hW9 hg7 hcv hcp HA
   have HSX:=kf (fun W (h:Chg NoS W9 W)=>HSM.out ⟨ek,en,es,eA,el,ec⟩ W (HV9.out.chg.trans h (fun _ _ e=>e)) (HX9.out.chg h))
   have HSY:=kf (fun W (h:Chg NoS W9 W)=>HSM.out ⟨fk,fn,fs,fA,fl,fc⟩ W (HV9.out.chg.trans h (fun _ _ e=>e)) (HY9.out.chg h))
   unfold VC.val at HSX HSY
   simp only [] at HSX HSY
   clear HSM
   obtain⟨q0,q1,q2,q3⟩:=HV9.out.cells
   obtain⟨p0,p1,p2,p3,_,_,_,_⟩:=HB9.out.cl4
   obtain⟨r0,r1,r2,r3,_,_,_,_⟩:=HB9y.out.cl4
   go_wp2_with first
    |(have hx:=HC10.out;go_at_call 18;with_reducible refine(HSY.out _ hx).mono ?_;rintro e w11 ⟨rfl,h11⟩;have HV11:=kf (HV10.out.call h11);clear h11 hx)
    |(go_at_call 18;refine(HSX.out _ (Chg.refl NoS W9)).mono ?_;rintro e w10 ⟨rfl,h10⟩;have HC10:=kf h10;have HV10:=kf (HV9.out.call h10);have hb10:=HB9y.out.chg h10 (fun e=>e);clear q0 q1 q2 q3 p0 p1 p2 p3 r0 r1 r2 r3;obtain⟨q0,q1,q2,q3⟩:=HV10.out.cells;obtain⟨r0,r1,r2,r3,_,_,_,_⟩:=hb10.cl4;clear h10 hb10)
    |(go_at_call 8;refine(HW.out _ HV11.out.chg).mono ?_;rintro e w12 ⟨rfl,h12⟩;have HV12:=kf (HV11.out.call h12);clear h12)
   go_ret
   exact⟨rfl,HV12.out.chg⟩
  ·have e0:(z==0)=false:=by simpa using h0
   have e1:(z != 0)=true:=by simpa using h0
   rw [if_neg h0,show sb []=⟨#[]⟩ from rfl] at HS1
   clear HSH hb h0 HSM
   go_enter Tryz.func5,Tryz.ntmps5
   go_upto_region 1 with fail
   rw [<- hg,<- hW1]
   clear hg hW1
   obtain⟨q0,q1,q2,q3⟩:=HV.out.cells
   go_upto_region 3 with(go_at_call 7;refine(HS.out _ HV.out.chg).mono ?_;rintro e w2 ⟨rfl,h2⟩;have HV2:=kf (HV.out.call h2);clear h2)
   clear q0 q1 q2 q3
   obtain⟨q0,q1,q2,q3⟩:=HV2.out.cells
   go_wp2_with first
    |(go_at_call 9;refine(HS1.out _ HV2.out.chg).mono ?_;rintro e w3 ⟨rfl,h3⟩;have HV3:=kf (HV2.out.call h3);clear h3)
    |(go_at_call 8;refine(HW.out _ HV3.out.chg).mono ?_;rintro e w9 ⟨rfl,h9⟩;have HV9:=kf (HV3.out.call h9);clear h9)
   go_ret
   exact⟨rfl,HV9.out.chg⟩
end Go.Proofs.YtcehpobjnbgpdaaGreatDoor
