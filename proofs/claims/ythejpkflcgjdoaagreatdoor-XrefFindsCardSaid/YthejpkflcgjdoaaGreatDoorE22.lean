/- Merged by program. -/
import Derived.Test.YthejpkflcgjdoaaGreatDoorE20
import Derived.Test.YthejpkflcgjdoaaGreatDoorE21
set_option linter.unusedVariables false
set_option linter.unusedSimpArgs false
namespace Go.Proofs.YthejpkflcgjdoaaGreatDoor
open Go.RowKit
def ItsTo (w:World) (R:Int × VT × Nat) (e:Ending) (w':World):Prop:=e=.returned (.tuple #[.agg #[.int .i64 R.2.1.kind,.int .i64 R.2.1.num,.string R.2.1.str,.slice none 0 0],.int .i64 (R.2.2:Nat),.int .i64 R.1])/\Chg NoS w w'
theorem setg_chg {w X:World} {g:Nat} (k:Nat) (u:Value) (h:Chg (fun i=>i=g) w X):Chg (fun i=>i=g) w (X.setCell ⟨g,k,none⟩ u):=h.setCell (p:=⟨g,k,none⟩) (fun _=>rfl) u
theorem set8_chg (w:World) (g:Nat) (a b c d e f i j:Value):Chg (fun i=>i=g) w ((((((((w.setCell ⟨g,0,none⟩ a).setCell ⟨g,1,none⟩ b).setCell ⟨g,2,none⟩ c).setCell ⟨g,3,none⟩ d).setCell ⟨g,4,none⟩ e).setCell ⟨g,5,none⟩ f).setCell ⟨g,6,none⟩ i).setCell ⟨g,7,none⟩ j) :=
 setg_chg 7 j (setg_chg 6 i (setg_chg 5 f (setg_chg 4 e (setg_chg 3 d (setg_chg 2 c (setg_chg 1 b (setg_chg 0 a (Chg.refl (fun i=>i=g) w))))))))
theorem Blk.set8 {w:World} {g:Nat} {T:TypeId} {x0 x1 x2 x3 x4 x5 x6 x7:Value} (h:Blk w g T #[x0,x1,x2,x3,x4,x5,x6,x7]) (a b c d e f i j:Value):Blk ((((((((w.setCell ⟨g,0,none⟩ a).setCell ⟨g,1,none⟩ b).setCell ⟨g,2,none⟩ c).setCell ⟨g,3,none⟩ d).setCell ⟨g,4,none⟩ e).setCell ⟨g,5,none⟩ f).setCell ⟨g,6,none⟩ i).setCell ⟨g,7,none⟩ j) g T #[a,b,c,d,e,f,i,j]:=by
 have h0:Blk _ g T #[a,x1,x2,x3,x4,x5,x6,x7]:=h.set_ 0 a
 have h1:Blk _ g T #[a,b,x2,x3,x4,x5,x6,x7]:=h0.set_ 1 b
 have h2:Blk _ g T #[a,b,c,x3,x4,x5,x6,x7]:=h1.set_ 2 c
 have h3:Blk _ g T #[a,b,c,d,x4,x5,x6,x7]:=h2.set_ 3 d
 have h4:Blk _ g T #[a,b,c,d,e,x5,x6,x7]:=h3.set_ 4 e
 have h5:Blk _ g T #[a,b,c,d,e,f,x6,x7]:=h4.set_ 5 f
 have h6:Blk _ g T #[a,b,c,d,e,f,i,x7]:=h5.set_ 6 i
 have h7:Blk _ g T #[a,b,c,d,e,f,i,j]:=h6.set_ 7 j
 exact h7
section
variable {bs:List Nat} {last:Bool} {t:Tkn} {r3:Int × Tkn}
theorem ref_1 (h:t.vk≠2):refO bs last t=(0,tokV t,t.to):=by unfold refO;rw [if_pos h]
theorem ref_6 (h:t.vk=2) (h3:thirdO bs last (nextO bs t.to last)=r3) (k:r3.1=6):refO bs last t=(6,nilT,0):=by
 unfold refO;rw [if_neg (by rw [h];decide),h3,if_pos k]
theorem ref_own (h:t.vk=2) (h3:thirdO bs last (nextO bs t.to last)=r3) (k:r3.1≠6) (k2:r3.2.kind≠6\/sb r3.2.s≠⟨#[82]⟩):refO bs last t=(0,tokV t,t.to):=by
 unfold refO;rw [if_neg (by rw [h];decide),h3,if_neg k,if_pos k2]
theorem ref_26 (h:t.vk=2) (h3:thirdO bs last (nextO bs t.to last)=r3) (k:r3.1≠6) (k2:r3.2.kind=6) (k3:sb r3.2.s=⟨#[82]⟩) (k4:t.vn<1\/4096<t.vn\/(nextO bs t.to last).2.vn≠0):refO bs last t=(26,nilT,0):=by
 unfold refO;rw [if_neg (by rw [h];decide),h3,if_neg k,if_neg (by rw [k2,k3];simp),if_pos k4]
theorem ref_8 (h:t.vk=2) (h3:thirdO bs last (nextO bs t.to last)=r3) (k:r3.1≠6) (k2:r3.2.kind=6) (k3:sb r3.2.s=⟨#[82]⟩) (k4:¬(t.vn<1\/4096<t.vn\/(nextO bs t.to last).2.vn≠0)):refO bs last t=(0,.mk 8 t.vn ⟨#[]⟩ [],r3.2.to):=by
 unfold refO;rw [if_neg (by rw [h];decide),h3,if_neg k,if_neg (by rw [k2,k3];simp),if_neg k4]
end
set_option maxHeartbeats 16000000 in
set_option maxRecDepth 100000 in
theorem qits_any (bs:List Nat) (A:Option Addr) (c:Nat) (last:Bool) (w:World) (hS:Src w 1 A bs.length c (lcells bs)) (hl:bs.length<=400000) (hc:bs.length<=c) (hb:∀ x∈bs,x<256) (t:Tkn) (ht:t.to<=bs.length) :
  Calls Tryz.prog 115 #[.slice A bs.length c,tknV t,.bool last] w (ItsTo w (refO bs last t)):=by
 have HNX:=kf (fun(q:Nat) (hq:q<=bs.length) W (hW:Chg NoS w W)=>pnext_in bs A c q last W (Src.below (w0:=w) hS hW) hl hc hq hb)
 unfold ItsTo
 have HR1:=kf (fun(h:t.vk≠2)=>ref_1 (bs:=bs) (last:=last) h)
 have HR6:=kf (fun(h:t.vk=2) r3 h3 k=>ref_6 (bs:=bs) (last:=last) (r3:=r3) h h3 k)
 have HRO:=kf (fun(h:t.vk=2) r3 h3 k k2=>ref_own (bs:=bs) (last:=last) (r3:=r3) h h3 k k2)
 have HR26:=kf (fun(h:t.vk=2) r3 h3 k k2 k3 k4=>ref_26 (bs:=bs) (last:=last) (r3:=r3) h h3 k k2 k3 k4)
 have HR8:=kf (fun(h:t.vk=2) r3 h3 k k2 k3 k4=>ref_8 (bs:=bs) (last:=last) (r3:=r3) h h3 k k2 k3 k4)
 obtain⟨R,hR⟩:∃ R,R=refO bs last t:=⟨_,rfl⟩
 rw [<- hR] at HR1 HR6 HRO HR26 HR8 ⊢
 clear hR
 obtain⟨tk,tf,tt_,tvk,tvn,tvs,ts⟩:=t
 unfold tknV
 simp only [] at HR1 HR6 HRO HR26 HR8 ht ⊢
 obtain⟨S6,hS6⟩:∃ S6,S6=sb tvs:=⟨_,rfl⟩
 obtain⟨S7,hS7⟩:∃ S7,S7=sb ts:=⟨_,rfl⟩
 rw [<- hS6,<- hS7]
 have HS6:=kf hS6
 have HS7:=kf hS7
 clear hS6 hS7
 obtain⟨N,hN⟩:∃ N,N=bs.length:=⟨_,rfl⟩
 by_cases hvk:tvk=2
 ·subst hvk
  rw [show((2:Nat):Int)=2 from rfl]
  have HN2:=kf (HNX.out tt_ ht)
  obtain⟨r2,hr2⟩:∃ r2,nextO bs tt_ last=r2:=⟨_,rfl⟩
  have HER:=kf (fun h=>next_err (bs:=bs) (p:=tt_) (last:=last) ht h)
  have HTO:=kf (next_tok bs tt_ last ht)
  rw [hr2] at HN2 HR6 HRO HR26 HR8 HER HTO
  clear hr2
  obtain⟨e2,⟨uk,uf,ut,uvk,uvn,uvs,us⟩⟩:=r2
  unfold NxTo tknV at HN2
  simp only [] at HN2 HR6 HRO HR26 HR8 HER HTO
  obtain⟨U6,hU6⟩:∃ U6,U6=sb uvs:=⟨_,rfl⟩
  obtain⟨U7,hU7⟩:∃ U7,U7=sb us:=⟨_,rfl⟩
  rw [<- hU6,<- hU7] at HN2
  clear hU6 hU7
  by_cases huk:uvk=2
  ·subst huk
   have hut:ut<=bs.length:=by
    rcases HTO.out with h|h
    ·exact absurd h.2.1 (by decide)
    ·exact h.2.2.2
   have HN3:=kf (HNX.out ut hut)
   rw [show((2:Nat):Int)=2 from rfl] at HN2
   have H3:Hid (∀ r3,nextO bs ut last=r3->thirdO bs last (e2,⟨uk,uf,ut,2,uvn,uvs,us⟩)=r3):=fun r3 h=>h
   obtain⟨r3,hr3⟩:∃ r3,nextO bs ut last=r3:=⟨_,rfl⟩
   have H3T:=kf (H3.out r3 hr3)
   rw [hr3] at HN3
   clear hr3 H3
   obtain⟨e3,⟨xk,xf,xt,xvk,xvn,xvs,xs⟩⟩:=r3
   unfold NxTo tknV at HN3
   simp only [] at HN3
   obtain⟨X6,hX6⟩:∃ X6,X6=sb xvs:=⟨_,rfl⟩
   obtain⟨X7,hX7⟩:∃ X7,X7=sb xs:=⟨_,rfl⟩
   rw [<- hX6,<- hX7] at HN3
   have HX7:=kf hX7
   clear hX6 hX7
   rw [<- hN] at HN2 HN3 ⊢
   clear HNX HR1 HER HTO hS hb hl hc hut ht hN
   by_cases h6:e3=6
   ·subst h6
    have HE:=kf (HR6.out trivial _ H3T.out rfl)
    clear HR6 HRO HR26 HR8 H3T
    have HB4:=kf (((Blk.new w 131 #[.int .i64 (tk:Nat),.int .i64 (tf:Nat),.int .i64 (tt_:Nat),.int .i64 2,.int .i64 tvn,.string S6,.slice none 0 0,.string S7]).alloc (.cells #[.int .i64 0,.int .i64 0,.string ⟨#[]⟩,.slice none 0 0] 25)))
    have HB6:=kf (Blk.new (w.alloc (.cells #[.int .i64 (tk:Nat),.int .i64 (tf:Nat),.int .i64 (tt_:Nat),.int .i64 2,.int .i64 tvn,.string S6,.slice none 0 0,.string S7] 131)) 25 #[.int .i64 0,.int .i64 0,.string ⟨#[]⟩,.slice none 0 0])
    have HC6:=kf (((Chg.refl NoS w).alloc (.cells #[.int .i64 (tk:Nat),.int .i64 (tf:Nat),.int .i64 (tt_:Nat),.int .i64 2,.int .i64 tvn,.string S6,.slice none 0 0,.string S7] 131)).alloc (.cells #[.int .i64 0,.int .i64 0,.string ⟨#[]⟩,.slice none 0 0] 25))
    have HC9:=kf (HC6.out.alloc (.cells #[.int .i64 0,.int .i64 0,.int .i64 0,.int .i64 0,.int .i64 0,.string ⟨#[]⟩,.slice none 0 0,.string ⟨#[]⟩] 131))
    have HB9:=kf (Blk.new ((w.alloc (.cells #[.int .i64 (tk:Nat),.int .i64 (tf:Nat),.int .i64 (tt_:Nat),.int .i64 2,.int .i64 tvn,.string S6,.slice none 0 0,.string S7] 131)).alloc (.cells #[.int .i64 0,.int .i64 0,.string ⟨#[]⟩,.slice none 0 0] 25)) 131 #[.int .i64 0,.int .i64 0,.int .i64 0,.int .i64 0,.int .i64 0,.string ⟨#[]⟩,.slice none 0 0,.string ⟨#[]⟩])
    go_enter Tryz.func115,Tryz.ntmps115
    go_upto_region 5 with(go_at_call 109;refine(HN2.out _ HC9.out).mono ?_;rintro e w3 ⟨rfl,hc3⟩;have HC3:=kf hc3;clear hc3)
    have HB40:=kf (((HB4.out.alloc (.cells #[.int .i64 0,.int .i64 0,.int .i64 0,.int .i64 0,.int .i64 0,.string ⟨#[]⟩,.slice none 0 0,.string ⟨#[]⟩] 131)).chg HC3.out (fun e=>e)).alloc (.cells #[.int .i64 (uk:Nat),.int .i64 (uf:Nat),.int .i64 (ut:Nat),.int .i64 2,.int .i64 uvn,.string U6,.slice none 0 0,.string U7] 131))
    have HB60:=kf (((HB6.out.alloc (.cells #[.int .i64 0,.int .i64 0,.int .i64 0,.int .i64 0,.int .i64 0,.string ⟨#[]⟩,.slice none 0 0,.string ⟨#[]⟩] 131)).chg HC3.out (fun e=>e)).alloc (.cells #[.int .i64 (uk:Nat),.int .i64 (uf:Nat),.int .i64 (ut:Nat),.int .i64 2,.int .i64 uvn,.string U6,.slice none 0 0,.string U7] 131))
    have HB90:=kf ((HB9.out.chg HC3.out (fun e=>e)).alloc (.cells #[.int .i64 (uk:Nat),.int .i64 (uf:Nat),.int .i64 (ut:Nat),.int .i64 2,.int .i64 uvn,.string U6,.slice none 0 0,.string U7] 131))
    have HB10:=kf (Blk.new w3 131 #[.int .i64 (uk:Nat),.int .i64 (uf:Nat),.int .i64 (ut:Nat),.int .i64 2,.int .i64 uvn,.string U6,.slice none 0 0,.string U7])
    have HC10:=kf ((HC9.out.trans HC3.out (fun _ _ e=>e)).alloc (.cells #[.int .i64 (uk:Nat),.int .i64 (uf:Nat),.int .i64 (ut:Nat),.int .i64 2,.int .i64 uvn,.string U6,.slice none 0 0,.string U7] 131))
    have hs3:=HC3.out.size
    simp only [World.size_alloc] at hs3 HB60 HB90
    obtain⟨W4,hW4⟩:∃ W4,W4=w3.alloc (.cells #[.int .i64 (uk:Nat),.int .i64 (uf:Nat),.int .i64 (ut:Nat),.int .i64 2,.int .i64 uvn,.string U6,.slice none 0 0,.string U7] 131):=⟨_,rfl⟩
    obtain⟨g10,hg10⟩:∃ g10,g10=w3.heap.size:=⟨_,rfl⟩
    rw [<- hW4] at HB40 HB60 HB90 HB10 HC10 ⊢
    rw [<- hg10] at HB10 hs3 ⊢
    obtain⟨g9,hg9⟩:∃ g9,g9=w.heap.size+1+1:=⟨_,rfl⟩
    rw [<- hg9] at HB90 ⊢
    obtain⟨g6,hg6⟩:∃ g6,g6=w.heap.size+1:=⟨_,rfl⟩
    rw [<- hg6] at HB60 ⊢
    obtain⟨g4,hg4⟩:∃ g4,g4=w.heap.size:=⟨_,rfl⟩
    rw [<- hg4] at HB40 ⊢
    have hge6:w.heap.size<=g6:=by omega
    have hge9:w.heap.size<=g9:=by omega
    have n46:g4≠g6:=by omega
    have n64:g6≠g4:=by omega
    have n69:g6≠g9:=by omega
    have n96:g9≠g6:=by omega
    have n49:g4≠g9:=by omega
    have n94:g9≠g4:=by omega
    have n610:g6≠g10:=by omega
    have n106:g10≠g6:=by omega
    have n910:g9≠g10:=by omega
    have n109:g10≠g9:=by omega
    clear hW4 hg10 hg9 hg6 hg4 hs3 HB4 HB6 HB9 HC6 HC9 HC3
    obtain⟨q0,q1,q2,q3,q4,q5,q6,q7,y0,y1,y2,y3,y4,y5,y6,y7⟩:=HB10.out.cl8
    go_upto_region 7 with(go_at_call 109;refine(HN3.out _ HC10.out).mono ?_;rintro e w5 ⟨rfl,hc5⟩;have HC5:=kf hc5;have HB95:=kf (HB90.out.chg HC5.out (fun e=>e));obtain⟨v0,v1,v2,v3,v4,v5,v6,v7,u0,u1,u2,u3,u4,u5,u6,u7⟩:=HB95.out.cl8;clear hc5)
    have HS5:=kf (set8_chg w5 g9 (.int .i64 (xk:Nat)) (.int .i64 (xf:Nat)) (.int .i64 (xt:Nat)) (.int .i64 (xvk:Nat)) (.int .i64 xvn) (.string X6) (.slice none 0 0) (.string X7))
    have HB49:=kf ((HB40.out.chg HC5.out (fun e=>e)).chg HS5.out n49)
    have HB69:=kf ((HB60.out.chg HC5.out (fun e=>e)).chg HS5.out n69)
    have HB109:=kf ((HB10.out.chg HC5.out (fun e=>e)).chg HS5.out n109)
    have HB99:=kf (Blk.set8 HB95.out (.int .i64 (xk:Nat)) (.int .i64 (xf:Nat)) (.int .i64 (xt:Nat)) (.int .i64 (xvk:Nat)) (.int .i64 xvn) (.string X6) (.slice none 0 0) (.string X7))
    have HC9:=kf ((HC10.out.trans HC5.out (fun _ _ e=>e)).trans HS5.out (fun i hi e=>by omega:∀ i,i<w.heap.size->i=g9->NoS i))
    clear q0 q1 q2 q3 q4 q5 q6 q7 y0 y1 y2 y3 y4 y5 y6 y7 v0 v1 v2 v3 v4 v5 v6 v7 u0 u1 u2 u3 u4 u5 u6 u7
    generalize ((((((((w5.setCell ⟨g9,0,none⟩ (.int .i64 (xk:Nat))).setCell ⟨g9,1,none⟩ (.int .i64 (xf:Nat))).setCell ⟨g9,2,none⟩ (.int .i64 (xt:Nat))).setCell ⟨g9,3,none⟩ (.int .i64 (xvk:Nat))).setCell ⟨g9,4,none⟩ (.int .i64 xvn)).setCell ⟨g9,5,none⟩ (.string X6)).setCell ⟨g9,6,none⟩ (.slice none 0 0)).setCell ⟨g9,7,none⟩ (.string X7))=W6 at *
    obtain⟨q0,q1,q2,q3,q4,q5,q6,q7,y0,y1,y2,y3,y4,y5,y6,y7⟩:=HB49.out.cl8
    obtain⟨r0,r1,r2,r3,z0,z1,z2,z3⟩:=HB69.out.cl4
    obtain⟨p0,p1,p2,p3,p4,p5,p6,p7,x0,x1,x2,x3,x4,x5,x6,x7⟩:=HB99.out.cl8
    obtain⟨k0,k1,k2,k3,k4,k5,k6,k7,l0,l1,l2,l3,l4,l5,l6,l7⟩:=HB109.out.cl8
    clear HB49 HB99 HB109
    go_wp2_with fail
    refine bodyPost_ret (v:=.tuple #[.agg #[.int .i64 0,.int .i64 0,.string ⟨#[]⟩,.slice none 0 0],.int .i64 0,.int .i64 6]) (by simp [results,Tryz.results115,go_sem,r0,r1,r2,r3]) rfl ?_
    refine⟨by rw [HE.out];rfl,?_⟩
    exact Chg.newc hge6 (Chg.newc hge6 (Chg.newc hge6 (Chg.newc hge6 HC9.out)))
   ·have d6:(e3==6)=false:=by simpa using h6
    by_cases hk6:xk=6
    ·subst hk6
     by_cases hx:X7=⟨#[82]⟩
     ·have HX82:=kf (HX7.out.symm.trans hx)
      subst hx
      by_cases h1:tvn<1
      ·have HE:=kf (HR26.out trivial _ H3T.out h6 rfl HX82.out (.inl h1))
       have d1:decide (tvn<1)=true:=by simpa using h1
       clear HR6 HRO HR26 HR8 H3T h6
       have HB4:=kf (((Blk.new w 131 #[.int .i64 (tk:Nat),.int .i64 (tf:Nat),.int .i64 (tt_:Nat),.int .i64 2,.int .i64 tvn,.string S6,.slice none 0 0,.string S7]).alloc (.cells #[.int .i64 0,.int .i64 0,.string ⟨#[]⟩,.slice none 0 0] 25)))
       have HB6:=kf (Blk.new (w.alloc (.cells #[.int .i64 (tk:Nat),.int .i64 (tf:Nat),.int .i64 (tt_:Nat),.int .i64 2,.int .i64 tvn,.string S6,.slice none 0 0,.string S7] 131)) 25 #[.int .i64 0,.int .i64 0,.string ⟨#[]⟩,.slice none 0 0])
       have HC6:=kf (((Chg.refl NoS w).alloc (.cells #[.int .i64 (tk:Nat),.int .i64 (tf:Nat),.int .i64 (tt_:Nat),.int .i64 2,.int .i64 tvn,.string S6,.slice none 0 0,.string S7] 131)).alloc (.cells #[.int .i64 0,.int .i64 0,.string ⟨#[]⟩,.slice none 0 0] 25))
       have HC9:=kf (HC6.out.alloc (.cells #[.int .i64 0,.int .i64 0,.int .i64 0,.int .i64 0,.int .i64 0,.string ⟨#[]⟩,.slice none 0 0,.string ⟨#[]⟩] 131))
       have HB9:=kf (Blk.new ((w.alloc (.cells #[.int .i64 (tk:Nat),.int .i64 (tf:Nat),.int .i64 (tt_:Nat),.int .i64 2,.int .i64 tvn,.string S6,.slice none 0 0,.string S7] 131)).alloc (.cells #[.int .i64 0,.int .i64 0,.string ⟨#[]⟩,.slice none 0 0] 25)) 131 #[.int .i64 0,.int .i64 0,.int .i64 0,.int .i64 0,.int .i64 0,.string ⟨#[]⟩,.slice none 0 0,.string ⟨#[]⟩])
       go_enter Tryz.func115,Tryz.ntmps115
       go_upto_region 5 with(go_at_call 109;refine(HN2.out _ HC9.out).mono ?_;rintro e w3 ⟨rfl,hc3⟩;have HC3:=kf hc3;clear hc3)
       have HB40:=kf (((HB4.out.alloc (.cells #[.int .i64 0,.int .i64 0,.int .i64 0,.int .i64 0,.int .i64 0,.string ⟨#[]⟩,.slice none 0 0,.string ⟨#[]⟩] 131)).chg HC3.out (fun e=>e)).alloc (.cells #[.int .i64 (uk:Nat),.int .i64 (uf:Nat),.int .i64 (ut:Nat),.int .i64 2,.int .i64 uvn,.string U6,.slice none 0 0,.string U7] 131))
       have HB60:=kf (((HB6.out.alloc (.cells #[.int .i64 0,.int .i64 0,.int .i64 0,.int .i64 0,.int .i64 0,.string ⟨#[]⟩,.slice none 0 0,.string ⟨#[]⟩] 131)).chg HC3.out (fun e=>e)).alloc (.cells #[.int .i64 (uk:Nat),.int .i64 (uf:Nat),.int .i64 (ut:Nat),.int .i64 2,.int .i64 uvn,.string U6,.slice none 0 0,.string U7] 131))
       have HB90:=kf ((HB9.out.chg HC3.out (fun e=>e)).alloc (.cells #[.int .i64 (uk:Nat),.int .i64 (uf:Nat),.int .i64 (ut:Nat),.int .i64 2,.int .i64 uvn,.string U6,.slice none 0 0,.string U7] 131))
       have HB10:=kf (Blk.new w3 131 #[.int .i64 (uk:Nat),.int .i64 (uf:Nat),.int .i64 (ut:Nat),.int .i64 2,.int .i64 uvn,.string U6,.slice none 0 0,.string U7])
       have HC10:=kf ((HC9.out.trans HC3.out (fun _ _ e=>e)).alloc (.cells #[.int .i64 (uk:Nat),.int .i64 (uf:Nat),.int .i64 (ut:Nat),.int .i64 2,.int .i64 uvn,.string U6,.slice none 0 0,.string U7] 131))
       have hs3:=HC3.out.size
       simp only [World.size_alloc] at hs3 HB60 HB90
       obtain⟨W4,hW4⟩:∃ W4,W4=w3.alloc (.cells #[.int .i64 (uk:Nat),.int .i64 (uf:Nat),.int .i64 (ut:Nat),.int .i64 2,.int .i64 uvn,.string U6,.slice none 0 0,.string U7] 131):=⟨_,rfl⟩
       obtain⟨g10,hg10⟩:∃ g10,g10=w3.heap.size:=⟨_,rfl⟩
       rw [<- hW4] at HB40 HB60 HB90 HB10 HC10 ⊢
       rw [<- hg10] at HB10 hs3 ⊢
       obtain⟨g9,hg9⟩:∃ g9,g9=w.heap.size+1+1:=⟨_,rfl⟩
       rw [<- hg9] at HB90 ⊢
       obtain⟨g6,hg6⟩:∃ g6,g6=w.heap.size+1:=⟨_,rfl⟩
       rw [<- hg6] at HB60 ⊢
       obtain⟨g4,hg4⟩:∃ g4,g4=w.heap.size:=⟨_,rfl⟩
       rw [<- hg4] at HB40 ⊢
       have hge6:w.heap.size<=g6:=by omega
       have hge9:w.heap.size<=g9:=by omega
       have n46:g4≠g6:=by omega
       have n64:g6≠g4:=by omega
       have n69:g6≠g9:=by omega
       have n96:g9≠g6:=by omega
       have n49:g4≠g9:=by omega
       have n94:g9≠g4:=by omega
       have n610:g6≠g10:=by omega
       have n106:g10≠g6:=by omega
       have n910:g9≠g10:=by omega
       have n109:g10≠g9:=by omega
       clear hW4 hg10 hg9 hg6 hg4 hs3 HB4 HB6 HB9 HC6 HC9 HC3
       obtain⟨q0,q1,q2,q3,q4,q5,q6,q7,y0,y1,y2,y3,y4,y5,y6,y7⟩:=HB10.out.cl8
       go_upto_region 7 with(go_at_call 109;refine(HN3.out _ HC10.out).mono ?_;rintro e w5 ⟨rfl,hc5⟩;have HC5:=kf hc5;have HB95:=kf (HB90.out.chg HC5.out (fun e=>e));obtain⟨v0,v1,v2,v3,v4,v5,v6,v7,u0,u1,u2,u3,u4,u5,u6,u7⟩:=HB95.out.cl8;clear hc5)
       have HS5:=kf (set8_chg w5 g9 (.int .i64 6) (.int .i64 (xf:Nat)) (.int .i64 (xt:Nat)) (.int .i64 (xvk:Nat)) (.int .i64 xvn) (.string X6) (.slice none 0 0) (.string ⟨#[82]⟩))
       have HB49:=kf ((HB40.out.chg HC5.out (fun e=>e)).chg HS5.out n49)
       have HB69:=kf ((HB60.out.chg HC5.out (fun e=>e)).chg HS5.out n69)
       have HB109:=kf ((HB10.out.chg HC5.out (fun e=>e)).chg HS5.out n109)
       have HB99:=kf (Blk.set8 HB95.out (.int .i64 6) (.int .i64 (xf:Nat)) (.int .i64 (xt:Nat)) (.int .i64 (xvk:Nat)) (.int .i64 xvn) (.string X6) (.slice none 0 0) (.string ⟨#[82]⟩))
       have HC9:=kf ((HC10.out.trans HC5.out (fun _ _ e=>e)).trans HS5.out (fun i hi e=>by omega:∀ i,i<w.heap.size->i=g9->NoS i))
       clear q0 q1 q2 q3 q4 q5 q6 q7 y0 y1 y2 y3 y4 y5 y6 y7 v0 v1 v2 v3 v4 v5 v6 v7 u0 u1 u2 u3 u4 u5 u6 u7
       generalize ((((((((w5.setCell ⟨g9,0,none⟩ (.int .i64 6)).setCell ⟨g9,1,none⟩ (.int .i64 (xf:Nat))).setCell ⟨g9,2,none⟩ (.int .i64 (xt:Nat))).setCell ⟨g9,3,none⟩ (.int .i64 (xvk:Nat))).setCell ⟨g9,4,none⟩ (.int .i64 xvn)).setCell ⟨g9,5,none⟩ (.string X6)).setCell ⟨g9,6,none⟩ (.slice none 0 0)).setCell ⟨g9,7,none⟩ (.string ⟨#[82]⟩))=W6 at *
       obtain⟨q0,q1,q2,q3,q4,q5,q6,q7,y0,y1,y2,y3,y4,y5,y6,y7⟩:=HB49.out.cl8
       obtain⟨r0,r1,r2,r3,z0,z1,z2,z3⟩:=HB69.out.cl4
       obtain⟨p0,p1,p2,p3,p4,p5,p6,p7,x0,x1,x2,x3,x4,x5,x6,x7⟩:=HB99.out.cl8
       obtain⟨k0,k1,k2,k3,k4,k5,k6,k7,l0,l1,l2,l3,l4,l5,l6,l7⟩:=HB109.out.cl8
       clear HB49 HB99 HB109
       go_wp2_with fail
       refine bodyPost_ret (v:=.tuple #[.agg #[.int .i64 0,.int .i64 0,.string ⟨#[]⟩,.slice none 0 0],.int .i64 0,.int .i64 26]) (by simp [results,Tryz.results115,go_sem,r0,r1,r2,r3]) rfl ?_
       refine⟨by rw [HE.out];rfl,?_⟩
       exact Chg.newc hge6 (Chg.newc hge6 (Chg.newc hge6 (Chg.newc hge6 HC9.out)))
      ·have d1:decide (tvn<1)=false:=by simpa using h1
       by_cases h2:4096<tvn
       ·have HE:=kf (HR26.out trivial _ H3T.out h6 rfl HX82.out (.inr (.inl h2)))
        have d2:decide (4096<tvn)=true:=by simpa using h2
        clear HR6 HRO HR26 HR8 H3T h6
        have HB4:=kf (((Blk.new w 131 #[.int .i64 (tk:Nat),.int .i64 (tf:Nat),.int .i64 (tt_:Nat),.int .i64 2,.int .i64 tvn,.string S6,.slice none 0 0,.string S7]).alloc (.cells #[.int .i64 0,.int .i64 0,.string ⟨#[]⟩,.slice none 0 0] 25)))
        have HB6:=kf (Blk.new (w.alloc (.cells #[.int .i64 (tk:Nat),.int .i64 (tf:Nat),.int .i64 (tt_:Nat),.int .i64 2,.int .i64 tvn,.string S6,.slice none 0 0,.string S7] 131)) 25 #[.int .i64 0,.int .i64 0,.string ⟨#[]⟩,.slice none 0 0])
        have HC6:=kf (((Chg.refl NoS w).alloc (.cells #[.int .i64 (tk:Nat),.int .i64 (tf:Nat),.int .i64 (tt_:Nat),.int .i64 2,.int .i64 tvn,.string S6,.slice none 0 0,.string S7] 131)).alloc (.cells #[.int .i64 0,.int .i64 0,.string ⟨#[]⟩,.slice none 0 0] 25))
        have HC9:=kf (HC6.out.alloc (.cells #[.int .i64 0,.int .i64 0,.int .i64 0,.int .i64 0,.int .i64 0,.string ⟨#[]⟩,.slice none 0 0,.string ⟨#[]⟩] 131))
        have HB9:=kf (Blk.new ((w.alloc (.cells #[.int .i64 (tk:Nat),.int .i64 (tf:Nat),.int .i64 (tt_:Nat),.int .i64 2,.int .i64 tvn,.string S6,.slice none 0 0,.string S7] 131)).alloc (.cells #[.int .i64 0,.int .i64 0,.string ⟨#[]⟩,.slice none 0 0] 25)) 131 #[.int .i64 0,.int .i64 0,.int .i64 0,.int .i64 0,.int .i64 0,.string ⟨#[]⟩,.slice none 0 0,.string ⟨#[]⟩])
        go_enter Tryz.func115,Tryz.ntmps115
        go_upto_region 5 with(go_at_call 109;refine(HN2.out _ HC9.out).mono ?_;rintro e w3 ⟨rfl,hc3⟩;have HC3:=kf hc3;clear hc3)
        have HB40:=kf (((HB4.out.alloc (.cells #[.int .i64 0,.int .i64 0,.int .i64 0,.int .i64 0,.int .i64 0,.string ⟨#[]⟩,.slice none 0 0,.string ⟨#[]⟩] 131)).chg HC3.out (fun e=>e)).alloc (.cells #[.int .i64 (uk:Nat),.int .i64 (uf:Nat),.int .i64 (ut:Nat),.int .i64 2,.int .i64 uvn,.string U6,.slice none 0 0,.string U7] 131))
        have HB60:=kf (((HB6.out.alloc (.cells #[.int .i64 0,.int .i64 0,.int .i64 0,.int .i64 0,.int .i64 0,.string ⟨#[]⟩,.slice none 0 0,.string ⟨#[]⟩] 131)).chg HC3.out (fun e=>e)).alloc (.cells #[.int .i64 (uk:Nat),.int .i64 (uf:Nat),.int .i64 (ut:Nat),.int .i64 2,.int .i64 uvn,.string U6,.slice none 0 0,.string U7] 131))
        have HB90:=kf ((HB9.out.chg HC3.out (fun e=>e)).alloc (.cells #[.int .i64 (uk:Nat),.int .i64 (uf:Nat),.int .i64 (ut:Nat),.int .i64 2,.int .i64 uvn,.string U6,.slice none 0 0,.string U7] 131))
        have HB10:=kf (Blk.new w3 131 #[.int .i64 (uk:Nat),.int .i64 (uf:Nat),.int .i64 (ut:Nat),.int .i64 2,.int .i64 uvn,.string U6,.slice none 0 0,.string U7])
        have HC10:=kf ((HC9.out.trans HC3.out (fun _ _ e=>e)).alloc (.cells #[.int .i64 (uk:Nat),.int .i64 (uf:Nat),.int .i64 (ut:Nat),.int .i64 2,.int .i64 uvn,.string U6,.slice none 0 0,.string U7] 131))
        have hs3:=HC3.out.size
        simp only [World.size_alloc] at hs3 HB60 HB90
        obtain⟨W4,hW4⟩:∃ W4,W4=w3.alloc (.cells #[.int .i64 (uk:Nat),.int .i64 (uf:Nat),.int .i64 (ut:Nat),.int .i64 2,.int .i64 uvn,.string U6,.slice none 0 0,.string U7] 131):=⟨_,rfl⟩
        obtain⟨g10,hg10⟩:∃ g10,g10=w3.heap.size:=⟨_,rfl⟩
        rw [<- hW4] at HB40 HB60 HB90 HB10 HC10 ⊢
        rw [<- hg10] at HB10 hs3 ⊢
        obtain⟨g9,hg9⟩:∃ g9,g9=w.heap.size+1+1:=⟨_,rfl⟩
        rw [<- hg9] at HB90 ⊢
        obtain⟨g6,hg6⟩:∃ g6,g6=w.heap.size+1:=⟨_,rfl⟩
        rw [<- hg6] at HB60 ⊢
        obtain⟨g4,hg4⟩:∃ g4,g4=w.heap.size:=⟨_,rfl⟩
        rw [<- hg4] at HB40 ⊢
        have hge6:w.heap.size<=g6:=by omega
        have hge9:w.heap.size<=g9:=by omega
        have n46:g4≠g6:=by omega
        have n64:g6≠g4:=by omega
        have n69:g6≠g9:=by omega
        have n96:g9≠g6:=by omega
        have n49:g4≠g9:=by omega
        have n94:g9≠g4:=by omega
        have n610:g6≠g10:=by omega
        have n106:g10≠g6:=by omega
        have n910:g9≠g10:=by omega
        have n109:g10≠g9:=by omega
        clear hW4 hg10 hg9 hg6 hg4 hs3 HB4 HB6 HB9 HC6 HC9 HC3
        obtain⟨q0,q1,q2,q3,q4,q5,q6,q7,y0,y1,y2,y3,y4,y5,y6,y7⟩:=HB10.out.cl8
        go_upto_region 7 with(go_at_call 109;refine(HN3.out _ HC10.out).mono ?_;rintro e w5 ⟨rfl,hc5⟩;have HC5:=kf hc5;have HB95:=kf (HB90.out.chg HC5.out (fun e=>e));obtain⟨v0,v1,v2,v3,v4,v5,v6,v7,u0,u1,u2,u3,u4,u5,u6,u7⟩:=HB95.out.cl8;clear hc5)
        have HS5:=kf (set8_chg w5 g9 (.int .i64 6) (.int .i64 (xf:Nat)) (.int .i64 (xt:Nat)) (.int .i64 (xvk:Nat)) (.int .i64 xvn) (.string X6) (.slice none 0 0) (.string ⟨#[82]⟩))
        have HB49:=kf ((HB40.out.chg HC5.out (fun e=>e)).chg HS5.out n49)
        have HB69:=kf ((HB60.out.chg HC5.out (fun e=>e)).chg HS5.out n69)
        have HB109:=kf ((HB10.out.chg HC5.out (fun e=>e)).chg HS5.out n109)
        have HB99:=kf (Blk.set8 HB95.out (.int .i64 6) (.int .i64 (xf:Nat)) (.int .i64 (xt:Nat)) (.int .i64 (xvk:Nat)) (.int .i64 xvn) (.string X6) (.slice none 0 0) (.string ⟨#[82]⟩))
        have HC9:=kf ((HC10.out.trans HC5.out (fun _ _ e=>e)).trans HS5.out (fun i hi e=>by omega:∀ i,i<w.heap.size->i=g9->NoS i))
        clear q0 q1 q2 q3 q4 q5 q6 q7 y0 y1 y2 y3 y4 y5 y6 y7 v0 v1 v2 v3 v4 v5 v6 v7 u0 u1 u2 u3 u4 u5 u6 u7
        generalize ((((((((w5.setCell ⟨g9,0,none⟩ (.int .i64 6)).setCell ⟨g9,1,none⟩ (.int .i64 (xf:Nat))).setCell ⟨g9,2,none⟩ (.int .i64 (xt:Nat))).setCell ⟨g9,3,none⟩ (.int .i64 (xvk:Nat))).setCell ⟨g9,4,none⟩ (.int .i64 xvn)).setCell ⟨g9,5,none⟩ (.string X6)).setCell ⟨g9,6,none⟩ (.slice none 0 0)).setCell ⟨g9,7,none⟩ (.string ⟨#[82]⟩))=W6 at *
        obtain⟨q0,q1,q2,q3,q4,q5,q6,q7,y0,y1,y2,y3,y4,y5,y6,y7⟩:=HB49.out.cl8
        obtain⟨r0,r1,r2,r3,z0,z1,z2,z3⟩:=HB69.out.cl4
        obtain⟨p0,p1,p2,p3,p4,p5,p6,p7,x0,x1,x2,x3,x4,x5,x6,x7⟩:=HB99.out.cl8
        obtain⟨k0,k1,k2,k3,k4,k5,k6,k7,l0,l1,l2,l3,l4,l5,l6,l7⟩:=HB109.out.cl8
        clear HB49 HB99 HB109
        go_wp2_with fail
        refine bodyPost_ret (v:=.tuple #[.agg #[.int .i64 0,.int .i64 0,.string ⟨#[]⟩,.slice none 0 0],.int .i64 0,.int .i64 26]) (by simp [results,Tryz.results115,go_sem,r0,r1,r2,r3]) rfl ?_
        refine⟨by rw [HE.out];rfl,?_⟩
        exact Chg.newc hge6 (Chg.newc hge6 (Chg.newc hge6 (Chg.newc hge6 HC9.out)))
       ·have d2:decide (4096<tvn)=false:=by simpa using h2
        by_cases h3:uvn=0
        ·subst h3
         have HE:=kf (HR8.out trivial _ H3T.out h6 rfl HX82.out (by rintro(h|h|h)<;>first|exact h1 h|exact h2 h|exact h rfl))
         clear HR6 HRO HR26 HR8 H3T h6
         have HB4:=kf (((Blk.new w 131 #[.int .i64 (tk:Nat),.int .i64 (tf:Nat),.int .i64 (tt_:Nat),.int .i64 2,.int .i64 tvn,.string S6,.slice none 0 0,.string S7]).alloc (.cells #[.int .i64 0,.int .i64 0,.string ⟨#[]⟩,.slice none 0 0] 25)))
         have HB6:=kf (Blk.new (w.alloc (.cells #[.int .i64 (tk:Nat),.int .i64 (tf:Nat),.int .i64 (tt_:Nat),.int .i64 2,.int .i64 tvn,.string S6,.slice none 0 0,.string S7] 131)) 25 #[.int .i64 0,.int .i64 0,.string ⟨#[]⟩,.slice none 0 0])
         have HC6:=kf (((Chg.refl NoS w).alloc (.cells #[.int .i64 (tk:Nat),.int .i64 (tf:Nat),.int .i64 (tt_:Nat),.int .i64 2,.int .i64 tvn,.string S6,.slice none 0 0,.string S7] 131)).alloc (.cells #[.int .i64 0,.int .i64 0,.string ⟨#[]⟩,.slice none 0 0] 25))
         have HC9:=kf (HC6.out.alloc (.cells #[.int .i64 0,.int .i64 0,.int .i64 0,.int .i64 0,.int .i64 0,.string ⟨#[]⟩,.slice none 0 0,.string ⟨#[]⟩] 131))
         have HB9:=kf (Blk.new ((w.alloc (.cells #[.int .i64 (tk:Nat),.int .i64 (tf:Nat),.int .i64 (tt_:Nat),.int .i64 2,.int .i64 tvn,.string S6,.slice none 0 0,.string S7] 131)).alloc (.cells #[.int .i64 0,.int .i64 0,.string ⟨#[]⟩,.slice none 0 0] 25)) 131 #[.int .i64 0,.int .i64 0,.int .i64 0,.int .i64 0,.int .i64 0,.string ⟨#[]⟩,.slice none 0 0,.string ⟨#[]⟩])
         go_enter Tryz.func115,Tryz.ntmps115
         go_upto_region 5 with(go_at_call 109;refine(HN2.out _ HC9.out).mono ?_;rintro e w3 ⟨rfl,hc3⟩;have HC3:=kf hc3;clear hc3)
         have HB40:=kf (((HB4.out.alloc (.cells #[.int .i64 0,.int .i64 0,.int .i64 0,.int .i64 0,.int .i64 0,.string ⟨#[]⟩,.slice none 0 0,.string ⟨#[]⟩] 131)).chg HC3.out (fun e=>e)).alloc (.cells #[.int .i64 (uk:Nat),.int .i64 (uf:Nat),.int .i64 (ut:Nat),.int .i64 2,.int .i64 0,.string U6,.slice none 0 0,.string U7] 131))
         have HB60:=kf (((HB6.out.alloc (.cells #[.int .i64 0,.int .i64 0,.int .i64 0,.int .i64 0,.int .i64 0,.string ⟨#[]⟩,.slice none 0 0,.string ⟨#[]⟩] 131)).chg HC3.out (fun e=>e)).alloc (.cells #[.int .i64 (uk:Nat),.int .i64 (uf:Nat),.int .i64 (ut:Nat),.int .i64 2,.int .i64 0,.string U6,.slice none 0 0,.string U7] 131))
         have HB90:=kf ((HB9.out.chg HC3.out (fun e=>e)).alloc (.cells #[.int .i64 (uk:Nat),.int .i64 (uf:Nat),.int .i64 (ut:Nat),.int .i64 2,.int .i64 0,.string U6,.slice none 0 0,.string U7] 131))
         have HB10:=kf (Blk.new w3 131 #[.int .i64 (uk:Nat),.int .i64 (uf:Nat),.int .i64 (ut:Nat),.int .i64 2,.int .i64 0,.string U6,.slice none 0 0,.string U7])
         have HC10:=kf ((HC9.out.trans HC3.out (fun _ _ e=>e)).alloc (.cells #[.int .i64 (uk:Nat),.int .i64 (uf:Nat),.int .i64 (ut:Nat),.int .i64 2,.int .i64 0,.string U6,.slice none 0 0,.string U7] 131))
         have hs3:=HC3.out.size
         simp only [World.size_alloc] at hs3 HB60 HB90
         obtain⟨W4,hW4⟩:∃ W4,W4=w3.alloc (.cells #[.int .i64 (uk:Nat),.int .i64 (uf:Nat),.int .i64 (ut:Nat),.int .i64 2,.int .i64 0,.string U6,.slice none 0 0,.string U7] 131):=⟨_,rfl⟩
         obtain⟨g10,hg10⟩:∃ g10,g10=w3.heap.size:=⟨_,rfl⟩
         rw [<- hW4] at HB40 HB60 HB90 HB10 HC10 ⊢
         rw [<- hg10] at HB10 hs3 ⊢
         obtain⟨g9,hg9⟩:∃ g9,g9=w.heap.size+1+1:=⟨_,rfl⟩
         rw [<- hg9] at HB90 ⊢
         obtain⟨g6,hg6⟩:∃ g6,g6=w.heap.size+1:=⟨_,rfl⟩
         rw [<- hg6] at HB60 ⊢
         obtain⟨g4,hg4⟩:∃ g4,g4=w.heap.size:=⟨_,rfl⟩
         rw [<- hg4] at HB40 ⊢
         have hge6:w.heap.size<=g6:=by omega
         have hge9:w.heap.size<=g9:=by omega
         have n46:g4≠g6:=by omega
         have n64:g6≠g4:=by omega
         have n69:g6≠g9:=by omega
         have n96:g9≠g6:=by omega
         have n49:g4≠g9:=by omega
         have n94:g9≠g4:=by omega
         have n610:g6≠g10:=by omega
         have n106:g10≠g6:=by omega
         have n910:g9≠g10:=by omega
         have n109:g10≠g9:=by omega
         clear hW4 hg10 hg9 hg6 hg4 hs3 HB4 HB6 HB9 HC6 HC9 HC3
         obtain⟨q0,q1,q2,q3,q4,q5,q6,q7,y0,y1,y2,y3,y4,y5,y6,y7⟩:=HB10.out.cl8
         go_upto_region 7 with(go_at_call 109;refine(HN3.out _ HC10.out).mono ?_;rintro e w5 ⟨rfl,hc5⟩;have HC5:=kf hc5;have HB95:=kf (HB90.out.chg HC5.out (fun e=>e));obtain⟨v0,v1,v2,v3,v4,v5,v6,v7,u0,u1,u2,u3,u4,u5,u6,u7⟩:=HB95.out.cl8;clear hc5)
         have HS5:=kf (set8_chg w5 g9 (.int .i64 6) (.int .i64 (xf:Nat)) (.int .i64 (xt:Nat)) (.int .i64 (xvk:Nat)) (.int .i64 xvn) (.string X6) (.slice none 0 0) (.string ⟨#[82]⟩))
         have HB49:=kf ((HB40.out.chg HC5.out (fun e=>e)).chg HS5.out n49)
         have HB69:=kf ((HB60.out.chg HC5.out (fun e=>e)).chg HS5.out n69)
         have HB109:=kf ((HB10.out.chg HC5.out (fun e=>e)).chg HS5.out n109)
         have HB99:=kf (Blk.set8 HB95.out (.int .i64 6) (.int .i64 (xf:Nat)) (.int .i64 (xt:Nat)) (.int .i64 (xvk:Nat)) (.int .i64 xvn) (.string X6) (.slice none 0 0) (.string ⟨#[82]⟩))
         have HC9:=kf ((HC10.out.trans HC5.out (fun _ _ e=>e)).trans HS5.out (fun i hi e=>by omega:∀ i,i<w.heap.size->i=g9->NoS i))
         clear q0 q1 q2 q3 q4 q5 q6 q7 y0 y1 y2 y3 y4 y5 y6 y7 v0 v1 v2 v3 v4 v5 v6 v7 u0 u1 u2 u3 u4 u5 u6 u7
         generalize ((((((((w5.setCell ⟨g9,0,none⟩ (.int .i64 6)).setCell ⟨g9,1,none⟩ (.int .i64 (xf:Nat))).setCell ⟨g9,2,none⟩ (.int .i64 (xt:Nat))).setCell ⟨g9,3,none⟩ (.int .i64 (xvk:Nat))).setCell ⟨g9,4,none⟩ (.int .i64 xvn)).setCell ⟨g9,5,none⟩ (.string X6)).setCell ⟨g9,6,none⟩ (.slice none 0 0)).setCell ⟨g9,7,none⟩ (.string ⟨#[82]⟩))=W6 at *
         obtain⟨q0,q1,q2,q3,q4,q5,q6,q7,y0,y1,y2,y3,y4,y5,y6,y7⟩:=HB49.out.cl8
         obtain⟨r0,r1,r2,r3,z0,z1,z2,z3⟩:=HB69.out.cl4
         obtain⟨p0,p1,p2,p3,p4,p5,p6,p7,x0,x1,x2,x3,x4,x5,x6,x7⟩:=HB99.out.cl8
         obtain⟨k0,k1,k2,k3,k4,k5,k6,k7,l0,l1,l2,l3,l4,l5,l6,l7⟩:=HB109.out.cl8
         clear HB49 HB99 HB109
         go_upto_region 13 with fail
         have HB70:=kf HB69.out
         first
          |(go_loud (go_region_held3 (fun w'=>w'.cell? ⟨g4,4,none⟩=some (.int .i64 tvn)/\w'.cell? ⟨g9,2,none⟩=some (.int .i64 (xt:Nat)))
            (first|(go_keep;done)|(go_split_ands;exact⟨by assumption,by assumption⟩))
            ((go_at_call 157;refine(refTo_any tvn _).mono ?_;rintro e w7 ⟨rfl,hc7⟩;have HC7:=kf (HC9.out.drew.trans hc7 (fun _ _ e=>e));have HB77:=kf (HB70.out.drew.chg hc7 (fun e=>e));have c4:=(hc7.cell (p:=⟨g4,4,none⟩) (cell_lt (w:=W6.drew) q4) (fun e=>e)).trans q4;have c2:=(hc7.cell (p:=⟨g9,2,none⟩) (cell_lt (w:=W6.drew) p2) (fun e=>e)).trans p2;obtain⟨e0,e1_,e2_,e3_,f0,f1,f2,f3⟩:=HB77.out.cl4))))
          |fail "region"
         go_wp2_with fail
         refine bodyPost_ret (v:=.tuple #[.agg #[.int .i64 8,.int .i64 tvn,.string ⟨#[]⟩,.slice none 0 0],.int .i64 (xt:Nat),.int .i64 0]) (by simp [results,Tryz.results115,go_sem,e0,e1_,e2_,e3_]) rfl ?_
         refine⟨by rw [HE.out];rfl,?_⟩
         exact Chg.newc hge6 (Chg.newc hge6 (Chg.newc hge6 (Chg.newc hge6 HC7.out)))
        ·have HE:=kf (HR26.out trivial _ H3T.out h6 rfl HX82.out (.inr (.inr h3)))
         have d3:(uvn != 0)=true:=by simpa using h3
         have d3':(uvn==0)=false:=by simpa using h3
         clear HR6 HRO HR26 HR8 H3T h6
         have HB4:=kf (((Blk.new w 131 #[.int .i64 (tk:Nat),.int .i64 (tf:Nat),.int .i64 (tt_:Nat),.int .i64 2,.int .i64 tvn,.string S6,.slice none 0 0,.string S7]).alloc (.cells #[.int .i64 0,.int .i64 0,.string ⟨#[]⟩,.slice none 0 0] 25)))
         have HB6:=kf (Blk.new (w.alloc (.cells #[.int .i64 (tk:Nat),.int .i64 (tf:Nat),.int .i64 (tt_:Nat),.int .i64 2,.int .i64 tvn,.string S6,.slice none 0 0,.string S7] 131)) 25 #[.int .i64 0,.int .i64 0,.string ⟨#[]⟩,.slice none 0 0])
         have HC6:=kf (((Chg.refl NoS w).alloc (.cells #[.int .i64 (tk:Nat),.int .i64 (tf:Nat),.int .i64 (tt_:Nat),.int .i64 2,.int .i64 tvn,.string S6,.slice none 0 0,.string S7] 131)).alloc (.cells #[.int .i64 0,.int .i64 0,.string ⟨#[]⟩,.slice none 0 0] 25))
         have HC9:=kf (HC6.out.alloc (.cells #[.int .i64 0,.int .i64 0,.int .i64 0,.int .i64 0,.int .i64 0,.string ⟨#[]⟩,.slice none 0 0,.string ⟨#[]⟩] 131))
         have HB9:=kf (Blk.new ((w.alloc (.cells #[.int .i64 (tk:Nat),.int .i64 (tf:Nat),.int .i64 (tt_:Nat),.int .i64 2,.int .i64 tvn,.string S6,.slice none 0 0,.string S7] 131)).alloc (.cells #[.int .i64 0,.int .i64 0,.string ⟨#[]⟩,.slice none 0 0] 25)) 131 #[.int .i64 0,.int .i64 0,.int .i64 0,.int .i64 0,.int .i64 0,.string ⟨#[]⟩,.slice none 0 0,.string ⟨#[]⟩])
         go_enter Tryz.func115,Tryz.ntmps115
         go_upto_region 5 with(go_at_call 109;refine(HN2.out _ HC9.out).mono ?_;rintro e w3 ⟨rfl,hc3⟩;have HC3:=kf hc3;clear hc3)
         have HB40:=kf (((HB4.out.alloc (.cells #[.int .i64 0,.int .i64 0,.int .i64 0,.int .i64 0,.int .i64 0,.string ⟨#[]⟩,.slice none 0 0,.string ⟨#[]⟩] 131)).chg HC3.out (fun e=>e)).alloc (.cells #[.int .i64 (uk:Nat),.int .i64 (uf:Nat),.int .i64 (ut:Nat),.int .i64 2,.int .i64 uvn,.string U6,.slice none 0 0,.string U7] 131))
         have HB60:=kf (((HB6.out.alloc (.cells #[.int .i64 0,.int .i64 0,.int .i64 0,.int .i64 0,.int .i64 0,.string ⟨#[]⟩,.slice none 0 0,.string ⟨#[]⟩] 131)).chg HC3.out (fun e=>e)).alloc (.cells #[.int .i64 (uk:Nat),.int .i64 (uf:Nat),.int .i64 (ut:Nat),.int .i64 2,.int .i64 uvn,.string U6,.slice none 0 0,.string U7] 131))
         have HB90:=kf ((HB9.out.chg HC3.out (fun e=>e)).alloc (.cells #[.int .i64 (uk:Nat),.int .i64 (uf:Nat),.int .i64 (ut:Nat),.int .i64 2,.int .i64 uvn,.string U6,.slice none 0 0,.string U7] 131))
         have HB10:=kf (Blk.new w3 131 #[.int .i64 (uk:Nat),.int .i64 (uf:Nat),.int .i64 (ut:Nat),.int .i64 2,.int .i64 uvn,.string U6,.slice none 0 0,.string U7])
         have HC10:=kf ((HC9.out.trans HC3.out (fun _ _ e=>e)).alloc (.cells #[.int .i64 (uk:Nat),.int .i64 (uf:Nat),.int .i64 (ut:Nat),.int .i64 2,.int .i64 uvn,.string U6,.slice none 0 0,.string U7] 131))
         have hs3:=HC3.out.size
         simp only [World.size_alloc] at hs3 HB60 HB90
         obtain⟨W4,hW4⟩:∃ W4,W4=w3.alloc (.cells #[.int .i64 (uk:Nat),.int .i64 (uf:Nat),.int .i64 (ut:Nat),.int .i64 2,.int .i64 uvn,.string U6,.slice none 0 0,.string U7] 131):=⟨_,rfl⟩
         obtain⟨g10,hg10⟩:∃ g10,g10=w3.heap.size:=⟨_,rfl⟩
         rw [<- hW4] at HB40 HB60 HB90 HB10 HC10 ⊢
         rw [<- hg10] at HB10 hs3 ⊢
         obtain⟨g9,hg9⟩:∃ g9,g9=w.heap.size+1+1:=⟨_,rfl⟩
         rw [<- hg9] at HB90 ⊢
         obtain⟨g6,hg6⟩:∃ g6,g6=w.heap.size+1:=⟨_,rfl⟩
         rw [<- hg6] at HB60 ⊢
         obtain⟨g4,hg4⟩:∃ g4,g4=w.heap.size:=⟨_,rfl⟩
         rw [<- hg4] at HB40 ⊢
         have hge6:w.heap.size<=g6:=by omega
         have hge9:w.heap.size<=g9:=by omega
         have n46:g4≠g6:=by omega
         have n64:g6≠g4:=by omega
         have n69:g6≠g9:=by omega
         have n96:g9≠g6:=by omega
         have n49:g4≠g9:=by omega
         have n94:g9≠g4:=by omega
         have n610:g6≠g10:=by omega
         have n106:g10≠g6:=by omega
         have n910:g9≠g10:=by omega
         have n109:g10≠g9:=by omega
         clear hW4 hg10 hg9 hg6 hg4 hs3 HB4 HB6 HB9 HC6 HC9 HC3
         obtain⟨q0,q1,q2,q3,q4,q5,q6,q7,y0,y1,y2,y3,y4,y5,y6,y7⟩:=HB10.out.cl8
         go_upto_region 7 with(go_at_call 109;refine(HN3.out _ HC10.out).mono ?_;rintro e w5 ⟨rfl,hc5⟩;have HC5:=kf hc5;have HB95:=kf (HB90.out.chg HC5.out (fun e=>e));obtain⟨v0,v1,v2,v3,v4,v5,v6,v7,u0,u1,u2,u3,u4,u5,u6,u7⟩:=HB95.out.cl8;clear hc5)
         have HS5:=kf (set8_chg w5 g9 (.int .i64 6) (.int .i64 (xf:Nat)) (.int .i64 (xt:Nat)) (.int .i64 (xvk:Nat)) (.int .i64 xvn) (.string X6) (.slice none 0 0) (.string ⟨#[82]⟩))
         have HB49:=kf ((HB40.out.chg HC5.out (fun e=>e)).chg HS5.out n49)
         have HB69:=kf ((HB60.out.chg HC5.out (fun e=>e)).chg HS5.out n69)
         have HB109:=kf ((HB10.out.chg HC5.out (fun e=>e)).chg HS5.out n109)
         have HB99:=kf (Blk.set8 HB95.out (.int .i64 6) (.int .i64 (xf:Nat)) (.int .i64 (xt:Nat)) (.int .i64 (xvk:Nat)) (.int .i64 xvn) (.string X6) (.slice none 0 0) (.string ⟨#[82]⟩))
         have HC9:=kf ((HC10.out.trans HC5.out (fun _ _ e=>e)).trans HS5.out (fun i hi e=>by omega:∀ i,i<w.heap.size->i=g9->NoS i))
         clear q0 q1 q2 q3 q4 q5 q6 q7 y0 y1 y2 y3 y4 y5 y6 y7 v0 v1 v2 v3 v4 v5 v6 v7 u0 u1 u2 u3 u4 u5 u6 u7
         generalize ((((((((w5.setCell ⟨g9,0,none⟩ (.int .i64 6)).setCell ⟨g9,1,none⟩ (.int .i64 (xf:Nat))).setCell ⟨g9,2,none⟩ (.int .i64 (xt:Nat))).setCell ⟨g9,3,none⟩ (.int .i64 (xvk:Nat))).setCell ⟨g9,4,none⟩ (.int .i64 xvn)).setCell ⟨g9,5,none⟩ (.string X6)).setCell ⟨g9,6,none⟩ (.slice none 0 0)).setCell ⟨g9,7,none⟩ (.string ⟨#[82]⟩))=W6 at *
         obtain⟨q0,q1,q2,q3,q4,q5,q6,q7,y0,y1,y2,y3,y4,y5,y6,y7⟩:=HB49.out.cl8
         obtain⟨r0,r1,r2,r3,z0,z1,z2,z3⟩:=HB69.out.cl4
         obtain⟨p0,p1,p2,p3,p4,p5,p6,p7,x0,x1,x2,x3,x4,x5,x6,x7⟩:=HB99.out.cl8
         obtain⟨k0,k1,k2,k3,k4,k5,k6,k7,l0,l1,l2,l3,l4,l5,l6,l7⟩:=HB109.out.cl8
         clear HB49 HB99 HB109
         go_wp2_with fail
         refine bodyPost_ret (v:=.tuple #[.agg #[.int .i64 0,.int .i64 0,.string ⟨#[]⟩,.slice none 0 0],.int .i64 0,.int .i64 26]) (by simp [results,Tryz.results115,go_sem,r0,r1,r2,r3]) rfl ?_
         refine⟨by rw [HE.out];rfl,?_⟩
         exact Chg.newc hge6 (Chg.newc hge6 (Chg.newc hge6 (Chg.newc hge6 HC9.out)))
     ·have HE:=kf (HRO.out trivial _ H3T.out h6 (.inr (by rw [<- HX7.out];exact hx)))
      have f2:(X7.toList==[82])=false:=by have h:=str_ne11 hx;rw [show(ByteArray.mk #[82]).toList=[82] from by kernel_rfl] at h;simpa using h
      have f3:¬X7.toList=[82]:=by simpa using f2
      clear HR6 HRO HR26 HR8 H3T h6
      have HB4:=kf (((Blk.new w 131 #[.int .i64 (tk:Nat),.int .i64 (tf:Nat),.int .i64 (tt_:Nat),.int .i64 2,.int .i64 tvn,.string S6,.slice none 0 0,.string S7]).alloc (.cells #[.int .i64 0,.int .i64 0,.string ⟨#[]⟩,.slice none 0 0] 25)))
      have HB6:=kf (Blk.new (w.alloc (.cells #[.int .i64 (tk:Nat),.int .i64 (tf:Nat),.int .i64 (tt_:Nat),.int .i64 2,.int .i64 tvn,.string S6,.slice none 0 0,.string S7] 131)) 25 #[.int .i64 0,.int .i64 0,.string ⟨#[]⟩,.slice none 0 0])
      have HC6:=kf (((Chg.refl NoS w).alloc (.cells #[.int .i64 (tk:Nat),.int .i64 (tf:Nat),.int .i64 (tt_:Nat),.int .i64 2,.int .i64 tvn,.string S6,.slice none 0 0,.string S7] 131)).alloc (.cells #[.int .i64 0,.int .i64 0,.string ⟨#[]⟩,.slice none 0 0] 25))
      have HC9:=kf (HC6.out.alloc (.cells #[.int .i64 0,.int .i64 0,.int .i64 0,.int .i64 0,.int .i64 0,.string ⟨#[]⟩,.slice none 0 0,.string ⟨#[]⟩] 131))
      have HB9:=kf (Blk.new ((w.alloc (.cells #[.int .i64 (tk:Nat),.int .i64 (tf:Nat),.int .i64 (tt_:Nat),.int .i64 2,.int .i64 tvn,.string S6,.slice none 0 0,.string S7] 131)).alloc (.cells #[.int .i64 0,.int .i64 0,.string ⟨#[]⟩,.slice none 0 0] 25)) 131 #[.int .i64 0,.int .i64 0,.int .i64 0,.int .i64 0,.int .i64 0,.string ⟨#[]⟩,.slice none 0 0,.string ⟨#[]⟩])
      go_enter Tryz.func115,Tryz.ntmps115
      go_upto_region 5 with(go_at_call 109;refine(HN2.out _ HC9.out).mono ?_;rintro e w3 ⟨rfl,hc3⟩;have HC3:=kf hc3;clear hc3)
      have HB40:=kf (((HB4.out.alloc (.cells #[.int .i64 0,.int .i64 0,.int .i64 0,.int .i64 0,.int .i64 0,.string ⟨#[]⟩,.slice none 0 0,.string ⟨#[]⟩] 131)).chg HC3.out (fun e=>e)).alloc (.cells #[.int .i64 (uk:Nat),.int .i64 (uf:Nat),.int .i64 (ut:Nat),.int .i64 2,.int .i64 uvn,.string U6,.slice none 0 0,.string U7] 131))
      have HB60:=kf (((HB6.out.alloc (.cells #[.int .i64 0,.int .i64 0,.int .i64 0,.int .i64 0,.int .i64 0,.string ⟨#[]⟩,.slice none 0 0,.string ⟨#[]⟩] 131)).chg HC3.out (fun e=>e)).alloc (.cells #[.int .i64 (uk:Nat),.int .i64 (uf:Nat),.int .i64 (ut:Nat),.int .i64 2,.int .i64 uvn,.string U6,.slice none 0 0,.string U7] 131))
      have HB90:=kf ((HB9.out.chg HC3.out (fun e=>e)).alloc (.cells #[.int .i64 (uk:Nat),.int .i64 (uf:Nat),.int .i64 (ut:Nat),.int .i64 2,.int .i64 uvn,.string U6,.slice none 0 0,.string U7] 131))
      have HB10:=kf (Blk.new w3 131 #[.int .i64 (uk:Nat),.int .i64 (uf:Nat),.int .i64 (ut:Nat),.int .i64 2,.int .i64 uvn,.string U6,.slice none 0 0,.string U7])
      have HC10:=kf ((HC9.out.trans HC3.out (fun _ _ e=>e)).alloc (.cells #[.int .i64 (uk:Nat),.int .i64 (uf:Nat),.int .i64 (ut:Nat),.int .i64 2,.int .i64 uvn,.string U6,.slice none 0 0,.string U7] 131))
      have hs3:=HC3.out.size
      simp only [World.size_alloc] at hs3 HB60 HB90
      obtain⟨W4,hW4⟩:∃ W4,W4=w3.alloc (.cells #[.int .i64 (uk:Nat),.int .i64 (uf:Nat),.int .i64 (ut:Nat),.int .i64 2,.int .i64 uvn,.string U6,.slice none 0 0,.string U7] 131):=⟨_,rfl⟩
      obtain⟨g10,hg10⟩:∃ g10,g10=w3.heap.size:=⟨_,rfl⟩
      rw [<- hW4] at HB40 HB60 HB90 HB10 HC10 ⊢
      rw [<- hg10] at HB10 hs3 ⊢
      obtain⟨g9,hg9⟩:∃ g9,g9=w.heap.size+1+1:=⟨_,rfl⟩
      rw [<- hg9] at HB90 ⊢
      obtain⟨g6,hg6⟩:∃ g6,g6=w.heap.size+1:=⟨_,rfl⟩
      rw [<- hg6] at HB60 ⊢
      obtain⟨g4,hg4⟩:∃ g4,g4=w.heap.size:=⟨_,rfl⟩
      rw [<- hg4] at HB40 ⊢
      have hge6:w.heap.size<=g6:=by omega
      have hge9:w.heap.size<=g9:=by omega
      have n46:g4≠g6:=by omega
      have n64:g6≠g4:=by omega
      have n69:g6≠g9:=by omega
      have n96:g9≠g6:=by omega
      have n49:g4≠g9:=by omega
      have n94:g9≠g4:=by omega
      have n610:g6≠g10:=by omega
      have n106:g10≠g6:=by omega
      have n910:g9≠g10:=by omega
      have n109:g10≠g9:=by omega
      clear hW4 hg10 hg9 hg6 hg4 hs3 HB4 HB6 HB9 HC6 HC9 HC3
      obtain⟨q0,q1,q2,q3,q4,q5,q6,q7,y0,y1,y2,y3,y4,y5,y6,y7⟩:=HB10.out.cl8
      go_upto_region 7 with(go_at_call 109;refine(HN3.out _ HC10.out).mono ?_;rintro e w5 ⟨rfl,hc5⟩;have HC5:=kf hc5;have HB95:=kf (HB90.out.chg HC5.out (fun e=>e));obtain⟨v0,v1,v2,v3,v4,v5,v6,v7,u0,u1,u2,u3,u4,u5,u6,u7⟩:=HB95.out.cl8;clear hc5)
      have HS5:=kf (set8_chg w5 g9 (.int .i64 6) (.int .i64 (xf:Nat)) (.int .i64 (xt:Nat)) (.int .i64 (xvk:Nat)) (.int .i64 xvn) (.string X6) (.slice none 0 0) (.string X7))
      have HB49:=kf ((HB40.out.chg HC5.out (fun e=>e)).chg HS5.out n49)
      have HB69:=kf ((HB60.out.chg HC5.out (fun e=>e)).chg HS5.out n69)
      have HB109:=kf ((HB10.out.chg HC5.out (fun e=>e)).chg HS5.out n109)
      have HB99:=kf (Blk.set8 HB95.out (.int .i64 6) (.int .i64 (xf:Nat)) (.int .i64 (xt:Nat)) (.int .i64 (xvk:Nat)) (.int .i64 xvn) (.string X6) (.slice none 0 0) (.string X7))
      have HC9:=kf ((HC10.out.trans HC5.out (fun _ _ e=>e)).trans HS5.out (fun i hi e=>by omega:∀ i,i<w.heap.size->i=g9->NoS i))
      clear q0 q1 q2 q3 q4 q5 q6 q7 y0 y1 y2 y3 y4 y5 y6 y7 v0 v1 v2 v3 v4 v5 v6 v7 u0 u1 u2 u3 u4 u5 u6 u7
      generalize ((((((((w5.setCell ⟨g9,0,none⟩ (.int .i64 6)).setCell ⟨g9,1,none⟩ (.int .i64 (xf:Nat))).setCell ⟨g9,2,none⟩ (.int .i64 (xt:Nat))).setCell ⟨g9,3,none⟩ (.int .i64 (xvk:Nat))).setCell ⟨g9,4,none⟩ (.int .i64 xvn)).setCell ⟨g9,5,none⟩ (.string X6)).setCell ⟨g9,6,none⟩ (.slice none 0 0)).setCell ⟨g9,7,none⟩ (.string X7))=W6 at *
      obtain⟨q0,q1,q2,q3,q4,q5,q6,q7,y0,y1,y2,y3,y4,y5,y6,y7⟩:=HB49.out.cl8
      obtain⟨r0,r1,r2,r3,z0,z1,z2,z3⟩:=HB69.out.cl4
      obtain⟨p0,p1,p2,p3,p4,p5,p6,p7,x0,x1,x2,x3,x4,x5,x6,x7⟩:=HB99.out.cl8
      obtain⟨k0,k1,k2,k3,k4,k5,k6,k7,l0,l1,l2,l3,l4,l5,l6,l7⟩:=HB109.out.cl8
      clear HB49 HB99 HB109
      go_upto_region 10 with fail
      go_region
      go_wp2_with fail
      refine bodyPost_ret (v:=.tuple #[.agg #[.int .i64 2,.int .i64 tvn,.string S6,.slice none 0 0],.int .i64 (tt_:Nat),.int .i64 0]) (by simp [results,Tryz.results115,go_sem,r0,r1,r2,r3]) rfl ?_
      refine⟨by rw [HE.out];rw [HS6.out];rfl,?_⟩
      exact Chg.newc hge6 (Chg.newc hge6 (Chg.newc hge6 (Chg.newc hge6 HC9.out))).drew
    ·have HE:=kf (HRO.out trivial _ H3T.out h6 (.inl hk6))
     have d7:((xk:Int) != 6)=true:=by simp;omega
     have d7':((xk:Int)==6)=false:=by simp;omega
     have d7n:(xk==6)=false:=by simp;omega
     clear HR6 HRO HR26 HR8 H3T h6
     have HB4:=kf (((Blk.new w 131 #[.int .i64 (tk:Nat),.int .i64 (tf:Nat),.int .i64 (tt_:Nat),.int .i64 2,.int .i64 tvn,.string S6,.slice none 0 0,.string S7]).alloc (.cells #[.int .i64 0,.int .i64 0,.string ⟨#[]⟩,.slice none 0 0] 25)))
     have HB6:=kf (Blk.new (w.alloc (.cells #[.int .i64 (tk:Nat),.int .i64 (tf:Nat),.int .i64 (tt_:Nat),.int .i64 2,.int .i64 tvn,.string S6,.slice none 0 0,.string S7] 131)) 25 #[.int .i64 0,.int .i64 0,.string ⟨#[]⟩,.slice none 0 0])
     have HC6:=kf (((Chg.refl NoS w).alloc (.cells #[.int .i64 (tk:Nat),.int .i64 (tf:Nat),.int .i64 (tt_:Nat),.int .i64 2,.int .i64 tvn,.string S6,.slice none 0 0,.string S7] 131)).alloc (.cells #[.int .i64 0,.int .i64 0,.string ⟨#[]⟩,.slice none 0 0] 25))
     have HC9:=kf (HC6.out.alloc (.cells #[.int .i64 0,.int .i64 0,.int .i64 0,.int .i64 0,.int .i64 0,.string ⟨#[]⟩,.slice none 0 0,.string ⟨#[]⟩] 131))
     have HB9:=kf (Blk.new ((w.alloc (.cells #[.int .i64 (tk:Nat),.int .i64 (tf:Nat),.int .i64 (tt_:Nat),.int .i64 2,.int .i64 tvn,.string S6,.slice none 0 0,.string S7] 131)).alloc (.cells #[.int .i64 0,.int .i64 0,.string ⟨#[]⟩,.slice none 0 0] 25)) 131 #[.int .i64 0,.int .i64 0,.int .i64 0,.int .i64 0,.int .i64 0,.string ⟨#[]⟩,.slice none 0 0,.string ⟨#[]⟩])
     go_enter Tryz.func115,Tryz.ntmps115
     go_upto_region 5 with(go_at_call 109;refine(HN2.out _ HC9.out).mono ?_;rintro e w3 ⟨rfl,hc3⟩;have HC3:=kf hc3;clear hc3)
     have HB40:=kf (((HB4.out.alloc (.cells #[.int .i64 0,.int .i64 0,.int .i64 0,.int .i64 0,.int .i64 0,.string ⟨#[]⟩,.slice none 0 0,.string ⟨#[]⟩] 131)).chg HC3.out (fun e=>e)).alloc (.cells #[.int .i64 (uk:Nat),.int .i64 (uf:Nat),.int .i64 (ut:Nat),.int .i64 2,.int .i64 uvn,.string U6,.slice none 0 0,.string U7] 131))
     have HB60:=kf (((HB6.out.alloc (.cells #[.int .i64 0,.int .i64 0,.int .i64 0,.int .i64 0,.int .i64 0,.string ⟨#[]⟩,.slice none 0 0,.string ⟨#[]⟩] 131)).chg HC3.out (fun e=>e)).alloc (.cells #[.int .i64 (uk:Nat),.int .i64 (uf:Nat),.int .i64 (ut:Nat),.int .i64 2,.int .i64 uvn,.string U6,.slice none 0 0,.string U7] 131))
     have HB90:=kf ((HB9.out.chg HC3.out (fun e=>e)).alloc (.cells #[.int .i64 (uk:Nat),.int .i64 (uf:Nat),.int .i64 (ut:Nat),.int .i64 2,.int .i64 uvn,.string U6,.slice none 0 0,.string U7] 131))
     have HB10:=kf (Blk.new w3 131 #[.int .i64 (uk:Nat),.int .i64 (uf:Nat),.int .i64 (ut:Nat),.int .i64 2,.int .i64 uvn,.string U6,.slice none 0 0,.string U7])
     have HC10:=kf ((HC9.out.trans HC3.out (fun _ _ e=>e)).alloc (.cells #[.int .i64 (uk:Nat),.int .i64 (uf:Nat),.int .i64 (ut:Nat),.int .i64 2,.int .i64 uvn,.string U6,.slice none 0 0,.string U7] 131))
     have hs3:=HC3.out.size
     simp only [World.size_alloc] at hs3 HB60 HB90
     obtain⟨W4,hW4⟩:∃ W4,W4=w3.alloc (.cells #[.int .i64 (uk:Nat),.int .i64 (uf:Nat),.int .i64 (ut:Nat),.int .i64 2,.int .i64 uvn,.string U6,.slice none 0 0,.string U7] 131):=⟨_,rfl⟩
     obtain⟨g10,hg10⟩:∃ g10,g10=w3.heap.size:=⟨_,rfl⟩
     rw [<- hW4] at HB40 HB60 HB90 HB10 HC10 ⊢
     rw [<- hg10] at HB10 hs3 ⊢
     obtain⟨g9,hg9⟩:∃ g9,g9=w.heap.size+1+1:=⟨_,rfl⟩
     rw [<- hg9] at HB90 ⊢
     obtain⟨g6,hg6⟩:∃ g6,g6=w.heap.size+1:=⟨_,rfl⟩
     rw [<- hg6] at HB60 ⊢
     obtain⟨g4,hg4⟩:∃ g4,g4=w.heap.size:=⟨_,rfl⟩
     rw [<- hg4] at HB40 ⊢
     have hge6:w.heap.size<=g6:=by omega
     have hge9:w.heap.size<=g9:=by omega
     have n46:g4≠g6:=by omega
     have n64:g6≠g4:=by omega
     have n69:g6≠g9:=by omega
     have n96:g9≠g6:=by omega
     have n49:g4≠g9:=by omega
     have n94:g9≠g4:=by omega
     have n610:g6≠g10:=by omega
     have n106:g10≠g6:=by omega
     have n910:g9≠g10:=by omega
     have n109:g10≠g9:=by omega
     clear hW4 hg10 hg9 hg6 hg4 hs3 HB4 HB6 HB9 HC6 HC9 HC3
     obtain⟨q0,q1,q2,q3,q4,q5,q6,q7,y0,y1,y2,y3,y4,y5,y6,y7⟩:=HB10.out.cl8
     go_upto_region 7 with(go_at_call 109;refine(HN3.out _ HC10.out).mono ?_;rintro e w5 ⟨rfl,hc5⟩;have HC5:=kf hc5;have HB95:=kf (HB90.out.chg HC5.out (fun e=>e));obtain⟨v0,v1,v2,v3,v4,v5,v6,v7,u0,u1,u2,u3,u4,u5,u6,u7⟩:=HB95.out.cl8;clear hc5)
     have HS5:=kf (set8_chg w5 g9 (.int .i64 (xk:Nat)) (.int .i64 (xf:Nat)) (.int .i64 (xt:Nat)) (.int .i64 (xvk:Nat)) (.int .i64 xvn) (.string X6) (.slice none 0 0) (.string X7))
     have HB49:=kf ((HB40.out.chg HC5.out (fun e=>e)).chg HS5.out n49)
     have HB69:=kf ((HB60.out.chg HC5.out (fun e=>e)).chg HS5.out n69)
     have HB109:=kf ((HB10.out.chg HC5.out (fun e=>e)).chg HS5.out n109)
     have HB99:=kf (Blk.set8 HB95.out (.int .i64 (xk:Nat)) (.int .i64 (xf:Nat)) (.int .i64 (xt:Nat)) (.int .i64 (xvk:Nat)) (.int .i64 xvn) (.string X6) (.slice none 0 0) (.string X7))
     have HC9:=kf ((HC10.out.trans HC5.out (fun _ _ e=>e)).trans HS5.out (fun i hi e=>by omega:∀ i,i<w.heap.size->i=g9->NoS i))
     clear q0 q1 q2 q3 q4 q5 q6 q7 y0 y1 y2 y3 y4 y5 y6 y7 v0 v1 v2 v3 v4 v5 v6 v7 u0 u1 u2 u3 u4 u5 u6 u7
     generalize ((((((((w5.setCell ⟨g9,0,none⟩ (.int .i64 (xk:Nat))).setCell ⟨g9,1,none⟩ (.int .i64 (xf:Nat))).setCell ⟨g9,2,none⟩ (.int .i64 (xt:Nat))).setCell ⟨g9,3,none⟩ (.int .i64 (xvk:Nat))).setCell ⟨g9,4,none⟩ (.int .i64 xvn)).setCell ⟨g9,5,none⟩ (.string X6)).setCell ⟨g9,6,none⟩ (.slice none 0 0)).setCell ⟨g9,7,none⟩ (.string X7))=W6 at *
     obtain⟨q0,q1,q2,q3,q4,q5,q6,q7,y0,y1,y2,y3,y4,y5,y6,y7⟩:=HB49.out.cl8
     obtain⟨r0,r1,r2,r3,z0,z1,z2,z3⟩:=HB69.out.cl4
     obtain⟨p0,p1,p2,p3,p4,p5,p6,p7,x0,x1,x2,x3,x4,x5,x6,x7⟩:=HB99.out.cl8
     obtain⟨k0,k1,k2,k3,k4,k5,k6,k7,l0,l1,l2,l3,l4,l5,l6,l7⟩:=HB109.out.cl8
     clear HB49 HB99 HB109
     go_upto_region 10 with fail
     go_region
     go_wp2_with fail
     refine bodyPost_ret (v:=.tuple #[.agg #[.int .i64 2,.int .i64 tvn,.string S6,.slice none 0 0],.int .i64 (tt_:Nat),.int .i64 0]) (by simp [results,Tryz.results115,go_sem,r0,r1,r2,r3]) rfl ?_
     refine⟨by rw [HE.out];rw [HS6.out];rfl,?_⟩
     exact Chg.newc hge6 (Chg.newc hge6 (Chg.newc hge6 (Chg.newc hge6 HC9.out))).drew
  ·have H3T:Hid (thirdO bs last (e2,⟨uk,uf,ut,uvk,uvn,uvs,us⟩)=(e2,noT 0)):=if_neg huk
   have d5:((uvk:Int)==2)=false:=by simp;omega
   have d5':(uvk==2)=false:=by simp;omega
   rw [<- hN] at HN2 ⊢
   clear HNX HR1 HER HTO hS hb hl hc ht hN
   by_cases h6:e2=6
   ·subst h6
    have HE:=kf (HR6.out trivial _ H3T.out rfl)
    clear HR6 HRO HR26 HR8 H3T
    have HB4:=kf (((Blk.new w 131 #[.int .i64 (tk:Nat),.int .i64 (tf:Nat),.int .i64 (tt_:Nat),.int .i64 2,.int .i64 tvn,.string S6,.slice none 0 0,.string S7]).alloc (.cells #[.int .i64 0,.int .i64 0,.string ⟨#[]⟩,.slice none 0 0] 25)))
    have HB6:=kf (Blk.new (w.alloc (.cells #[.int .i64 (tk:Nat),.int .i64 (tf:Nat),.int .i64 (tt_:Nat),.int .i64 2,.int .i64 tvn,.string S6,.slice none 0 0,.string S7] 131)) 25 #[.int .i64 0,.int .i64 0,.string ⟨#[]⟩,.slice none 0 0])
    have HC6:=kf (((Chg.refl NoS w).alloc (.cells #[.int .i64 (tk:Nat),.int .i64 (tf:Nat),.int .i64 (tt_:Nat),.int .i64 2,.int .i64 tvn,.string S6,.slice none 0 0,.string S7] 131)).alloc (.cells #[.int .i64 0,.int .i64 0,.string ⟨#[]⟩,.slice none 0 0] 25))
    have HC9:=kf (HC6.out.alloc (.cells #[.int .i64 0,.int .i64 0,.int .i64 0,.int .i64 0,.int .i64 0,.string ⟨#[]⟩,.slice none 0 0,.string ⟨#[]⟩] 131))
    have HB9:=kf (Blk.new ((w.alloc (.cells #[.int .i64 (tk:Nat),.int .i64 (tf:Nat),.int .i64 (tt_:Nat),.int .i64 2,.int .i64 tvn,.string S6,.slice none 0 0,.string S7] 131)).alloc (.cells #[.int .i64 0,.int .i64 0,.string ⟨#[]⟩,.slice none 0 0] 25)) 131 #[.int .i64 0,.int .i64 0,.int .i64 0,.int .i64 0,.int .i64 0,.string ⟨#[]⟩,.slice none 0 0,.string ⟨#[]⟩])
    go_enter Tryz.func115,Tryz.ntmps115
    go_upto_region 5 with(go_at_call 109;refine(HN2.out _ HC9.out).mono ?_;rintro e w3 ⟨rfl,hc3⟩;have HC3:=kf hc3;clear hc3)
    have HB40:=kf (((HB4.out.alloc (.cells #[.int .i64 0,.int .i64 0,.int .i64 0,.int .i64 0,.int .i64 0,.string ⟨#[]⟩,.slice none 0 0,.string ⟨#[]⟩] 131)).chg HC3.out (fun e=>e)).alloc (.cells #[.int .i64 (uk:Nat),.int .i64 (uf:Nat),.int .i64 (ut:Nat),.int .i64 (uvk:Nat),.int .i64 uvn,.string U6,.slice none 0 0,.string U7] 131))
    have HB60:=kf (((HB6.out.alloc (.cells #[.int .i64 0,.int .i64 0,.int .i64 0,.int .i64 0,.int .i64 0,.string ⟨#[]⟩,.slice none 0 0,.string ⟨#[]⟩] 131)).chg HC3.out (fun e=>e)).alloc (.cells #[.int .i64 (uk:Nat),.int .i64 (uf:Nat),.int .i64 (ut:Nat),.int .i64 (uvk:Nat),.int .i64 uvn,.string U6,.slice none 0 0,.string U7] 131))
    have HB90:=kf ((HB9.out.chg HC3.out (fun e=>e)).alloc (.cells #[.int .i64 (uk:Nat),.int .i64 (uf:Nat),.int .i64 (ut:Nat),.int .i64 (uvk:Nat),.int .i64 uvn,.string U6,.slice none 0 0,.string U7] 131))
    have HB10:=kf (Blk.new w3 131 #[.int .i64 (uk:Nat),.int .i64 (uf:Nat),.int .i64 (ut:Nat),.int .i64 (uvk:Nat),.int .i64 uvn,.string U6,.slice none 0 0,.string U7])
    have HC10:=kf ((HC9.out.trans HC3.out (fun _ _ e=>e)).alloc (.cells #[.int .i64 (uk:Nat),.int .i64 (uf:Nat),.int .i64 (ut:Nat),.int .i64 (uvk:Nat),.int .i64 uvn,.string U6,.slice none 0 0,.string U7] 131))
    have hs3:=HC3.out.size
    simp only [World.size_alloc] at hs3 HB60 HB90
    obtain⟨W4,hW4⟩:∃ W4,W4=w3.alloc (.cells #[.int .i64 (uk:Nat),.int .i64 (uf:Nat),.int .i64 (ut:Nat),.int .i64 (uvk:Nat),.int .i64 uvn,.string U6,.slice none 0 0,.string U7] 131):=⟨_,rfl⟩
    obtain⟨g10,hg10⟩:∃ g10,g10=w3.heap.size:=⟨_,rfl⟩
    rw [<- hW4] at HB40 HB60 HB90 HB10 HC10 ⊢
    rw [<- hg10] at HB10 hs3 ⊢
    obtain⟨g9,hg9⟩:∃ g9,g9=w.heap.size+1+1:=⟨_,rfl⟩
    rw [<- hg9] at HB90 ⊢
    obtain⟨g6,hg6⟩:∃ g6,g6=w.heap.size+1:=⟨_,rfl⟩
    rw [<- hg6] at HB60 ⊢
    obtain⟨g4,hg4⟩:∃ g4,g4=w.heap.size:=⟨_,rfl⟩
    rw [<- hg4] at HB40 ⊢
    have hge6:w.heap.size<=g6:=by omega
    have hge9:w.heap.size<=g9:=by omega
    have n46:g4≠g6:=by omega
    have n64:g6≠g4:=by omega
    have n69:g6≠g9:=by omega
    have n96:g9≠g6:=by omega
    have n49:g4≠g9:=by omega
    have n94:g9≠g4:=by omega
    have n610:g6≠g10:=by omega
    have n106:g10≠g6:=by omega
    have n910:g9≠g10:=by omega
    have n109:g10≠g9:=by omega
    clear hW4 hg10 hg9 hg6 hg4 hs3 HB4 HB6 HB9 HC6 HC9 HC3
    obtain⟨q0,q1,q2,q3,q4,q5,q6,q7,y0,y1,y2,y3,y4,y5,y6,y7⟩:=HB40.out.cl8
    obtain⟨r0,r1,r2,r3,z0,z1,z2,z3⟩:=HB60.out.cl4
    obtain⟨p0,p1,p2,p3,p4,p5,p6,p7,x0,x1,x2,x3,x4,x5,x6,x7⟩:=HB90.out.cl8
    obtain⟨k0,k1,k2,k3,k4,k5,k6,k7,l0,l1,l2,l3,l4,l5,l6,l7⟩:=HB10.out.cl8
    clear HB40 HB90 HB10
    go_wp2_with fail
    refine bodyPost_ret (v:=.tuple #[.agg #[.int .i64 0,.int .i64 0,.string ⟨#[]⟩,.slice none 0 0],.int .i64 0,.int .i64 6]) (by simp [results,Tryz.results115,go_sem,r0,r1,r2,r3]) rfl ?_
    refine⟨by rw [HE.out];rfl,?_⟩
    exact Chg.newc hge6 (Chg.newc hge6 (Chg.newc hge6 (Chg.newc hge6 HC10.out)))
   ·have d6:(e2==6)=false:=by simpa using h6
    have HE:=kf (HRO.out trivial _ H3T.out h6 (.inl (show(0:Nat)≠6 from by decide)))
    clear HR6 HRO HR26 HR8 H3T h6
    have HB4:=kf (((Blk.new w 131 #[.int .i64 (tk:Nat),.int .i64 (tf:Nat),.int .i64 (tt_:Nat),.int .i64 2,.int .i64 tvn,.string S6,.slice none 0 0,.string S7]).alloc (.cells #[.int .i64 0,.int .i64 0,.string ⟨#[]⟩,.slice none 0 0] 25)))
    have HB6:=kf (Blk.new (w.alloc (.cells #[.int .i64 (tk:Nat),.int .i64 (tf:Nat),.int .i64 (tt_:Nat),.int .i64 2,.int .i64 tvn,.string S6,.slice none 0 0,.string S7] 131)) 25 #[.int .i64 0,.int .i64 0,.string ⟨#[]⟩,.slice none 0 0])
    have HC6:=kf (((Chg.refl NoS w).alloc (.cells #[.int .i64 (tk:Nat),.int .i64 (tf:Nat),.int .i64 (tt_:Nat),.int .i64 2,.int .i64 tvn,.string S6,.slice none 0 0,.string S7] 131)).alloc (.cells #[.int .i64 0,.int .i64 0,.string ⟨#[]⟩,.slice none 0 0] 25))
    have HC9:=kf (HC6.out.alloc (.cells #[.int .i64 0,.int .i64 0,.int .i64 0,.int .i64 0,.int .i64 0,.string ⟨#[]⟩,.slice none 0 0,.string ⟨#[]⟩] 131))
    have HB9:=kf (Blk.new ((w.alloc (.cells #[.int .i64 (tk:Nat),.int .i64 (tf:Nat),.int .i64 (tt_:Nat),.int .i64 2,.int .i64 tvn,.string S6,.slice none 0 0,.string S7] 131)).alloc (.cells #[.int .i64 0,.int .i64 0,.string ⟨#[]⟩,.slice none 0 0] 25)) 131 #[.int .i64 0,.int .i64 0,.int .i64 0,.int .i64 0,.int .i64 0,.string ⟨#[]⟩,.slice none 0 0,.string ⟨#[]⟩])
    go_enter Tryz.func115,Tryz.ntmps115
    go_upto_region 5 with(go_at_call 109;refine(HN2.out _ HC9.out).mono ?_;rintro e w3 ⟨rfl,hc3⟩;have HC3:=kf hc3;clear hc3)
    have HB40:=kf (((HB4.out.alloc (.cells #[.int .i64 0,.int .i64 0,.int .i64 0,.int .i64 0,.int .i64 0,.string ⟨#[]⟩,.slice none 0 0,.string ⟨#[]⟩] 131)).chg HC3.out (fun e=>e)).alloc (.cells #[.int .i64 (uk:Nat),.int .i64 (uf:Nat),.int .i64 (ut:Nat),.int .i64 (uvk:Nat),.int .i64 uvn,.string U6,.slice none 0 0,.string U7] 131))
    have HB60:=kf (((HB6.out.alloc (.cells #[.int .i64 0,.int .i64 0,.int .i64 0,.int .i64 0,.int .i64 0,.string ⟨#[]⟩,.slice none 0 0,.string ⟨#[]⟩] 131)).chg HC3.out (fun e=>e)).alloc (.cells #[.int .i64 (uk:Nat),.int .i64 (uf:Nat),.int .i64 (ut:Nat),.int .i64 (uvk:Nat),.int .i64 uvn,.string U6,.slice none 0 0,.string U7] 131))
    have HB90:=kf ((HB9.out.chg HC3.out (fun e=>e)).alloc (.cells #[.int .i64 (uk:Nat),.int .i64 (uf:Nat),.int .i64 (ut:Nat),.int .i64 (uvk:Nat),.int .i64 uvn,.string U6,.slice none 0 0,.string U7] 131))
    have HB10:=kf (Blk.new w3 131 #[.int .i64 (uk:Nat),.int .i64 (uf:Nat),.int .i64 (ut:Nat),.int .i64 (uvk:Nat),.int .i64 uvn,.string U6,.slice none 0 0,.string U7])
    have HC10:=kf ((HC9.out.trans HC3.out (fun _ _ e=>e)).alloc (.cells #[.int .i64 (uk:Nat),.int .i64 (uf:Nat),.int .i64 (ut:Nat),.int .i64 (uvk:Nat),.int .i64 uvn,.string U6,.slice none 0 0,.string U7] 131))
    have hs3:=HC3.out.size
    simp only [World.size_alloc] at hs3 HB60 HB90
    obtain⟨W4,hW4⟩:∃ W4,W4=w3.alloc (.cells #[.int .i64 (uk:Nat),.int .i64 (uf:Nat),.int .i64 (ut:Nat),.int .i64 (uvk:Nat),.int .i64 uvn,.string U6,.slice none 0 0,.string U7] 131):=⟨_,rfl⟩
    obtain⟨g10,hg10⟩:∃ g10,g10=w3.heap.size:=⟨_,rfl⟩
    rw [<- hW4] at HB40 HB60 HB90 HB10 HC10 ⊢
    rw [<- hg10] at HB10 hs3 ⊢
    obtain⟨g9,hg9⟩:∃ g9,g9=w.heap.size+1+1:=⟨_,rfl⟩
    rw [<- hg9] at HB90 ⊢
    obtain⟨g6,hg6⟩:∃ g6,g6=w.heap.size+1:=⟨_,rfl⟩
    rw [<- hg6] at HB60 ⊢
    obtain⟨g4,hg4⟩:∃ g4,g4=w.heap.size:=⟨_,rfl⟩
    rw [<- hg4] at HB40 ⊢
    have hge6:w.heap.size<=g6:=by omega
    have hge9:w.heap.size<=g9:=by omega
    have n46:g4≠g6:=by omega
    have n64:g6≠g4:=by omega
    have n69:g6≠g9:=by omega
    have n96:g9≠g6:=by omega
    have n49:g4≠g9:=by omega
    have n94:g9≠g4:=by omega
    have n610:g6≠g10:=by omega
    have n106:g10≠g6:=by omega
    have n910:g9≠g10:=by omega
    have n109:g10≠g9:=by omega
    clear hW4 hg10 hg9 hg6 hg4 hs3 HB4 HB6 HB9 HC6 HC9 HC3
    obtain⟨q0,q1,q2,q3,q4,q5,q6,q7,y0,y1,y2,y3,y4,y5,y6,y7⟩:=HB40.out.cl8
    obtain⟨r0,r1,r2,r3,z0,z1,z2,z3⟩:=HB60.out.cl4
    obtain⟨p0,p1,p2,p3,p4,p5,p6,p7,x0,x1,x2,x3,x4,x5,x6,x7⟩:=HB90.out.cl8
    obtain⟨k0,k1,k2,k3,k4,k5,k6,k7,l0,l1,l2,l3,l4,l5,l6,l7⟩:=HB10.out.cl8
    clear HB40 HB90 HB10
    go_upto_region 10 with fail
    go_region
    go_wp2_with fail
    refine bodyPost_ret (v:=.tuple #[.agg #[.int .i64 2,.int .i64 tvn,.string S6,.slice none 0 0],.int .i64 (tt_:Nat),.int .i64 0]) (by simp [results,Tryz.results115,go_sem,r0,r1,r2,r3]) rfl ?_
    refine⟨by rw [HE.out];rw [HS6.out];rfl,?_⟩
    exact Chg.newc hge6 (Chg.newc hge6 (Chg.newc hge6 (Chg.newc hge6 HC10.out))).drew
 ·have HE:=kf (HR1.out hvk)
  have d1:((tvk:Int) != 2)=true:=by simp;omega
  have d1':((tvk:Int)==2)=false:=by simp;omega
  have d1n:(tvk==2)=false:=by simp;omega
  rw [<- hN]
  clear HR6 HRO HR26 HR8 HR1 hN
  have HB4:=kf (((Blk.new w 131 #[.int .i64 (tk:Nat),.int .i64 (tf:Nat),.int .i64 (tt_:Nat),.int .i64 (tvk:Nat),.int .i64 tvn,.string S6,.slice none 0 0,.string S7]).alloc (.cells #[.int .i64 0,.int .i64 0,.string ⟨#[]⟩,.slice none 0 0] 25)))
  have HB6:=kf (Blk.new (w.alloc (.cells #[.int .i64 (tk:Nat),.int .i64 (tf:Nat),.int .i64 (tt_:Nat),.int .i64 (tvk:Nat),.int .i64 tvn,.string S6,.slice none 0 0,.string S7] 131)) 25 #[.int .i64 0,.int .i64 0,.string ⟨#[]⟩,.slice none 0 0])
  have HC6:=kf (((Chg.refl NoS w).alloc (.cells #[.int .i64 (tk:Nat),.int .i64 (tf:Nat),.int .i64 (tt_:Nat),.int .i64 (tvk:Nat),.int .i64 tvn,.string S6,.slice none 0 0,.string S7] 131)).alloc (.cells #[.int .i64 0,.int .i64 0,.string ⟨#[]⟩,.slice none 0 0] 25))
  clear hS hb hl hc HNX
  go_enter Tryz.func115,Tryz.ntmps115
  go_upto_region 2 with fail
  obtain⟨W0,hW0⟩:∃ W0,W0=(w.alloc (.cells #[.int .i64 (tk:Nat),.int .i64 (tf:Nat),.int .i64 (tt_:Nat),.int .i64 (tvk:Nat),.int .i64 tvn,.string S6,.slice none 0 0,.string S7] 131)).alloc (.cells #[.int .i64 0,.int .i64 0,.string ⟨#[]⟩,.slice none 0 0] 25):=⟨_,rfl⟩
  rw [<- hW0] at HB4 HB6 HC6 ⊢
  simp only [World.size_alloc] at HB6
  obtain⟨g6,hg6⟩:∃ g6,g6=w.heap.size+1:=⟨_,rfl⟩
  rw [<- hg6] at HB6 ⊢
  obtain⟨g4,hg4⟩:∃ g4,g4=w.heap.size:=⟨_,rfl⟩
  rw [<- hg4] at HB4 ⊢
  have hge6:w.heap.size<=g6:=by omega
  have hne1:g4≠g6:=by omega
  have hne2:g6≠g4:=by omega
  obtain⟨q0,q1,q2,q3,q4,q5,q6,q7,y0,y1,y2,y3,y4,y5,y6,y7⟩:=HB4.out.cl8
  obtain⟨r0,r1,r2,r3,z0,z1,z2,z3⟩:=HB6.out.cl4
  clear hW0 hg6 hg4
  go_region
  go_wp2_with fail
  refine bodyPost_ret (v:=.tuple #[.agg #[.int .i64 (tvk:Nat),.int .i64 tvn,.string S6,.slice none 0 0],.int .i64 (tt_:Nat),.int .i64 0]) (by simp [results,Tryz.results115,go_sem,r0,r1,r2,r3]) rfl ?_
  refine⟨by rw [HE.out];rw [HS6.out];rfl,?_⟩
  exact Chg.newc hge6 (Chg.newc hge6 (Chg.newc hge6 (Chg.newc hge6 HC6.out))).drew
end Go.Proofs.YthejpkflcgjdoaaGreatDoor
