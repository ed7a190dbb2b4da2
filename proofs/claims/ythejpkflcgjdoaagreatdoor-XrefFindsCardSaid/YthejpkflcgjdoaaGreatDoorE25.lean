/- Merged by program. -/
import Derived.Test.YthejpkflcgjdoaaGreatDoorE20
set_option linter.unusedVariables false
set_option linter.unusedSimpArgs false
namespace Go.Proofs.YthejpkflcgjdoaaGreatDoor
open Go.RowKit
def mustO (r:Int × Tkn):Int × Tkn:=if r.1=0/\r.2.kind=0 then(10,noT 0) else r
set_option maxHeartbeats 4000000 in
set_option maxRecDepth 100000 in
theorem qtok_any (bs:List Nat) (A:Option Addr) (c:Nat) (p:Int) (last:Bool) (w:World) (hS:Src w 1 A bs.length c (lcells bs)) (hl:bs.length<=400000) (hc:bs.length<=c) (hb:∀ x∈bs,x<256) :
  Calls Tryz.prog 108 #[.slice A bs.length c,.int .i64 p,.bool last] w (NxTo w (mustO (nextA bs p last))):=by
 have HNX:=kf (fun W (hW:Chg NoS w W)=>pnext_any bs A c p last W (Src.below (w0:=w) hS hW) hl hc hb)
 obtain⟨n,hn⟩:∃ n,n=bs.length:=⟨_,rfl⟩
 obtain⟨R,hR⟩:∃ R,R=nextA bs p last:=⟨_,rfl⟩
 rw [<- hR,<- hn] at HNX
 rw [<- hR,<- hn]
 obtain⟨er,t⟩:=R
 obtain⟨tk,tf,tt_,tvk,tvn,tvs,ts⟩:=t
 unfold NxTo tknV at HNX ⊢
 simp only [] at HNX
 have HZ0:=kf (fun(r:Int × Tkn) (h:mustO (er,⟨tk,tf,tt_,tvk,tvn,tvs,ts⟩)=r)=>h)
 obtain⟨S6,hS6⟩:∃ S6,S6=sb tvs:=⟨_,rfl⟩
 obtain⟨S7,hS7⟩:∃ S7,S7=sb ts:=⟨_,rfl⟩
 rw [<- hS6,<- hS7] at HNX
 have HS6:=kf hS6
 have HS7:=kf hS7
 have HB0:=kf (Blk.new w 131 #[.int .i64 0,.int .i64 0,.int .i64 0,.int .i64 0,.int .i64 0,.string ⟨#[]⟩,.slice none 0 0,.string ⟨#[]⟩])
 have HC0:=kf ((Chg.refl NoS w).alloc (.cells #[.int .i64 0,.int .i64 0,.int .i64 0,.int .i64 0,.int .i64 0,.string ⟨#[]⟩,.slice none 0 0,.string ⟨#[]⟩] 131))
 clear hS hb hR hn hS6 hS7 hl hc
 by_cases he:er=0
 ·subst he
  by_cases hk:tk=0
  ·subst hk
   have HZ:=kf (HZ0.out (10,noT 0) (if_pos ⟨rfl,rfl⟩))
   clear HZ0
   go_enter Tryz.func108,Tryz.ntmps108
   go_upto_region 2 with(go_at_call 109;refine(HNX.out _ HC0.out).mono ?_;rintro e w3 ⟨rfl,hc3⟩;have HC3:=kf hc3;clear hc3)
   have HB6:=kf ((HB0.out.chg HC3.out (fun e=>e)).alloc (.cells #[.int .i64 0,.int .i64 (tf:Nat),.int .i64 (tt_:Nat),.int .i64 (tvk:Nat),.int .i64 tvn,.string S6,.slice none 0 0,.string S7] 131))
   have HB8:=kf (Blk.new w3 131 #[.int .i64 0,.int .i64 (tf:Nat),.int .i64 (tt_:Nat),.int .i64 (tvk:Nat),.int .i64 tvn,.string S6,.slice none 0 0,.string S7])
   have HC4:=kf ((HC0.out.trans HC3.out (fun _ _ e=>e)).alloc (.cells #[.int .i64 0,.int .i64 (tf:Nat),.int .i64 (tt_:Nat),.int .i64 (tvk:Nat),.int .i64 tvn,.string S6,.slice none 0 0,.string S7] 131))
   obtain⟨W4,hW4⟩:∃ W4,W4=w3.alloc (.cells #[.int .i64 0,.int .i64 (tf:Nat),.int .i64 (tt_:Nat),.int .i64 (tvk:Nat),.int .i64 tvn,.string S6,.slice none 0 0,.string S7] 131):=⟨_,rfl⟩
   obtain⟨g8,hg8⟩:∃ g8,g8=w3.heap.size:=⟨_,rfl⟩
   rw [<- hW4] at HB6 HB8 HC4 ⊢
   rw [<- hg8] at HB8 ⊢
   obtain⟨g6,hg6⟩:∃ g6,g6=w.heap.size:=⟨_,rfl⟩
   rw [<- hg6] at HB6 ⊢
   have hge6:w.heap.size<=g6:=by omega
   obtain⟨q0,q1,q2,q3,q4,q5,q6,q7,y0,y1,y2,y3,y4,y5,y6,y7⟩:=HB8.out.cl8
   obtain⟨r0,r1,r2,r3,r4,r5,r6,r7,z0,z1,z2,z3,z4,z5,z6,z7⟩:=HB6.out.cl8
   clear hW4 hg6 hg8 HB0 HC0 HC3 HB6 HB8 HNX
   go_wp2_with fail
   refine bodyPost_ret (v:=.tuple #[.agg #[.int .i64 0,.int .i64 0,.int .i64 0,.int .i64 0,.int .i64 0,.string ⟨#[]⟩,.slice none 0 0,.string ⟨#[]⟩],.int .i64 10]) (by simp [results,Tryz.results108,go_sem,r0,r1,r2,r3,r4,r5,r6,r7]) rfl ?_
   refine⟨by rw [HZ.out];rfl,?_⟩
   exact Chg.newc hge6 (Chg.newc hge6 (Chg.newc hge6 (Chg.newc hge6 (Chg.newc hge6 (Chg.newc hge6 (Chg.newc hge6 (Chg.newc hge6 HC4.out)))))))
  ·have HZ:=kf (HZ0.out _ (if_neg (fun h=>hk h.2)))
   have e1:((tk:Int)==0)=false:=by simp;omega
   have e2:(tk==0)=false:=by simp;omega
   clear HZ0 hk
   go_enter Tryz.func108,Tryz.ntmps108
   go_upto_region 2 with(go_at_call 109;refine(HNX.out _ HC0.out).mono ?_;rintro e w3 ⟨rfl,hc3⟩;have HC3:=kf hc3;clear hc3)
   have HB6:=kf ((HB0.out.chg HC3.out (fun e=>e)).alloc (.cells #[.int .i64 (tk:Nat),.int .i64 (tf:Nat),.int .i64 (tt_:Nat),.int .i64 (tvk:Nat),.int .i64 tvn,.string S6,.slice none 0 0,.string S7] 131))
   have HB8:=kf (Blk.new w3 131 #[.int .i64 (tk:Nat),.int .i64 (tf:Nat),.int .i64 (tt_:Nat),.int .i64 (tvk:Nat),.int .i64 tvn,.string S6,.slice none 0 0,.string S7])
   have HC4:=kf ((HC0.out.trans HC3.out (fun _ _ e=>e)).alloc (.cells #[.int .i64 (tk:Nat),.int .i64 (tf:Nat),.int .i64 (tt_:Nat),.int .i64 (tvk:Nat),.int .i64 tvn,.string S6,.slice none 0 0,.string S7] 131))
   obtain⟨W4,hW4⟩:∃ W4,W4=w3.alloc (.cells #[.int .i64 (tk:Nat),.int .i64 (tf:Nat),.int .i64 (tt_:Nat),.int .i64 (tvk:Nat),.int .i64 tvn,.string S6,.slice none 0 0,.string S7] 131):=⟨_,rfl⟩
   obtain⟨g8,hg8⟩:∃ g8,g8=w3.heap.size:=⟨_,rfl⟩
   rw [<- hW4] at HB6 HB8 HC4 ⊢
   rw [<- hg8] at HB8 ⊢
   obtain⟨g6,hg6⟩:∃ g6,g6=w.heap.size:=⟨_,rfl⟩
   rw [<- hg6] at HB6 ⊢
   have hge6:w.heap.size<=g6:=by omega
   obtain⟨q0,q1,q2,q3,q4,q5,q6,q7,y0,y1,y2,y3,y4,y5,y6,y7⟩:=HB8.out.cl8
   obtain⟨r0,r1,r2,r3,r4,r5,r6,r7,z0,z1,z2,z3,z4,z5,z6,z7⟩:=HB6.out.cl8
   clear hW4 hg6 hg8 HB0 HC0 HC3 HB6 HB8 HNX
   go_wp2_with fail
   refine bodyPost_ret (v:=.tuple #[.agg #[.int .i64 (tk:Nat),.int .i64 (tf:Nat),.int .i64 (tt_:Nat),.int .i64 (tvk:Nat),.int .i64 tvn,.string S6,.slice none 0 0,.string S7],.int .i64 0]) (by simp [results,Tryz.results108,go_sem,r0,r1,r2,r3,r4,r5,r6,r7]) rfl ?_
   refine⟨by rw [HZ.out];rw [HS6.out,HS7.out],?_⟩
   exact Chg.newc hge6 (Chg.newc hge6 (Chg.newc hge6 (Chg.newc hge6 (Chg.newc hge6 (Chg.newc hge6 (Chg.newc hge6 (Chg.newc hge6 HC4.out)))))))
 ·have HZ:=kf (HZ0.out _ (if_neg (fun h=>he h.1)))
  have e1:(er==0)=false:=by simpa using he
  clear HZ0 he
  go_enter Tryz.func108,Tryz.ntmps108
  go_upto_region 2 with(go_at_call 109;refine(HNX.out _ HC0.out).mono ?_;rintro e w3 ⟨rfl,hc3⟩;have HC3:=kf hc3;clear hc3)
  have HB6:=kf ((HB0.out.chg HC3.out (fun e=>e)).alloc (.cells #[.int .i64 (tk:Nat),.int .i64 (tf:Nat),.int .i64 (tt_:Nat),.int .i64 (tvk:Nat),.int .i64 tvn,.string S6,.slice none 0 0,.string S7] 131))
  have HB8:=kf (Blk.new w3 131 #[.int .i64 (tk:Nat),.int .i64 (tf:Nat),.int .i64 (tt_:Nat),.int .i64 (tvk:Nat),.int .i64 tvn,.string S6,.slice none 0 0,.string S7])
  have HC4:=kf ((HC0.out.trans HC3.out (fun _ _ e=>e)).alloc (.cells #[.int .i64 (tk:Nat),.int .i64 (tf:Nat),.int .i64 (tt_:Nat),.int .i64 (tvk:Nat),.int .i64 tvn,.string S6,.slice none 0 0,.string S7] 131))
  obtain⟨W4,hW4⟩:∃ W4,W4=w3.alloc (.cells #[.int .i64 (tk:Nat),.int .i64 (tf:Nat),.int .i64 (tt_:Nat),.int .i64 (tvk:Nat),.int .i64 tvn,.string S6,.slice none 0 0,.string S7] 131):=⟨_,rfl⟩
  obtain⟨g8,hg8⟩:∃ g8,g8=w3.heap.size:=⟨_,rfl⟩
  rw [<- hW4] at HB6 HB8 HC4 ⊢
  rw [<- hg8] at HB8 ⊢
  obtain⟨g6,hg6⟩:∃ g6,g6=w.heap.size:=⟨_,rfl⟩
  rw [<- hg6] at HB6 ⊢
  have hge6:w.heap.size<=g6:=by omega
  obtain⟨q0,q1,q2,q3,q4,q5,q6,q7,y0,y1,y2,y3,y4,y5,y6,y7⟩:=HB8.out.cl8
  obtain⟨r0,r1,r2,r3,r4,r5,r6,r7,z0,z1,z2,z3,z4,z5,z6,z7⟩:=HB6.out.cl8
  clear hW4 hg6 hg8 HB0 HC0 HC3 HB6 HB8 HNX
  go_wp2_with fail
  refine bodyPost_ret (v:=.tuple #[.agg #[.int .i64 (tk:Nat),.int .i64 (tf:Nat),.int .i64 (tt_:Nat),.int .i64 (tvk:Nat),.int .i64 tvn,.string S6,.slice none 0 0,.string S7],.int .i64 er]) (by simp [results,Tryz.results108,go_sem,r0,r1,r2,r3,r4,r5,r6,r7]) rfl ?_
  refine⟨by rw [HZ.out];rw [HS6.out,HS7.out],?_⟩
  exact Chg.newc hge6 (Chg.newc hge6 (Chg.newc hge6 (Chg.newc hge6 (Chg.newc hge6 (Chg.newc hge6 (Chg.newc hge6 (Chg.newc hge6 HC4.out)))))))
abbrev FS:=Int × Int
def pwrdO (bs:List Nat) (a:Int) (last:Bool) (S:ByteArray):FS :=
 if (mustO (nextA bs a last)).1≠0 then(0,(mustO (nextA bs a last)).1) else if (mustO (nextA bs a last)).2.kind≠6\/sb (mustO (nextA bs a last)).2.s≠S then(0,11) else(((mustO (nextA bs a last)).2.to:Nat),0)
def wrdS (bs:List Nat) (last:Bool) (S:ByteArray) (s:FS):FS:=if s.2≠0 then s else pwrdO bs s.1 last S
def endE (last:Bool):Int:=if last then 10 else 6
def Fine4 (n:Nat) (s:FS):Prop:=s.2≠0\/0<=s.1/\s.1<=n
theorem next_in {bs:List Nat} {a:Int} {last:Bool} (h:(mustO (nextA bs a last)).1=0):0<=a/\a<=bs.length/\(mustO (nextA bs a last))=nextO bs a.toNat last/\a.toNat<(mustO (nextA bs a last)).2.to/\(mustO (nextA bs a last)).2.to<=bs.length:=by
 unfold mustO at h ⊢
 split at h
 ·cases h
 ·next h1 =>
  rw [if_neg h1]
  unfold nextA at h h1 ⊢
  split at h
  ·cases h
  ·next h2 =>
   rw [if_neg h2] at h1 ⊢
   rcases next_tok bs a.toNat last (by omega) with h3|h3
   ·exact absurd ⟨h,h3.1⟩ h1
   ·exact⟨by omega,by omega,rfl,h3.2.2.1,h3.2.2.2⟩
theorem wrd_fine {bs:List Nat} {last:Bool} {S:ByteArray} {s:FS} (h:(wrdS bs last S s).2=0):(0<=(wrdS bs last S s).1/\(wrdS bs last S s).1<=bs.length)/\s.2=0:=by
 unfold wrdS at h ⊢
 by_cases h0:s.2≠0
 ·rw [if_pos h0] at h;exact absurd h h0
 rw [if_neg h0] at h ⊢
 refine⟨?_,by omega⟩
 unfold pwrdO at h ⊢
 by_cases h2:(mustO (nextA bs s.1 last)).1≠0
 ·rw [if_pos h2] at h;exact absurd h h2
 rw [if_neg h2] at h ⊢
 by_cases h3:(mustO (nextA bs s.1 last)).2.kind≠6\/sb (mustO (nextA bs s.1 last)).2.s≠S
 ·rw [if_pos h3] at h;cases h
 rw [if_neg h3]
 have h4:=next_in (bs:=bs) (a:=s.1) (last:=last) (by omega)
 simp only []
 omega
section
variable {b:List Nat} {k:Nat} {last:Bool}
theorem wrd_fn {bs:List Nat} {S:ByteArray} {s:FS}:Fine4 bs.length (wrdS bs last S s):=by
 by_cases h:(wrdS bs last S s).2=0
 ·exact .inr (wrd_fine h).1
 ·exact .inl h
end
theorem pwrd_is {bs:List Nat} {a:Int} {last:Bool} {S:ByteArray} {er:Int} {tk tf tt_ tvk:Nat} {tvn:Int} {tvs ts:List Nat} (h:mustO (nextA bs a last)=(er,⟨tk,tf,tt_,tvk,tvn,tvs,ts⟩)):pwrdO bs a last S=if er≠0 then((0,er):FS) else if tk≠6\/sb ts≠S then(0,11) else(((tt_:Nat):Int),0):=by
 unfold pwrdO
 rw [h]
set_option maxHeartbeats 4000000 in
set_option maxRecDepth 100000 in
theorem qwrd_any (bs:List Nat) (A:Option Addr) (c:Nat) (p:Int) (last:Bool) (S:ByteArray) (w:World) (hS:Src w 1 A bs.length c (lcells bs)) (hl:bs.length<=400000) (hc:bs.length<=c) (hb:∀ x∈bs,x<256) :
  Calls Tryz.prog 74 #[.slice A bs.length c,.int .i64 p,.bool last,.string S] w fun e w'=>e=.returned (.tuple #[.int .i64 (pwrdO bs p last S).1,.int .i64 (pwrdO bs p last S).2])/\Chg NoS w w':=by
 have HTK:=kf (qtok_any bs A c p last w hS hl hc hb)
 obtain⟨M,hM⟩:∃ M,M=mustO (nextA bs p last):=⟨_,rfl⟩
 rw [<- hM] at HTK
 obtain⟨n,hn⟩:∃ n,n=bs.length:=⟨_,rfl⟩
 rw [<- hn] at HTK ⊢
 obtain⟨er,tk,tf,tt_,tvk,tvn,tvs,ts⟩:=M
 have HPN:=kf (pwrd_is (S:=S) hM.symm)
 unfold NxTo tknV at HTK
 simp only [] at HTK
 obtain⟨S6,hS6⟩:∃ S6,S6=sb tvs:=⟨_,rfl⟩
 obtain⟨S7,hS7⟩:∃ S7,S7=sb ts:=⟨_,rfl⟩
 rw [<- hS7] at HPN
 rw [<- hS6,<- hS7] at HTK
 clear hS hb hM hn hS6 hS7 hl hc
 by_cases he:er=0
 ·subst he
  by_cases hk:tk=6
  ·subst hk
   by_cases hs:S7=S
   ·subst hs
    have HZ:Hid (pwrdO bs p last S7=(((tt_:Nat):Int),0)):=(by show _=_;rw [HPN.out,if_neg (by simp),if_neg (by simp)])
    have s1:(S7.toList != S7.toList)=false:=by simp
    have s2:(S7.toList==S7.toList)=true:=by simp
    clear HPN
    rw [HZ.out]
    simp only []
    go_enter Tryz.func74,Tryz.ntmps74
    go_upto_region 2 with(go_at_call 108;refine HTK.out.mono ?_;rintro e w2 ⟨rfl,hc2⟩;have HC2:=kf hc2;clear hc2)
    have HB2:=kf (Blk.new w2 131 #[.int .i64 ((6:Nat):Int),.int .i64 (tf:Nat),.int .i64 (tt_:Nat),.int .i64 (tvk:Nat),.int .i64 tvn,.string S6,.slice none 0 0,.string S7])
    have HC3:=kf (HC2.out.alloc (.cells #[.int .i64 ((6:Nat):Int),.int .i64 (tf:Nat),.int .i64 (tt_:Nat),.int .i64 (tvk:Nat),.int .i64 tvn,.string S6,.slice none 0 0,.string S7] 131))
    obtain⟨q0,q1,q2,q3,q4,q5,q6,q7,_,_,_,_,_,_,_,_⟩:=HB2.out.cl8
    go_wp2_with fail
    go_ret2
    exact⟨rfl,HC3.out⟩
   ·have HZ:Hid (pwrdO bs p last S=(0,11)):=HPN.out.trans ((if_neg (by simp)).trans (if_pos (.inr hs)))
    have s2:(S7.toList==S.toList)=false:=by simpa using str_ne11 hs
    have s1:(S7.toList != S.toList)=true:=by simpa using str_ne11 hs
    have s3:¬S7.toList=S.toList:=by simpa using str_ne11 hs
    clear HPN hs
    rw [HZ.out]
    simp only []
    go_enter Tryz.func74,Tryz.ntmps74
    go_upto_region 2 with(go_at_call 108;refine HTK.out.mono ?_;rintro e w2 ⟨rfl,hc2⟩;have HC2:=kf hc2;clear hc2)
    have HB2:=kf (Blk.new w2 131 #[.int .i64 ((6:Nat):Int),.int .i64 (tf:Nat),.int .i64 (tt_:Nat),.int .i64 (tvk:Nat),.int .i64 tvn,.string S6,.slice none 0 0,.string S7])
    have HC3:=kf (HC2.out.alloc (.cells #[.int .i64 ((6:Nat):Int),.int .i64 (tf:Nat),.int .i64 (tt_:Nat),.int .i64 (tvk:Nat),.int .i64 tvn,.string S6,.slice none 0 0,.string S7] 131))
    obtain⟨q0,q1,q2,q3,q4,q5,q6,q7,_,_,_,_,_,_,_,_⟩:=HB2.out.cl8
    go_wp2_with fail
    go_ret2
    exact⟨rfl,HC3.out⟩
  ·have HZ:Hid (pwrdO bs p last S=(0,11)):=HPN.out.trans ((if_neg (by simp)).trans (if_pos (.inl hk)))
   have e1:((tk:Int) != 6)=true:=by simp;omega
   have e2:((tk:Int)==6)=false:=by simp;omega
   clear HPN hk
   rw [HZ.out]
   simp only []
   go_enter Tryz.func74,Tryz.ntmps74
   go_upto_region 2 with(go_at_call 108;refine HTK.out.mono ?_;rintro e w2 ⟨rfl,hc2⟩;have HC2:=kf hc2;clear hc2)
   have HB2:=kf (Blk.new w2 131 #[.int .i64 (tk:Nat),.int .i64 (tf:Nat),.int .i64 (tt_:Nat),.int .i64 (tvk:Nat),.int .i64 tvn,.string S6,.slice none 0 0,.string S7])
   have HC3:=kf (HC2.out.alloc (.cells #[.int .i64 (tk:Nat),.int .i64 (tf:Nat),.int .i64 (tt_:Nat),.int .i64 (tvk:Nat),.int .i64 tvn,.string S6,.slice none 0 0,.string S7] 131))
   obtain⟨q0,q1,q2,q3,q4,q5,q6,q7,_,_,_,_,_,_,_,_⟩:=HB2.out.cl8
   go_wp2_with fail
   go_ret2
   exact⟨rfl,HC3.out⟩
 ·have e1:(er != 0)=true:=by simpa using he
  have e2:(er==0)=false:=by simpa using he
  have HZ:Hid (pwrdO bs p last S=(0,er)):=HPN.out.trans (if_pos he)
  clear HPN he
  rw [HZ.out]
  simp only []
  go_enter Tryz.func74,Tryz.ntmps74
  go_wp2_with (go_at_call 108;refine HTK.out.mono ?_;rintro e w2 ⟨rfl,hc2⟩;have HC2:=kf hc2;clear hc2)
  go_ret2
  exact⟨rfl,HC2.out.alloc _⟩
def hexC (d:Nat):Nat:=if d<10 then 48+d else 87+d
def hex2 (c:Nat):List Nat:=[hexC (c / 16),hexC (c%16)]
def nmC (c:Nat):List Nat:=if 32<c/\c<127/\c≠35/\isDl c=false then [c] else 35::hex2 c
def nmL:List Nat->List Nat
 |[]=>[]
 |c::s=>nmC c++nmL s
def esC (c:Nat):List Nat:=if c=40\/c=41\/c=92 then [92,c] else [c]
def esL:List Nat->List Nat
 |[]=>[]
 |c::s=>esC c++esL s
def hxL:List Nat->List Nat
 |[]=>[]
 |c::s=>hex2 c++hxL s
def fineT (s:List Nat):Prop:=∀ c∈s,32<=c/\c<=126
instance (s:List Nat):Decidable (fineT s):=inferInstanceAs (Decidable (∀ c∈s,32<=c/\c<=126))
def nmF (s:List Nat):List Nat:=47::nmL s
def txF (s:List Nat):List Nat:=if fineT s then 40::(esL s++[41]) else 60::(hxL s++[62])
theorem nmL_len:∀ s:List Nat,(nmL s).length<=3*s.length:=by
 intro s
 induction s with
 |nil=>exact Nat.le_refl _
 |cons c s ih =>
  rw [nmL,List.length_append,List.length_cons]
  have:(nmC c).length<=3:=by unfold nmC;split<;>simp [hex2]
  omega
theorem esL_len:∀ s:List Nat,(esL s).length<=2*s.length:=by
 intro s
 induction s with
 |nil=>exact Nat.le_refl _
 |cons c s ih =>
  rw [esL,List.length_append,List.length_cons]
  have:(esC c).length<=2:=by unfold esC;split<;>simp
  omega
theorem hxL_len:∀ s:List Nat,(hxL s).length=2*s.length:=by
 intro s
 induction s with
 |nil=>rfl
 |cons c s ih =>
  rw [hxL,List.length_append,List.length_cons,ih]
  simp only [hex2,List.length_cons,List.length_nil]
  omega
theorem trimZ_len:∀ (k:Nat) (l:List Nat),(trimZ k l).length<=l.length:=by
 intro k
 induction k with
 |zero=>intro l;exact Nat.le_refl _
 |succ k ih =>
  intro l
  rw [trimZ]
  split
  ·have:=ih l.dropLast
   rw [List.length_dropLast] at this
   omega
  ·exact Nat.le_refl _
end Go.Proofs.YthejpkflcgjdoaaGreatDoor
