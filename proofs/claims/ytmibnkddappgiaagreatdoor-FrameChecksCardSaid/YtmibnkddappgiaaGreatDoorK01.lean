import Derived.Test.YtmibnkddappgiaaGreatDoorK00
set_option linter.unusedVariables false
set_option maxHeartbeats 64000000
set_option maxRecDepth 100000
set_option linter.unusedSimpArgs false
namespace Go.Proofs.YtmibnkddappgiaaGreatDoor
open Go.RowKit
noncomputable def z0b (k n:Int) (s:ByteArray) (l:List VT):Int :=
 if k=0 then(if s.size=0/\l.length=0/\n=0 then 0 else 2)
 else if k=1 then(if s.size=0/\l.length=0/\(n=0\/n=1) then 0 else 2)
 else if k=2\/k=3 then z0h k n s.size l.length
 else if k=4 then(if n=0/\l.length=0 then 0 else 2)
 else if k=5 then(if ¬z1w s then 17 else if n=0/\l.length=0 then 0 else 2)
 else if k=6 then(if n=0/\s.size=0 then 0 else 2)
 else if k=7 then z49 n s.size l
 else if k=8 then(if s.size=0/\l.length=0/\1<=n/\n<=4096 then 0 else 2)
 else 2
theorem z6s (n:Int) (s:ByteArray) (l:List VT):z0b 0 n s l=if s.size=0/\l.length=0/\n=0 then 0 else 2:=by rw [z0b,if_pos rfl]
theorem z4o (n:Int) (s:ByteArray) (l:List VT):z0b 1 n s l=if s.size=0/\l.length=0/\(n=0\/n=1) then 0 else 2:=by rw [z0b,if_neg (by decide),if_pos rfl]
theorem y0d (n:Int) (s:ByteArray) (l:List VT):z0b 2 n s l=z0h 2 n s.size l.length:=by rw [z0b,if_neg (by decide),if_neg (by decide),if_pos (.inl rfl)]
theorem y1h (n:Int) (s:ByteArray) (l:List VT):z0b 3 n s l=z0h 3 n s.size l.length:=by rw [z0b,if_neg (by decide),if_neg (by decide),if_pos (.inr rfl)]
theorem z5h (n:Int) (s:ByteArray) (l:List VT):z0b 4 n s l=if n=0/\l.length=0 then 0 else 2:=by rw [z0b,if_neg (by decide),if_neg (by decide),if_neg (by decide),if_pos rfl]
theorem z2i (n:Int) (s:ByteArray) (l:List VT):z0b 5 n s l=if ¬z1w s then 17 else if n=0/\l.length=0 then 0 else 2:=by rw [z0b,if_neg (by decide),if_neg (by decide),if_neg (by decide),if_neg (by decide),if_pos rfl]
theorem z5g (n:Int) (s:ByteArray) (l:List VT):z0b 6 n s l=if n=0/\s.size=0 then 0 else 2:=by rw [z0b,if_neg (by decide),if_neg (by decide),if_neg (by decide),if_neg (by decide),if_neg (by decide),if_pos rfl]
theorem z8t (n:Int) (s:ByteArray) (l:List VT):z0b 7 n s l=z49 n s.size l:=by rw [z0b,if_neg (by decide),if_neg (by decide),if_neg (by decide),if_neg (by decide),if_neg (by decide),if_neg (by decide),if_pos rfl]
theorem z5f (n:Int) (s:ByteArray) (l:List VT):z0b 8 n s l=if s.size=0/\l.length=0/\1<=n/\n<=4096 then 0 else 2:=by rw [z0b,if_neg (by decide),if_neg (by decide),if_neg (by decide),if_neg (by decide),if_neg (by decide),if_neg (by decide),if_neg (by decide),if_pos rfl]
theorem y9j (c:VC) (l:List VT) (w:World) (hv:ValIs w (.mk c.k c.n c.s l) c) :
  Calls Tryz.prog 63 #[c.val] w fun e w'=>e=.returned (.int .i64 (z0b c.k c.n c.s l))/\Chg NoS w w':=by
 obtain⟨_,_,_,hg,hl,_⟩:=hv.inv;have HD:=kf (fun W (h:ValIs W (.mk c.k c.n c.s l) c)=>y5x c l W h);have HV:=kf hv;have hss:=hg.s;obtain⟨k,n,s,A,len,cap⟩:=c;simp only [] at hl hss;have hcap:=hg.cap;have hlm:=hg.len;simp only [] at hcap hlm;unfold maxLen at hlm;have HT:=kf (fun W=>y19 s W hss);have HK:=kf (fun W=>y9o k n s A len cap W);unfold VC.val at HD ⊢;simp only [] at HD HV ⊢;clear hv hg;have HB:=kf (Blk.new w 24 #[.int .i64 k,.int .i64 n,.string s,.slice A len cap]);have HC0:=kf ((Chg.refl NoS w).alloc (.cells #[.int .i64 k,.int .i64 n,.string s,.slice A len cap] 24));obtain⟨W0,hW⟩:∃ W0,W0=w.alloc (.cells #[.int .i64 k,.int .i64 n,.string s,.slice A len cap] 24):=⟨_,rfl⟩
 obtain⟨g,hgg⟩:∃ g,g=w.heap.size:=⟨_,rfl⟩
 rw [<- hW] at HB HC0;rw [<- hgg] at HB;have p0:=HB.out.cell 0;have p1:=HB.out.cell 1;have p2:=HB.out.cell 2;have p3:=HB.out.cell 3;simp at p0 p1 p2 p3;by_cases h0:k=0
 ·subst h0;by_cases hs:s.size=0
  ·obtain rfl:=z0y hs;by_cases hz:len=0
   ·subst hz;by_cases hn:n=0
    ·subst hn
     have HE:Hid (z0b 0 0 ⟨#[]⟩ l=0):=by
      show _=_;rw [z6s];rw [if_pos ⟨rfl,hl,rfl⟩]
     clear HD HV HT HK hl hss;go_enter Tryz.func63,Tryz.ntmps63;go_upto_region 1 with fail;rw [<- hgg,<- hW];clear hgg hW;go_wp2_with fail;go_ret;exact⟨z00 HE.out.symm,HC0.out⟩
    ·have e1:(n==0)=false:=by simpa using hn
     have HE:Hid (z0b 0 n ⟨#[]⟩ l=2):=by
      show _=_;rw [z6s];rw [if_neg (fun h=>hn h.2.2)]
     clear HD HV HT HK hl hss;go_enter Tryz.func63,Tryz.ntmps63;go_upto_region 1 with fail;rw [<- hgg,<- hW];clear hgg hW;go_wp2_with fail;go_ret;exact⟨z00 HE.out.symm,HC0.out⟩
   ·have z1:((len:Int)==0)=false:=by simp;omega
    have HE:Hid (z0b 0 n ⟨#[]⟩ l=2):=by
     show _=_;rw [z6s];rw [if_neg (fun h=>hz (by rw [<- hl];exact h.2.1))]
    clear HD HV HT HK hl hss;go_enter Tryz.func63,Tryz.ntmps63;go_upto_region 1 with fail;rw [<- hgg,<- hW];clear hgg hW;go_wp2_with fail;go_ret;exact⟨z00 HE.out.symm,HC0.out⟩
  ·have u1:=z1j hs;by_cases hz:len=0
   ·subst hz
    have HE:Hid (z0b 0 n s l=2):=by
     show _=_;rw [z6s];rw [if_neg (fun h=>hs h.1)]
    clear HD HV HT HK hl hss;go_enter Tryz.func63,Tryz.ntmps63;go_upto_region 1 with fail;rw [<- hgg,<- hW];clear hgg hW;go_wp2_with fail;go_ret;exact⟨z00 HE.out.symm,HC0.out⟩
   ·have z1:((len:Int)==0)=false:=by simp;omega
    have HE:Hid (z0b 0 n s l=2):=by
     show _=_;rw [z6s];rw [if_neg (fun h=>hs h.1)]
    clear HD HV HT HK hl hss;go_enter Tryz.func63,Tryz.ntmps63;go_upto_region 1 with fail;rw [<- hgg,<- hW];clear hgg hW;go_wp2_with fail;go_ret;exact⟨z00 HE.out.symm,HC0.out⟩
 ·have x0:(k==0)=false:=by simpa using h0
  by_cases h1:k=1
  ·subst h1;by_cases hs:s.size=0
   ·obtain rfl:=z0y hs;by_cases hz:len=0
    ·subst hz;by_cases hn:n=0
     ·subst hn
      have HE:Hid (z0b 1 0 ⟨#[]⟩ l=0):=by
       show _=_;rw [z4o];rw [if_pos ⟨rfl,hl,.inl rfl⟩]
      clear HD HV HT HK hl hss;go_enter Tryz.func63,Tryz.ntmps63;go_upto_region 1 with fail;rw [<- hgg,<- hW];clear hgg hW;go_wp2_with fail;go_ret;exact⟨z00 HE.out.symm,HC0.out⟩
     ·have e1:(n==0)=false:=by simpa using hn
      by_cases hn1:n=1
      ·subst hn1
       have HE:Hid (z0b 1 1 ⟨#[]⟩ l=0):=by
        show _=_;rw [z4o];rw [if_pos ⟨rfl,hl,.inr rfl⟩]
       clear HD HV HT HK hl hss;go_enter Tryz.func63,Tryz.ntmps63;go_upto_region 1 with fail;rw [<- hgg,<- hW];clear hgg hW;go_wp2_with fail;go_ret;exact⟨z00 HE.out.symm,HC0.out⟩
      ·have e2:(n==1)=false:=by simpa using hn1
       have HE:Hid (z0b 1 n ⟨#[]⟩ l=2):=by
        show _=_;rw [z4o];rw [if_neg (fun h=>by rcases h.2.2 with h|h;exact hn h;exact hn1 h)]
       clear HD HV HT HK hl hss;go_enter Tryz.func63,Tryz.ntmps63;go_upto_region 1 with fail;rw [<- hgg,<- hW];clear hgg hW;go_wp2_with fail;go_ret;exact⟨z00 HE.out.symm,HC0.out⟩
    ·have z1:((len:Int)==0)=false:=by simp;omega
     have HE:Hid (z0b 1 n ⟨#[]⟩ l=2):=by
      show _=_;rw [z4o];rw [if_neg (fun h=>hz (by rw [<- hl];exact h.2.1))]
     clear HD HV HT HK hl hss;go_enter Tryz.func63,Tryz.ntmps63;go_upto_region 1 with fail;rw [<- hgg,<- hW];clear hgg hW;go_wp2_with fail;go_ret;exact⟨z00 HE.out.symm,HC0.out⟩
   ·have u1:=z1j hs;by_cases hz:len=0
    ·subst hz
     have HE:Hid (z0b 1 n s l=2):=by
      show _=_;rw [z4o];rw [if_neg (fun h=>hs h.1)]
     clear HD HV HT HK hl hss;go_enter Tryz.func63,Tryz.ntmps63;go_upto_region 1 with fail;rw [<- hgg,<- hW];clear hgg hW;go_wp2_with fail;go_ret;exact⟨z00 HE.out.symm,HC0.out⟩
    ·have z1:((len:Int)==0)=false:=by simp;omega
     have HE:Hid (z0b 1 n s l=2):=by
      show _=_;rw [z4o];rw [if_neg (fun h=>hs h.1)]
     clear HD HV HT HK hl hss;go_enter Tryz.func63,Tryz.ntmps63;go_upto_region 1 with fail;rw [<- hgg,<- hW];clear hgg hW;go_wp2_with fail;go_ret;exact⟨z00 HE.out.symm,HC0.out⟩
  ·have x1:(k==1)=false:=by simpa using h1
   by_cases h2:k=2
   ·subst h2;by_cases hs:s.size=0
    ·obtain rfl:=z0y hs;by_cases hz:len=0
     ·subst hz
      have HE:Hid (z0b 2 n ⟨#[]⟩ l=z0h 2 n (ByteArray.mk #[]).size 0):=by
       show _=_;rw [y0d,hl]
      clear HD HV HT hl hss;go_enter Tryz.func63,Tryz.ntmps63;go_upto_region 1 with fail;rw [<- hgg,<- hW];clear hgg hW;go_wp2_with (go_at_call 86;refine(HK.out _).mono ?_;rintro e w2 ⟨rfl,hc2⟩;have HC2:=kf (HC0.out.trans hc2 (fun _ _ h=>h));clear hc2);go_ret;exact⟨z00 HE.out.symm,HC2.out⟩
     ·have z1:((len:Int)==0)=false:=by simp;omega
      have HE:Hid (z0b 2 n ⟨#[]⟩ l=z0h 2 n (ByteArray.mk #[]).size len):=by
       show _=_;rw [y0d,hl]
      clear HD HV HT hl hss;go_enter Tryz.func63,Tryz.ntmps63;go_upto_region 1 with fail;rw [<- hgg,<- hW];clear hgg hW;go_wp2_with (go_at_call 86;refine(HK.out _).mono ?_;rintro e w2 ⟨rfl,hc2⟩;have HC2:=kf (HC0.out.trans hc2 (fun _ _ h=>h));clear hc2);go_ret;exact⟨z00 HE.out.symm,HC2.out⟩
    ·have u1:=z1j hs;by_cases hz:len=0
     ·subst hz
      have HE:Hid (z0b 2 n s l=z0h 2 n (s).size 0):=by
       show _=_;rw [y0d,hl]
      clear HD HV HT hl hss;go_enter Tryz.func63,Tryz.ntmps63;go_upto_region 1 with fail;rw [<- hgg,<- hW];clear hgg hW;go_wp2_with (go_at_call 86;refine(HK.out _).mono ?_;rintro e w2 ⟨rfl,hc2⟩;have HC2:=kf (HC0.out.trans hc2 (fun _ _ h=>h));clear hc2);go_ret;exact⟨z00 HE.out.symm,HC2.out⟩
     ·have z1:((len:Int)==0)=false:=by simp;omega
      have HE:Hid (z0b 2 n s l=z0h 2 n (s).size len):=by
       show _=_;rw [y0d,hl]
      clear HD HV HT hl hss;go_enter Tryz.func63,Tryz.ntmps63;go_upto_region 1 with fail;rw [<- hgg,<- hW];clear hgg hW;go_wp2_with (go_at_call 86;refine(HK.out _).mono ?_;rintro e w2 ⟨rfl,hc2⟩;have HC2:=kf (HC0.out.trans hc2 (fun _ _ h=>h));clear hc2);go_ret;exact⟨z00 HE.out.symm,HC2.out⟩
   ·have x2:(k==2)=false:=by simpa using h2
    by_cases h3:k=3
    ·subst h3;by_cases hs:s.size=0
     ·obtain rfl:=z0y hs;by_cases hz:len=0
      ·subst hz
       have HE:Hid (z0b 3 n ⟨#[]⟩ l=z0h 3 n (ByteArray.mk #[]).size 0):=by
        show _=_;rw [y1h,hl]
       clear HD HV HT hl hss;go_enter Tryz.func63,Tryz.ntmps63;go_upto_region 1 with fail;rw [<- hgg,<- hW];clear hgg hW;go_wp2_with (go_at_call 86;refine(HK.out _).mono ?_;rintro e w2 ⟨rfl,hc2⟩;have HC2:=kf (HC0.out.trans hc2 (fun _ _ h=>h));clear hc2);go_ret;exact⟨z00 HE.out.symm,HC2.out⟩
      ·have z1:((len:Int)==0)=false:=by simp;omega
       have HE:Hid (z0b 3 n ⟨#[]⟩ l=z0h 3 n (ByteArray.mk #[]).size len):=by
        show _=_;rw [y1h,hl]
       clear HD HV HT hl hss;go_enter Tryz.func63,Tryz.ntmps63;go_upto_region 1 with fail;rw [<- hgg,<- hW];clear hgg hW;go_wp2_with (go_at_call 86;refine(HK.out _).mono ?_;rintro e w2 ⟨rfl,hc2⟩;have HC2:=kf (HC0.out.trans hc2 (fun _ _ h=>h));clear hc2);go_ret;exact⟨z00 HE.out.symm,HC2.out⟩
     ·have u1:=z1j hs;by_cases hz:len=0
      ·subst hz
       have HE:Hid (z0b 3 n s l=z0h 3 n (s).size 0):=by
        show _=_;rw [y1h,hl]
       clear HD HV HT hl hss;go_enter Tryz.func63,Tryz.ntmps63;go_upto_region 1 with fail;rw [<- hgg,<- hW];clear hgg hW;go_wp2_with (go_at_call 86;refine(HK.out _).mono ?_;rintro e w2 ⟨rfl,hc2⟩;have HC2:=kf (HC0.out.trans hc2 (fun _ _ h=>h));clear hc2);go_ret;exact⟨z00 HE.out.symm,HC2.out⟩
      ·have z1:((len:Int)==0)=false:=by simp;omega
       have HE:Hid (z0b 3 n s l=z0h 3 n (s).size len):=by
        show _=_;rw [y1h,hl]
       clear HD HV HT hl hss;go_enter Tryz.func63,Tryz.ntmps63;go_upto_region 1 with fail;rw [<- hgg,<- hW];clear hgg hW;go_wp2_with (go_at_call 86;refine(HK.out _).mono ?_;rintro e w2 ⟨rfl,hc2⟩;have HC2:=kf (HC0.out.trans hc2 (fun _ _ h=>h));clear hc2);go_ret;exact⟨z00 HE.out.symm,HC2.out⟩
    ·have x3:(k==3)=false:=by simpa using h3
     by_cases h4:k=4
     ·subst h4;by_cases hs:s.size=0
      ·obtain rfl:=z0y hs;by_cases hz:len=0
       ·subst hz;by_cases hn:n=0
        ·subst hn
         have HE:Hid (z0b 4 0 ⟨#[]⟩ l=0):=by
          show _=_;rw [z5h];rw [if_pos ⟨rfl,hl⟩]
         clear HD HV HT HK hl hss;go_enter Tryz.func63,Tryz.ntmps63;go_upto_region 1 with fail;rw [<- hgg,<- hW];clear hgg hW;go_wp2_with fail;go_ret;exact⟨z00 HE.out.symm,HC0.out⟩
        ·have e1:(n==0)=false:=by simpa using hn
         have HE:Hid (z0b 4 n ⟨#[]⟩ l=2):=by
          show _=_;rw [z5h];rw [if_neg (fun h=>hn h.1)]
         clear HD HV HT HK hl hss;go_enter Tryz.func63,Tryz.ntmps63;go_upto_region 1 with fail;rw [<- hgg,<- hW];clear hgg hW;go_wp2_with fail;go_ret;exact⟨z00 HE.out.symm,HC0.out⟩
       ·have z1:((len:Int)==0)=false:=by simp;omega
        by_cases hn:n=0
        ·subst hn
         have HE:Hid (z0b 4 0 ⟨#[]⟩ l=2):=by
          show _=_;rw [z5h];rw [if_neg (fun h=>hz (by rw [<- hl];exact h.2))]
         clear HD HV HT HK hl hss;go_enter Tryz.func63,Tryz.ntmps63;go_upto_region 1 with fail;rw [<- hgg,<- hW];clear hgg hW;go_wp2_with fail;go_ret;exact⟨z00 HE.out.symm,HC0.out⟩
        ·have e1:(n==0)=false:=by simpa using hn
         have HE:Hid (z0b 4 n ⟨#[]⟩ l=2):=by
          show _=_;rw [z5h];rw [if_neg (fun h=>hn h.1)]
         clear HD HV HT HK hl hss;go_enter Tryz.func63,Tryz.ntmps63;go_upto_region 1 with fail;rw [<- hgg,<- hW];clear hgg hW;go_wp2_with fail;go_ret;exact⟨z00 HE.out.symm,HC0.out⟩
      ·have u1:=z1j hs;by_cases hz:len=0
       ·subst hz;by_cases hn:n=0
        ·subst hn
         have HE:Hid (z0b 4 0 s l=0):=by
          show _=_;rw [z5h];rw [if_pos ⟨rfl,hl⟩]
         clear HD HV HT HK hl hss;go_enter Tryz.func63,Tryz.ntmps63;go_upto_region 1 with fail;rw [<- hgg,<- hW];clear hgg hW;go_wp2_with fail;go_ret;exact⟨z00 HE.out.symm,HC0.out⟩
        ·have e1:(n==0)=false:=by simpa using hn
         have HE:Hid (z0b 4 n s l=2):=by
          show _=_;rw [z5h];rw [if_neg (fun h=>hn h.1)]
         clear HD HV HT HK hl hss;go_enter Tryz.func63,Tryz.ntmps63;go_upto_region 1 with fail;rw [<- hgg,<- hW];clear hgg hW;go_wp2_with fail;go_ret;exact⟨z00 HE.out.symm,HC0.out⟩
       ·have z1:((len:Int)==0)=false:=by simp;omega
        by_cases hn:n=0
        ·subst hn
         have HE:Hid (z0b 4 0 s l=2):=by
          show _=_;rw [z5h];rw [if_neg (fun h=>hz (by rw [<- hl];exact h.2))]
         clear HD HV HT HK hl hss;go_enter Tryz.func63,Tryz.ntmps63;go_upto_region 1 with fail;rw [<- hgg,<- hW];clear hgg hW;go_wp2_with fail;go_ret;exact⟨z00 HE.out.symm,HC0.out⟩
        ·have e1:(n==0)=false:=by simpa using hn
         have HE:Hid (z0b 4 n s l=2):=by
          show _=_;rw [z5h];rw [if_neg (fun h=>hn h.1)]
         clear HD HV HT HK hl hss;go_enter Tryz.func63,Tryz.ntmps63;go_upto_region 1 with fail;rw [<- hgg,<- hW];clear hgg hW;go_wp2_with fail;go_ret;exact⟨z00 HE.out.symm,HC0.out⟩
     ·have x4:(k==4)=false:=by simpa using h4
      by_cases h5:k=5
      ·subst h5;by_cases hs:s.size=0
       ·obtain rfl:=z0y hs;by_cases hz:len=0
        ·subst hz;by_cases ht:z1w ⟨#[]⟩
         ·have t1:decide (z1w ⟨#[]⟩)=true:=decide_eq_true ht;rw [t1] at HT;by_cases hn:n=0
          ·subst hn
           have HE:Hid (z0b 5 0 ⟨#[]⟩ l=0):=by
            show _=_;rw [z2i];rw [if_neg (fun h=>h ht),if_pos ⟨rfl,hl⟩]
           clear HD HV HK hl hss;go_enter Tryz.func63,Tryz.ntmps63;go_upto_region 1 with fail;rw [<- hgg,<- hW];clear hgg hW;go_wp2_with (go_at_call 87;refine(HT.out _).mono ?_;rintro e w2 ⟨rfl,rfl⟩);go_ret;exact⟨z00 HE.out.symm,HC0.out⟩
          ·have e1:(n==0)=false:=by simpa using hn
           have HE:Hid (z0b 5 n ⟨#[]⟩ l=2):=by
            show _=_;rw [z2i];rw [if_neg (fun h=>h ht),if_neg (fun h=>hn h.1)]
           clear HD HV HK hl hss;go_enter Tryz.func63,Tryz.ntmps63;go_upto_region 1 with fail;rw [<- hgg,<- hW];clear hgg hW;go_wp2_with (go_at_call 87;refine(HT.out _).mono ?_;rintro e w2 ⟨rfl,rfl⟩);go_ret;exact⟨z00 HE.out.symm,HC0.out⟩
         ·have t1:decide (z1w ⟨#[]⟩)=false:=decide_eq_false ht;rw [t1] at HT
          have HE:Hid (z0b 5 n ⟨#[]⟩ l=17):=by
           show _=_;rw [z2i];rw [if_pos ht]
          clear HD HV HK hl hss;go_enter Tryz.func63,Tryz.ntmps63;go_upto_region 1 with fail;rw [<- hgg,<- hW];clear hgg hW;go_wp2_with (go_at_call 87;refine(HT.out _).mono ?_;rintro e w2 ⟨rfl,rfl⟩);go_ret;exact⟨z00 HE.out.symm,HC0.out⟩
        ·have z1:((len:Int)==0)=false:=by simp;omega
         by_cases ht:z1w ⟨#[]⟩
         ·have t1:decide (z1w ⟨#[]⟩)=true:=decide_eq_true ht;rw [t1] at HT;by_cases hn:n=0
          ·subst hn
           have HE:Hid (z0b 5 0 ⟨#[]⟩ l=2):=by
            show _=_;rw [z2i];rw [if_neg (fun h=>h ht),if_neg (fun h=>hz (by rw [<- hl];exact h.2))]
           clear HD HV HK hl hss;go_enter Tryz.func63,Tryz.ntmps63;go_upto_region 1 with fail;rw [<- hgg,<- hW];clear hgg hW;go_wp2_with (go_at_call 87;refine(HT.out _).mono ?_;rintro e w2 ⟨rfl,rfl⟩);go_ret;exact⟨z00 HE.out.symm,HC0.out⟩
          ·have e1:(n==0)=false:=by simpa using hn
           have HE:Hid (z0b 5 n ⟨#[]⟩ l=2):=by
            show _=_;rw [z2i];rw [if_neg (fun h=>h ht),if_neg (fun h=>hn h.1)]
           clear HD HV HK hl hss;go_enter Tryz.func63,Tryz.ntmps63;go_upto_region 1 with fail;rw [<- hgg,<- hW];clear hgg hW;go_wp2_with (go_at_call 87;refine(HT.out _).mono ?_;rintro e w2 ⟨rfl,rfl⟩);go_ret;exact⟨z00 HE.out.symm,HC0.out⟩
         ·have t1:decide (z1w ⟨#[]⟩)=false:=decide_eq_false ht;rw [t1] at HT
          have HE:Hid (z0b 5 n ⟨#[]⟩ l=17):=by
           show _=_;rw [z2i];rw [if_pos ht]
          clear HD HV HK hl hss;go_enter Tryz.func63,Tryz.ntmps63;go_upto_region 1 with fail;rw [<- hgg,<- hW];clear hgg hW;go_wp2_with (go_at_call 87;refine(HT.out _).mono ?_;rintro e w2 ⟨rfl,rfl⟩);go_ret;exact⟨z00 HE.out.symm,HC0.out⟩
       ·have u1:=z1j hs;by_cases hz:len=0
        ·subst hz;by_cases ht:z1w s
         ·have t1:decide (z1w s)=true:=decide_eq_true ht;rw [t1] at HT;by_cases hn:n=0
          ·subst hn
           have HE:Hid (z0b 5 0 s l=0):=by
            show _=_;rw [z2i];rw [if_neg (fun h=>h ht),if_pos ⟨rfl,hl⟩]
           clear HD HV HK hl hss;go_enter Tryz.func63,Tryz.ntmps63;go_upto_region 1 with fail;rw [<- hgg,<- hW];clear hgg hW;go_wp2_with (go_at_call 87;refine(HT.out _).mono ?_;rintro e w2 ⟨rfl,rfl⟩);go_ret;exact⟨z00 HE.out.symm,HC0.out⟩
          ·have e1:(n==0)=false:=by simpa using hn
           have HE:Hid (z0b 5 n s l=2):=by
            show _=_;rw [z2i];rw [if_neg (fun h=>h ht),if_neg (fun h=>hn h.1)]
           clear HD HV HK hl hss;go_enter Tryz.func63,Tryz.ntmps63;go_upto_region 1 with fail;rw [<- hgg,<- hW];clear hgg hW;go_wp2_with (go_at_call 87;refine(HT.out _).mono ?_;rintro e w2 ⟨rfl,rfl⟩);go_ret;exact⟨z00 HE.out.symm,HC0.out⟩
         ·have t1:decide (z1w s)=false:=decide_eq_false ht;rw [t1] at HT
          have HE:Hid (z0b 5 n s l=17):=by
           show _=_;rw [z2i];rw [if_pos ht]
          clear HD HV HK hl hss;go_enter Tryz.func63,Tryz.ntmps63;go_upto_region 1 with fail;rw [<- hgg,<- hW];clear hgg hW;go_wp2_with (go_at_call 87;refine(HT.out _).mono ?_;rintro e w2 ⟨rfl,rfl⟩);go_ret;exact⟨z00 HE.out.symm,HC0.out⟩
        ·have z1:((len:Int)==0)=false:=by simp;omega
         by_cases ht:z1w s
         ·have t1:decide (z1w s)=true:=decide_eq_true ht;rw [t1] at HT;by_cases hn:n=0
          ·subst hn
           have HE:Hid (z0b 5 0 s l=2):=by
            show _=_;rw [z2i];rw [if_neg (fun h=>h ht),if_neg (fun h=>hz (by rw [<- hl];exact h.2))]
           clear HD HV HK hl hss;go_enter Tryz.func63,Tryz.ntmps63;go_upto_region 1 with fail;rw [<- hgg,<- hW];clear hgg hW;go_wp2_with (go_at_call 87;refine(HT.out _).mono ?_;rintro e w2 ⟨rfl,rfl⟩);go_ret;exact⟨z00 HE.out.symm,HC0.out⟩
          ·have e1:(n==0)=false:=by simpa using hn
           have HE:Hid (z0b 5 n s l=2):=by
            show _=_;rw [z2i];rw [if_neg (fun h=>h ht),if_neg (fun h=>hn h.1)]
           clear HD HV HK hl hss;go_enter Tryz.func63,Tryz.ntmps63;go_upto_region 1 with fail;rw [<- hgg,<- hW];clear hgg hW;go_wp2_with (go_at_call 87;refine(HT.out _).mono ?_;rintro e w2 ⟨rfl,rfl⟩);go_ret;exact⟨z00 HE.out.symm,HC0.out⟩
         ·have t1:decide (z1w s)=false:=decide_eq_false ht;rw [t1] at HT
          have HE:Hid (z0b 5 n s l=17):=by
           show _=_;rw [z2i];rw [if_pos ht]
          clear HD HV HK hl hss;go_enter Tryz.func63,Tryz.ntmps63;go_upto_region 1 with fail;rw [<- hgg,<- hW];clear hgg hW;go_wp2_with (go_at_call 87;refine(HT.out _).mono ?_;rintro e w2 ⟨rfl,rfl⟩);go_ret;exact⟨z00 HE.out.symm,HC0.out⟩
      ·have x5:(k==5)=false:=by simpa using h5
       by_cases h6:k=6
       ·subst h6;by_cases hs:s.size=0
        ·obtain rfl:=z0y hs;by_cases hz:len=0
         ·subst hz;by_cases hn:n=0
          ·subst hn
           have HE:Hid (z0b 6 0 ⟨#[]⟩ l=0):=by
            show _=_;rw [z5g];rw [if_pos ⟨rfl,rfl⟩]
           clear HD HV HT HK hl hss;go_enter Tryz.func63,Tryz.ntmps63;go_upto_region 1 with fail;rw [<- hgg,<- hW];clear hgg hW;go_wp2_with fail;go_ret;exact⟨z00 HE.out.symm,HC0.out⟩
          ·have e1:(n==0)=false:=by simpa using hn
           have HE:Hid (z0b 6 n ⟨#[]⟩ l=2):=by
            show _=_;rw [z5g];rw [if_neg (fun h=>hn h.1)]
           clear HD HV HT HK hl hss;go_enter Tryz.func63,Tryz.ntmps63;go_upto_region 1 with fail;rw [<- hgg,<- hW];clear hgg hW;go_wp2_with fail;go_ret;exact⟨z00 HE.out.symm,HC0.out⟩
         ·have z1:((len:Int)==0)=false:=by simp;omega
          by_cases hn:n=0
          ·subst hn
           have HE:Hid (z0b 6 0 ⟨#[]⟩ l=0):=by
            show _=_;rw [z5g];rw [if_pos ⟨rfl,rfl⟩]
           clear HD HV HT HK hl hss;go_enter Tryz.func63,Tryz.ntmps63;go_upto_region 1 with fail;rw [<- hgg,<- hW];clear hgg hW;go_wp2_with fail;go_ret;exact⟨z00 HE.out.symm,HC0.out⟩
          ·have e1:(n==0)=false:=by simpa using hn
           have HE:Hid (z0b 6 n ⟨#[]⟩ l=2):=by
            show _=_;rw [z5g];rw [if_neg (fun h=>hn h.1)]
           clear HD HV HT HK hl hss;go_enter Tryz.func63,Tryz.ntmps63;go_upto_region 1 with fail;rw [<- hgg,<- hW];clear hgg hW;go_wp2_with fail;go_ret;exact⟨z00 HE.out.symm,HC0.out⟩
        ·have u1:=z1j hs;by_cases hz:len=0
         ·subst hz;by_cases hn:n=0
          ·subst hn
           have HE:Hid (z0b 6 0 s l=2):=by
            show _=_;rw [z5g];rw [if_neg (fun h=>hs h.2)]
           clear HD HV HT HK hl hss;go_enter Tryz.func63,Tryz.ntmps63;go_upto_region 1 with fail;rw [<- hgg,<- hW];clear hgg hW;go_wp2_with fail;go_ret;exact⟨z00 HE.out.symm,HC0.out⟩
          ·have e1:(n==0)=false:=by simpa using hn
           have HE:Hid (z0b 6 n s l=2):=by
            show _=_;rw [z5g];rw [if_neg (fun h=>hn h.1)]
           clear HD HV HT HK hl hss;go_enter Tryz.func63,Tryz.ntmps63;go_upto_region 1 with fail;rw [<- hgg,<- hW];clear hgg hW;go_wp2_with fail;go_ret;exact⟨z00 HE.out.symm,HC0.out⟩
         ·have z1:((len:Int)==0)=false:=by simp;omega
          by_cases hn:n=0
          ·subst hn
           have HE:Hid (z0b 6 0 s l=2):=by
            show _=_;rw [z5g];rw [if_neg (fun h=>hs h.2)]
           clear HD HV HT HK hl hss;go_enter Tryz.func63,Tryz.ntmps63;go_upto_region 1 with fail;rw [<- hgg,<- hW];clear hgg hW;go_wp2_with fail;go_ret;exact⟨z00 HE.out.symm,HC0.out⟩
          ·have e1:(n==0)=false:=by simpa using hn
           have HE:Hid (z0b 6 n s l=2):=by
            show _=_;rw [z5g];rw [if_neg (fun h=>hn h.1)]
           clear HD HV HT HK hl hss;go_enter Tryz.func63,Tryz.ntmps63;go_upto_region 1 with fail;rw [<- hgg,<- hW];clear hgg hW;go_wp2_with fail;go_ret;exact⟨z00 HE.out.symm,HC0.out⟩
       ·have x6:(k==6)=false:=by simpa using h6
        by_cases h7:k=7
        ·subst h7;by_cases hs:s.size=0
         ·obtain rfl:=z0y hs;by_cases hz:len=0
          ·subst hz;have HE:Hid (z0b 7 n ⟨#[]⟩ l=z49 n (ByteArray.mk #[]).size l):=z8t _ _ _;clear HT HK hl hss;go_enter Tryz.func63,Tryz.ntmps63;go_upto_region 1 with fail;rw [<- hgg,<- hW];clear hgg hW;go_wp2_with (go_at_call 88;refine(HD.out _ (HV.out.chg HC0.out)).mono ?_;rintro e w2 ⟨rfl,hc2⟩;have HC2:=kf (HC0.out.trans hc2 (fun _ _ h=>h));clear hc2);go_ret;exact⟨z00 HE.out.symm,HC2.out⟩
          ·have z1:((len:Int)==0)=false:=by simp;omega
           have HE:Hid (z0b 7 n ⟨#[]⟩ l=z49 n (ByteArray.mk #[]).size l):=z8t _ _ _;clear HT HK hl hss;go_enter Tryz.func63,Tryz.ntmps63;go_upto_region 1 with fail;rw [<- hgg,<- hW];clear hgg hW;go_wp2_with (go_at_call 88;refine(HD.out _ (HV.out.chg HC0.out)).mono ?_;rintro e w2 ⟨rfl,hc2⟩;have HC2:=kf (HC0.out.trans hc2 (fun _ _ h=>h));clear hc2);go_ret;exact⟨z00 HE.out.symm,HC2.out⟩
         ·have u1:=z1j hs;by_cases hz:len=0
          ·subst hz;have HE:Hid (z0b 7 n s l=z49 n (s).size l):=z8t _ _ _;clear HT HK hl hss;go_enter Tryz.func63,Tryz.ntmps63;go_upto_region 1 with fail;rw [<- hgg,<- hW];clear hgg hW;go_wp2_with (go_at_call 88;refine(HD.out _ (HV.out.chg HC0.out)).mono ?_;rintro e w2 ⟨rfl,hc2⟩;have HC2:=kf (HC0.out.trans hc2 (fun _ _ h=>h));clear hc2);go_ret;exact⟨z00 HE.out.symm,HC2.out⟩
          ·have z1:((len:Int)==0)=false:=by simp;omega
           have HE:Hid (z0b 7 n s l=z49 n (s).size l):=z8t _ _ _;clear HT HK hl hss;go_enter Tryz.func63,Tryz.ntmps63;go_upto_region 1 with fail;rw [<- hgg,<- hW];clear hgg hW;go_wp2_with (go_at_call 88;refine(HD.out _ (HV.out.chg HC0.out)).mono ?_;rintro e w2 ⟨rfl,hc2⟩;have HC2:=kf (HC0.out.trans hc2 (fun _ _ h=>h));clear hc2);go_ret;exact⟨z00 HE.out.symm,HC2.out⟩
        ·have x7:(k==7)=false:=by simpa using h7
         by_cases h8:k=8
         ·subst h8;by_cases hs:s.size=0
          ·obtain rfl:=z0y hs;by_cases hz:len=0
           ·subst hz;by_cases hn:1<=n
            ·have d1:decide (1<=n)=true:=by simpa using hn
             by_cases hn2:n<=4096
             ·have d2:decide (n<=4096)=true:=by simpa using hn2
              have HE:Hid (z0b 8 n ⟨#[]⟩ l=0):=by
               show _=_;rw [z5f];rw [if_pos ⟨rfl,hl,hn,hn2⟩]
              clear HD HV HT HK hl hss;go_enter Tryz.func63,Tryz.ntmps63;go_upto_region 1 with fail;rw [<- hgg,<- hW];clear hgg hW;go_wp2_with fail;go_ret;exact⟨z00 HE.out.symm,HC0.out⟩
             ·have d2:decide (n<=4096)=false:=by simpa using hn2
              have HE:Hid (z0b 8 n ⟨#[]⟩ l=2):=by
               show _=_;rw [z5f];rw [if_neg (fun h=>hn2 h.2.2.2)]
              clear HD HV HT HK hl hss;go_enter Tryz.func63,Tryz.ntmps63;go_upto_region 1 with fail;rw [<- hgg,<- hW];clear hgg hW;go_wp2_with fail;go_ret;exact⟨z00 HE.out.symm,HC0.out⟩
            ·have d1:decide (1<=n)=false:=by simpa using hn
             have HE:Hid (z0b 8 n ⟨#[]⟩ l=2):=by
              show _=_;rw [z5f];rw [if_neg (fun h=>hn h.2.2.1)]
             clear HD HV HT HK hl hss;go_enter Tryz.func63,Tryz.ntmps63;go_upto_region 1 with fail;rw [<- hgg,<- hW];clear hgg hW;go_wp2_with fail;go_ret;exact⟨z00 HE.out.symm,HC0.out⟩
           ·have z1:((len:Int)==0)=false:=by simp;omega
            have HE:Hid (z0b 8 n ⟨#[]⟩ l=2):=by
             show _=_;rw [z5f];rw [if_neg (fun h=>hz (by rw [<- hl];exact h.2.1))]
            clear HD HV HT HK hl hss;go_enter Tryz.func63,Tryz.ntmps63;go_upto_region 1 with fail;rw [<- hgg,<- hW];clear hgg hW;go_wp2_with fail;go_ret;exact⟨z00 HE.out.symm,HC0.out⟩
          ·have u1:=z1j hs;by_cases hz:len=0
           ·subst hz
            have HE:Hid (z0b 8 n s l=2):=by
             show _=_;rw [z5f];rw [if_neg (fun h=>hs h.1)]
            clear HD HV HT HK hl hss;go_enter Tryz.func63,Tryz.ntmps63;go_upto_region 1 with fail;rw [<- hgg,<- hW];clear hgg hW;go_wp2_with fail;go_ret;exact⟨z00 HE.out.symm,HC0.out⟩
           ·have z1:((len:Int)==0)=false:=by simp;omega
            have HE:Hid (z0b 8 n s l=2):=by
             show _=_;rw [z5f];rw [if_neg (fun h=>hs h.1)]
            clear HD HV HT HK hl hss;go_enter Tryz.func63,Tryz.ntmps63;go_upto_region 1 with fail;rw [<- hgg,<- hW];clear hgg hW;go_wp2_with fail;go_ret;exact⟨z00 HE.out.symm,HC0.out⟩
         ·have x8:(k==8)=false:=by simpa using h8
          by_cases hs:s.size=0
          ·obtain rfl:=z0y hs;by_cases hz:len=0
           ·subst hz
            have HE:Hid (z0b k n ⟨#[]⟩ l=2):=by
             show _=_;rw [z0b,if_neg h0,if_neg h1,if_neg (fun h=>h.elim h2 h3),if_neg h4,if_neg h5,if_neg h6,if_neg h7,if_neg h8]
            clear HD HV HT HK hl hss;clear h0 h1 h2 h3 h4 h5 h6 h7 h8;go_enter Tryz.func63,Tryz.ntmps63;go_upto_region 1 with fail;rw [<- hgg,<- hW];clear hgg hW;go_wp2_with fail;go_ret;exact⟨z00 HE.out.symm,HC0.out⟩
           ·have z1:((len:Int)==0)=false:=by simp;omega
            have HE:Hid (z0b k n ⟨#[]⟩ l=2):=by
             show _=_;rw [z0b,if_neg h0,if_neg h1,if_neg (fun h=>h.elim h2 h3),if_neg h4,if_neg h5,if_neg h6,if_neg h7,if_neg h8]
            clear HD HV HT HK hl hss;clear h0 h1 h2 h3 h4 h5 h6 h7 h8;go_enter Tryz.func63,Tryz.ntmps63;go_upto_region 1 with fail;rw [<- hgg,<- hW];clear hgg hW;go_wp2_with fail;go_ret;exact⟨z00 HE.out.symm,HC0.out⟩
          ·have u1:=z1j hs;by_cases hz:len=0
           ·subst hz
            have HE:Hid (z0b k n s l=2):=by
             show _=_;rw [z0b,if_neg h0,if_neg h1,if_neg (fun h=>h.elim h2 h3),if_neg h4,if_neg h5,if_neg h6,if_neg h7,if_neg h8]
            clear HD HV HT HK hl hss;clear h0 h1 h2 h3 h4 h5 h6 h7 h8;go_enter Tryz.func63,Tryz.ntmps63;go_upto_region 1 with fail;rw [<- hgg,<- hW];clear hgg hW;go_wp2_with fail;go_ret;exact⟨z00 HE.out.symm,HC0.out⟩
           ·have z1:((len:Int)==0)=false:=by simp;omega
            have HE:Hid (z0b k n s l=2):=by
             show _=_;rw [z0b,if_neg h0,if_neg h1,if_neg (fun h=>h.elim h2 h3),if_neg h4,if_neg h5,if_neg h6,if_neg h7,if_neg h8]
            clear HD HV HT HK hl hss;clear h0 h1 h2 h3 h4 h5 h6 h7 h8;go_enter Tryz.func63,Tryz.ntmps63;go_upto_region 1 with fail;rw [<- hgg,<- hW];clear hgg hW;go_wp2_with fail;go_ret;exact⟨z00 HE.out.symm,HC0.out⟩
mutual
noncomputable def z0e:VT->Int
 |.mk k n s l=>if z0b k n s l≠0 then z0b k n s l else if k=6\/k=7 then z1t l else 0
noncomputable def z1t:List VT->Int
 |[]=>0
 |t::l=>if z0e t≠0 then z0e t else z1t l
end
theorem z0x (k n:Int) (s:ByteArray) (l:List VT):z0e (.mk k n s l)=if z0b k n s l≠0 then z0b k n s l else if k=6\/k=7 then z1t l else 0:=by rw [z0e]
theorem z31 (t:VT) (l:List VT):z1t (t::l)=if z0e t≠0 then z0e t else z1t l:=by rw [z1t]
theorem y5t:∀ (N:Nat) (t:VT),z1h t<=N->∀ (c:VC) (w:World),ValIs w t c ->
  Calls Tryz.prog 41 #[c.val] w fun e w'=>e=.returned (.int .i64 (z0e t))/\Chg NoS w w':=by
 intro N;induction N with
 |zero =>
  intro t ht;obtain⟨k,n,s,l⟩:=t;rw [z0f] at ht;omega
 |succ N ih =>
  intro t ht c w hv;obtain⟨tk,tn,ts,l⟩:=t;obtain⟨h1,h2,h3,hg,hl,hr⟩:=hv.inv;have HH:=kf (fun(W:World)=>z7v c W);have hv2:ValIs w (.mk c.k c.n c.s l) c:=by rw [h1,h2,h3];exact hv
  have HO:=kf (fun(W:World) (h:ValIs W (.mk c.k c.n c.s l) c)=>y9j c l W h);have HV:=kf hv2;obtain⟨ck,cn,cs,A,len,cap⟩:=c;simp only [] at h1 h2 h3 hl hr;subst h1 h2 h3;rw [z0f] at ht;have hcap:=hg.cap;have hlm:=hg.len;simp only [] at hcap hlm;unfold maxLen at hlm;have HL:=kf hl;have HR:=kf hr;have HIH:=kf (fun(t':VT) (ht':z1h t'<=z1n l)=>ih t' (by omega));unfold VC.val at HH HO;unfold VC.val;simp only [] at HH HO HV ⊢;have HB:=kf (Blk.new w 24 #[.int .i64 ck,.int .i64 cn,.string cs,.slice A len cap]);have HC0:=kf ((Chg.refl NoS w).alloc (.cells #[.int .i64 ck,.int .i64 cn,.string cs,.slice A len cap] 24));obtain⟨W0,hW⟩:∃ W0,W0=w.alloc (.cells #[.int .i64 ck,.int .i64 cn,.string cs,.slice A len cap] 24):=⟨_,rfl⟩
  obtain⟨g,hgg⟩:∃ g,g=w.heap.size:=⟨_,rfl⟩
  rw [<- hW] at HB HC0;rw [<- hgg] at HB;have p0:=HB.out.cell 0;have p1:=HB.out.cell 1;have p2:=HB.out.cell 2;have p3:=HB.out.cell 3;simp at p0 p1 p2 p3;clear hv hv2 hg hl hr ih ht;obtain⟨z,hz⟩:∃ z,z0b ck cn cs l=z:=⟨_,rfl⟩
  rw [hz] at HO;by_cases hz0:z=0
  ·subst hz0;by_cases h67:ck=6\/ck=7
   ·have HF:=kf (show z0e (.mk ck cn cs l)=z1t l from by rw [z0x,hz,if_neg (by simp),if_pos h67]);rw [show decide (ck=6\/ck=7)=true from by simpa using h67] at HH;clear h67 hz;go_enter Tryz.func41,Tryz.ntmps41;go_upto_region 1 with fail;rw [<- hgg,<- hW];clear hgg hW;go_upto_region 2 with(go_at_call 63;refine(HO.out _ (HV.out.chg HC0.out)).mono ?_;rintro e w2 ⟨rfl,hc2⟩;have HC2:=kf hc2;clear hc2);clear p0 p1 p2 p3;have HB2:=kf (HB.out.chg HC2.out (fun e=>e));have p0:=HB2.out.cell 0;have p1:=HB2.out.cell 1;have p2:=HB2.out.cell 2;have p3:=HB2.out.cell 3;simp at p0 p1 p2 p3;go_upto_region 5 with(go_at_call 62;refine(HH.out _).mono ?_;rintro e w3 ⟨rfl,hc3⟩;have HC3:=kf (HC2.out.trans hc3 (fun _ _ e=>e));clear hc3);clear p0 p1 p2 p3;go_loopw [3,4] (fun ve vk wr=>∃ (k:Nat) (e0:Int),k<=len/\ve=.int .i64 e0/\vk=.int .i64 (k:Nat)/\Hid (Chg NoS W0 wr)/\Hid (RowIs w A k (l.drop k))/\Hid (z1t l=z1t (l.drop k))) (fun _ vk _=>len-(intOf vk).toNat)
    case atStart=>exact⟨0,0,by omega,rfl,rfl,HC3,by rw [List.drop_zero];exact HR.out,kf (by rw [List.drop_zero])⟩
    case round =>
     obtain⟨k,e0,hk,rfl,rfl,HCW,HRW,HFW⟩:=hrel;have HBW:=kf (HB.out.chg HCW.out (fun e=>e));have HCR:=kf (HC0.out.trans HCW.out (fun _ _ e=>e));have q3:=HBW.out.cell 3;simp at q3;by_cases h1:k<len
     ·obtain⟨t',ht',hd⟩:=z0s (l:=l) (k:=k) (by rw [HL.out];exact h1)
      obtain⟨b,off,rfl⟩:∃ b off,A=some ⟨b,off,none⟩:=by
       have h:=HR.out;cases hll:l with
       |nil=>rw [hll] at ht';simp at ht'
       |cons t0 l0=>rw [hll] at h;exact h.start
      have hrw:=HRW.out;rw [hd] at hrw;obtain⟨ek,en,es,eA,el,ec,c0,c1,c2,c3,hv',hr'⟩:=hrw.at_ HCR.out;have HX:=kf (HIH.out t' (z2u ht') ⟨ek,en,es,eA,el,ec⟩ wr hv');unfold VC.val at HX;simp only [] at HX;have HRN:=kf hr';obtain⟨r,hr9⟩:∃ r,z0e t'=r:=⟨_,rfl⟩
      rw [hr9] at HX;have i1:(k:Int)<len:=by omega
      by_cases hr0:r=0
      ·subst hr0;have HFN:=kf (show z1t l=z1t (l.drop (k+1)) from by rw [HFW.out,hd,z31,if_neg (by rw [hr9];simp)]);clear hrw hv' hr' hd ht' hr9;go_wp2_with (go_at_call 41;refine HX.out.mono ?_;rintro e w3 ⟨rfl,hc3⟩;have HC3:=kf (HCW.out.trans hc3 (fun _ _ e=>e));clear hc3);go_roundw
       case rel=>exact⟨k+1,0,by omega,rfl,by go_num,HC3,HRN,HFN⟩
       case measure=>simp [intOf];omega
      ·have HE:=kf (show z0e (.mk ck cn cs l)=r from by rw [HF.out,HFW.out,hd,z31,if_pos (by rw [hr9];exact hr0),hr9]);have e1:(r != 0)=true:=by simpa using hr0
       have e2:(r==0)=false:=by simpa using hr0
       clear hrw hv' hr' hd ht' hr9 hr0;go_wp2_with (go_at_call 41;refine HX.out.mono ?_;rintro e w3 ⟨rfl,hc3⟩;have HC3:=kf (HCR.out.trans hc3 (fun _ _ e=>e));clear hc3);go_ret;exact⟨z00 HE.out.symm,HC3.out⟩
     ·obtain rfl:k=len:=by omega
      have HE:=kf (show z0e (.mk ck cn cs l)=0 from by rw [HF.out,HFW.out,List.drop_of_length_le (by rw [HL.out];exact Nat.le_refl _),z1t]);go_wp2_with fail;go_ret;exact⟨z00 HE.out.symm,HCR.out⟩
   ·have HE:=kf (show z0e (.mk ck cn cs l)=0 from by rw [z0x,hz,if_neg (by simp),if_neg h67]);rw [show decide (ck=6\/ck=7)=false from by simpa using h67] at HH;clear h67 hz;go_enter Tryz.func41,Tryz.ntmps41;go_upto_region 1 with fail;rw [<- hgg,<- hW];clear hgg hW;go_upto_region 2 with(go_at_call 63;refine(HO.out _ (HV.out.chg HC0.out)).mono ?_;rintro e w2 ⟨rfl,hc2⟩;have HC2:=kf hc2;clear hc2);clear p0 p1 p2 p3;have HB2:=kf (HB.out.chg HC2.out (fun e=>e));have p0:=HB2.out.cell 0;have p1:=HB2.out.cell 1;have p2:=HB2.out.cell 2;have p3:=HB2.out.cell 3;simp at p0 p1 p2 p3;go_wp2_with (go_at_call 62;refine(HH.out _).mono ?_;rintro e w3 ⟨rfl,hc3⟩;have HC3:=kf (HC2.out.trans hc3 (fun _ _ e=>e));clear hc3);go_ret;exact⟨z00 HE.out.symm,HC0.out.trans HC3.out (fun _ _ e=>e)⟩
  ·have HE:=kf (show z0e (.mk ck cn cs l)=z from by rw [z0x,hz,if_pos hz0]);have e1:(z != 0)=true:=by simpa using hz0
   have e2:(z==0)=false:=by simpa using hz0
   clear hz0 hz;go_enter Tryz.func41,Tryz.ntmps41;go_upto_region 1 with fail;rw [<- hgg,<- hW];clear hgg hW;go_wp2_with (go_at_call 63;refine(HO.out _ (HV.out.chg HC0.out)).mono ?_;rintro e w2 ⟨rfl,hc2⟩;have HC2:=kf hc2;clear hc2);go_ret;exact⟨z00 HE.out.symm,HC0.out.trans HC2.out (fun _ _ e=>e)⟩
noncomputable def z0w (t:VT):Int:=if 64<z07 t then 15 else z0e t
theorem y05 (t:VT) (c:VC) (w:World) (hv:ValIs w t c) (hs:z1h t<=1000000000) :
  Calls Tryz.prog 20 #[c.val] w fun e w'=>e=.returned (.int .i64 (z0w t))/\Chg NoS w w':=by
 have HD:=kf (fun W (h:ValIs W t c)=>y46 t c W h hs);have HF:=kf (fun W (h:ValIs W t c)=>y5t _ t (Nat.le_refl _) c W h);have HV:=kf hv;have hd:=(z1m t).2;obtain⟨d,hd2⟩:∃ d,z07 t=d:=⟨_,rfl⟩
 obtain⟨z,hz⟩:∃ z,z0e t=z:=⟨_,rfl⟩
 have HZ:=kf (show z0w t=if 64<d then 15 else z from by rw [z0w,hd2,hz]);rw [hd2] at HD hd;rw [hz] at HF;obtain⟨k,n,s,A,len,cap⟩:=c;unfold VC.val at HD HF ⊢;simp only [] at HD HF ⊢;have HB:=kf (Blk.new w 24 #[.int .i64 k,.int .i64 n,.string s,.slice A len cap]);have HC0:=kf ((Chg.refl NoS w).alloc (.cells #[.int .i64 k,.int .i64 n,.string s,.slice A len cap] 24));obtain⟨W0,hW⟩:∃ W0,W0=w.alloc (.cells #[.int .i64 k,.int .i64 n,.string s,.slice A len cap] 24):=⟨_,rfl⟩
 obtain⟨g,hgg⟩:∃ g,g=w.heap.size:=⟨_,rfl⟩
 rw [<- hW] at HB HC0;rw [<- hgg] at HB;have p0:=HB.out.cell 0;have p1:=HB.out.cell 1;have p2:=HB.out.cell 2;have p3:=HB.out.cell 3;simp at p0 p1 p2 p3;have hd9:d<=1000000000:=by omega
 clear hv hd hd2 hz hs;by_cases h64:64<d
 ·have d1:decide ((64:Int)<d)=true:=by simp;omega
  have d1':decide (64<d)=true:=by simp;omega
  have HE:Hid (z0w t=15):=by show _=_;rw [HZ.out,if_pos h64]
  clear h64;go_enter Tryz.func20,Tryz.ntmps20;go_upto_region 1 with fail;rw [<- hgg,<- hW];clear hgg hW;go_wp2_with (go_at_call 40;refine(HD.out _ (HV.out.chg HC0.out)).mono ?_;rintro e w2 ⟨rfl,hc2⟩;have HC2:=kf (HC0.out.trans hc2 (fun _ _ e=>e));clear hc2);go_ret;exact⟨z00 HE.out.symm,HC2.out⟩
 ·have d1:decide ((64:Int)<d)=false:=by simp;omega
  have d1':decide (64<d)=false:=by simp;omega
  have HE:Hid (z0w t=z):=by show _=_;rw [HZ.out,if_neg h64]
  clear h64;go_enter Tryz.func20,Tryz.ntmps20;go_upto_region 1 with fail;rw [<- hgg,<- hW];clear hgg hW;go_upto_region 3 with(go_at_call 40;refine(HD.out _ (HV.out.chg HC0.out)).mono ?_;rintro e w2 ⟨rfl,hc2⟩;have HC2:=kf (HC0.out.trans hc2 (fun _ _ e=>e));have HB2:=kf (HB.out.chg hc2 (fun e=>e));clear hc2);clear p0 p1 p2 p3;have p0:=HB2.out.cell 0;have p1:=HB2.out.cell 1;have p2:=HB2.out.cell 2;have p3:=HB2.out.cell 3;simp at p0 p1 p2 p3;go_wp2_with (go_at_call 41;refine(HF.out _ (HV.out.chg HC2.out)).mono ?_;rintro e w3 ⟨rfl,hc3⟩;have HC3:=kf (HC2.out.trans hc3 (fun _ _ e=>e));clear hc3);go_ret;exact⟨z00 HE.out.symm,HC3.out⟩
end Go.Proofs.YtmibnkddappgiaaGreatDoor
