import Derived.Test.YtnhlalkeaaiefaaGreatDoorE00
import Derived.Deep.CutRange
set_option linter.unusedVariables false
set_option maxHeartbeats 64000000
set_option maxRecDepth 100000
set_option linter.unusedSimpArgs false
namespace Go.Proofs.YtnhlalkeaaiefaaGreatDoor
open Go.RowKit
structure PB (w W:World) (g:Nat) (cs:Array Value):Prop where
 blk:Blk W g 25 cs
 new:w.heap.size<=g
theorem PB.call {w W W':World} {g:Nat} {cs:Array Value} (h:PB w W g cs) (hc:Chg NoS W W'):PB w W' g cs:=⟨h.blk.chg hc (fun h=>h),h.new⟩
theorem PB.alloc {w W:World} {g:Nat} {cs:Array Value} (h:PB w W g cs) (o:Obj):PB w (W.alloc o) g cs:=⟨h.blk.alloc o,h.new⟩
theorem PB.drew {w W:World} {g:Nat} {cs:Array Value} (h:PB w W g cs):PB w W.drew g cs:=⟨h.blk.drew,h.new⟩
theorem PB.set {w W:World} {g:Nat} {cs:Array Value} (h:PB w W g cs) (i:Nat) (u:Value):PB w (W.setCell ⟨g,i,none⟩ u) g (cs.setIfInBounds i u):=⟨h.blk.set_ i u,h.new⟩
theorem PB.far {w W:World} {g g':Nat} {cs:Array Value} (h:PB w W g cs) (hg:g≠g') (i:Nat) (u:Value):PB w (W.setCell ⟨g',i,none⟩ u) g cs:=⟨h.blk.far (p:=⟨g',i,none⟩) hg u,h.new⟩
theorem PB.chg {w W:World} {g:Nat} {cs:Array Value} (h:PB w W g cs) (hc:Chg NoS w W) (i:Nat) (u:Value):Chg NoS w (W.setCell ⟨g,i,none⟩ u) :=
 hc.setCell (p:=⟨g,i,none⟩) (fun h2=>absurd h2 (Nat.not_lt.2 h.new)) u
theorem PB.set4 {w W:World} {g:Nat} {cs:Array Value} {a b c d:Value} (h:PB w W g cs) (hc:Chg NoS w W) (hz:cs.size=4) :
  PB w ((((W.setCell ⟨g,0,none⟩ a).setCell ⟨g,1,none⟩ b).setCell ⟨g,2,none⟩ c).setCell ⟨g,3,none⟩ d) g #[a,b,c,d]/\Chg NoS w ((((W.setCell ⟨g,0,none⟩ a).setCell ⟨g,1,none⟩ b).setCell ⟨g,2,none⟩ c).setCell ⟨g,3,none⟩ d):=by
 have h4:=(((h.set 0 a).set 1 b).set 2 c).set 3 d;refine⟨?_,((((h.set 0 a).set 1 b).set 2 c).chg ((((h.set 0 a).set 1 b).chg ((h.set 0 a).chg (h.chg hc 0 a) 1 b) 2 c)) 3 d)⟩;obtain⟨l⟩:=cs;match l,hz with
 |[x0,x1,x2,x3],_=>exact h4
theorem PB.far4 {w W:World} {g g':Nat} {cs:Array Value} {a b c d:Value} (h:PB w W g cs) (hg:g≠g') :
  PB w ((((W.setCell ⟨g',0,none⟩ a).setCell ⟨g',1,none⟩ b).setCell ⟨g',2,none⟩ c).setCell ⟨g',3,none⟩ d) g cs:=(((h.far hg 0 a).far hg 1 b).far hg 2 c).far hg 3 d
noncomputable def z0d (k n:Int) (s:ByteArray) (l:List VT):Int :=
 if k=0 then(if s.size=0/\l.length=0/\n=0 then 0 else 2)
 else if k=1 then(if s.size=0/\l.length=0/\(n=0\/n=1) then 0 else 2)
 else if k=2\/k=3 then z05 k n s.size l.length
 else if k=4 then(if n=0/\l.length=0 then 0 else 2)
 else if k=5 then(if ¬z1o s then 17 else if n=0/\l.length=0 then 0 else 2)
 else if k=6 then(if n=0/\s.size=0 then 0 else 2)
 else if k=7 then z42 n s.size l
 else if k=8 then(if s.size=0/\l.length=0/\1<=n/\n<=4096 then 0 else 2)
 else 2
theorem z7b (n:Int) (s:ByteArray) (l:List VT):z0d 0 n s l=if s.size=0/\l.length=0/\n=0 then 0 else 2:=by rw [z0d,if_pos rfl]
theorem z5e (n:Int) (s:ByteArray) (l:List VT):z0d 1 n s l=if s.size=0/\l.length=0/\(n=0\/n=1) then 0 else 2:=by rw [z0d,if_neg (by decide),if_pos rfl]
theorem y07 (n:Int) (s:ByteArray) (l:List VT):z0d 2 n s l=z05 2 n s.size l.length:=by rw [z0d,if_neg (by decide),if_neg (by decide),if_pos (.inl rfl)]
theorem y06 (n:Int) (s:ByteArray) (l:List VT):z0d 3 n s l=z05 3 n s.size l.length:=by rw [z0d,if_neg (by decide),if_neg (by decide),if_pos (.inr rfl)]
theorem z5w (n:Int) (s:ByteArray) (l:List VT):z0d 4 n s l=if n=0/\l.length=0 then 0 else 2:=by rw [z0d,if_neg (by decide),if_neg (by decide),if_neg (by decide),if_pos rfl]
theorem z2q (n:Int) (s:ByteArray) (l:List VT):z0d 5 n s l=if ¬z1o s then 17 else if n=0/\l.length=0 then 0 else 2:=by rw [z0d,if_neg (by decide),if_neg (by decide),if_neg (by decide),if_neg (by decide),if_pos rfl]
theorem z5v (n:Int) (s:ByteArray) (l:List VT):z0d 6 n s l=if n=0/\s.size=0 then 0 else 2:=by rw [z0d,if_neg (by decide),if_neg (by decide),if_neg (by decide),if_neg (by decide),if_neg (by decide),if_pos rfl]
theorem y05 (n:Int) (s:ByteArray) (l:List VT):z0d 7 n s l=z42 n s.size l:=by rw [z0d,if_neg (by decide),if_neg (by decide),if_neg (by decide),if_neg (by decide),if_neg (by decide),if_neg (by decide),if_pos rfl]
theorem z4i (n:Int) (s:ByteArray) (l:List VT):z0d 8 n s l=if s.size=0/\l.length=0/\1<=n/\n<=4096 then 0 else 2:=by rw [z0d,if_neg (by decide),if_neg (by decide),if_neg (by decide),if_neg (by decide),if_neg (by decide),if_neg (by decide),if_neg (by decide),if_pos rfl]
theorem v0l (c:VC) (l:List VT) (w:World) (hv:ValIs w (.mk c.k c.n c.s l) c) :
  Calls Tryz.prog 107 #[c.val] w fun e w'=>e=.returned (.int .i64 (z0d c.k c.n c.s l))/\Chg NoS w w':=by
 obtain⟨_,_,_,hg,hl,_⟩:=hv.inv;have HD:=kf (fun W (h:ValIs W (.mk c.k c.n c.s l) c)=>y6l c l W h);have HV:=kf hv;have hss:=hg.s;obtain⟨k,n,s,A,len,cap⟩:=c;simp only [] at hl hss;have hcap:=hg.cap;have hlm:=hg.len;simp only [] at hcap hlm;unfold maxLen at hlm;have HT:=kf (fun W=>z6h s W hss);have HK:=kf (fun W=>y2q k n s A len cap W);unfold VC.val at HD ⊢;simp only [] at HD HV ⊢;clear hv hg;have HB:=kf (Blk.new w 25 #[.int .i64 k,.int .i64 n,.string s,.slice A len cap]);have HC0:=kf ((Chg.refl NoS w).alloc (.cells #[.int .i64 k,.int .i64 n,.string s,.slice A len cap] 25));obtain⟨W0,hW⟩:∃ W0,W0=w.alloc (.cells #[.int .i64 k,.int .i64 n,.string s,.slice A len cap] 25):=⟨_,rfl⟩
 obtain⟨g,hgg⟩:∃ g,g=w.heap.size:=⟨_,rfl⟩
 rw [<- hW] at HB HC0;rw [<- hgg] at HB;have p0:=HB.out.cell 0;have p1:=HB.out.cell 1;have p2:=HB.out.cell 2;have p3:=HB.out.cell 3;simp at p0 p1 p2 p3;by_cases h0:k=0
 ·subst h0;by_cases hs:s.size=0
  ·obtain rfl:=z0t hs;by_cases hz:len=0
   ·subst hz;by_cases hn:n=0
    ·subst hn
     have HE:Hid (z0d 0 0 ⟨#[]⟩ l=0):=by
      show _=_;rw [z7b];rw [if_pos ⟨rfl,hl,rfl⟩]
     clear HD HV HT HK hl hss;go_enter Tryz.func107,Tryz.ntmps107;go_upto_region 1 with fail;rw [<- hgg,<- hW];clear hgg hW;go_wp2_with fail;go_ret;exact⟨z00 HE.out.symm,HC0.out⟩
    ·have e1:(n==0)=false:=by simpa using hn
     have HE:Hid (z0d 0 n ⟨#[]⟩ l=2):=by
      show _=_;rw [z7b];rw [if_neg (fun h=>hn h.2.2)]
     clear HD HV HT HK hl hss;go_enter Tryz.func107,Tryz.ntmps107;go_upto_region 1 with fail;rw [<- hgg,<- hW];clear hgg hW;go_wp2_with fail;go_ret;exact⟨z00 HE.out.symm,HC0.out⟩
   ·have z1:((len:Int)==0)=false:=by simp;omega
    have HE:Hid (z0d 0 n ⟨#[]⟩ l=2):=by
     show _=_;rw [z7b];rw [if_neg (fun h=>hz (by rw [<- hl];exact h.2.1))]
    clear HD HV HT HK hl hss;go_enter Tryz.func107,Tryz.ntmps107;go_upto_region 1 with fail;rw [<- hgg,<- hW];clear hgg hW;go_wp2_with fail;go_ret;exact⟨z00 HE.out.symm,HC0.out⟩
  ·have u1:=z1g hs;by_cases hz:len=0
   ·subst hz
    have HE:Hid (z0d 0 n s l=2):=by
     show _=_;rw [z7b];rw [if_neg (fun h=>hs h.1)]
    clear HD HV HT HK hl hss;go_enter Tryz.func107,Tryz.ntmps107;go_upto_region 1 with fail;rw [<- hgg,<- hW];clear hgg hW;go_wp2_with fail;go_ret;exact⟨z00 HE.out.symm,HC0.out⟩
   ·have z1:((len:Int)==0)=false:=by simp;omega
    have HE:Hid (z0d 0 n s l=2):=by
     show _=_;rw [z7b];rw [if_neg (fun h=>hs h.1)]
    clear HD HV HT HK hl hss;go_enter Tryz.func107,Tryz.ntmps107;go_upto_region 1 with fail;rw [<- hgg,<- hW];clear hgg hW;go_wp2_with fail;go_ret;exact⟨z00 HE.out.symm,HC0.out⟩
 ·have x0:(k==0)=false:=by simpa using h0
  by_cases h1:k=1
  ·subst h1;by_cases hs:s.size=0
   ·obtain rfl:=z0t hs;by_cases hz:len=0
    ·subst hz;by_cases hn:n=0
     ·subst hn
      have HE:Hid (z0d 1 0 ⟨#[]⟩ l=0):=by
       show _=_;rw [z5e];rw [if_pos ⟨rfl,hl,.inl rfl⟩]
      clear HD HV HT HK hl hss;go_enter Tryz.func107,Tryz.ntmps107;go_upto_region 1 with fail;rw [<- hgg,<- hW];clear hgg hW;go_wp2_with fail;go_ret;exact⟨z00 HE.out.symm,HC0.out⟩
     ·have e1:(n==0)=false:=by simpa using hn
      by_cases hn1:n=1
      ·subst hn1
       have HE:Hid (z0d 1 1 ⟨#[]⟩ l=0):=by
        show _=_;rw [z5e];rw [if_pos ⟨rfl,hl,.inr rfl⟩]
       clear HD HV HT HK hl hss;go_enter Tryz.func107,Tryz.ntmps107;go_upto_region 1 with fail;rw [<- hgg,<- hW];clear hgg hW;go_wp2_with fail;go_ret;exact⟨z00 HE.out.symm,HC0.out⟩
      ·have e2:(n==1)=false:=by simpa using hn1
       have HE:Hid (z0d 1 n ⟨#[]⟩ l=2):=by
        show _=_;rw [z5e];rw [if_neg (fun h=>by rcases h.2.2 with h|h;exact hn h;exact hn1 h)]
       clear HD HV HT HK hl hss;go_enter Tryz.func107,Tryz.ntmps107;go_upto_region 1 with fail;rw [<- hgg,<- hW];clear hgg hW;go_wp2_with fail;go_ret;exact⟨z00 HE.out.symm,HC0.out⟩
    ·have z1:((len:Int)==0)=false:=by simp;omega
     have HE:Hid (z0d 1 n ⟨#[]⟩ l=2):=by
      show _=_;rw [z5e];rw [if_neg (fun h=>hz (by rw [<- hl];exact h.2.1))]
     clear HD HV HT HK hl hss;go_enter Tryz.func107,Tryz.ntmps107;go_upto_region 1 with fail;rw [<- hgg,<- hW];clear hgg hW;go_wp2_with fail;go_ret;exact⟨z00 HE.out.symm,HC0.out⟩
   ·have u1:=z1g hs;by_cases hz:len=0
    ·subst hz
     have HE:Hid (z0d 1 n s l=2):=by
      show _=_;rw [z5e];rw [if_neg (fun h=>hs h.1)]
     clear HD HV HT HK hl hss;go_enter Tryz.func107,Tryz.ntmps107;go_upto_region 1 with fail;rw [<- hgg,<- hW];clear hgg hW;go_wp2_with fail;go_ret;exact⟨z00 HE.out.symm,HC0.out⟩
    ·have z1:((len:Int)==0)=false:=by simp;omega
     have HE:Hid (z0d 1 n s l=2):=by
      show _=_;rw [z5e];rw [if_neg (fun h=>hs h.1)]
     clear HD HV HT HK hl hss;go_enter Tryz.func107,Tryz.ntmps107;go_upto_region 1 with fail;rw [<- hgg,<- hW];clear hgg hW;go_wp2_with fail;go_ret;exact⟨z00 HE.out.symm,HC0.out⟩
  ·have x1:(k==1)=false:=by simpa using h1
   by_cases h2:k=2
   ·subst h2;by_cases hs:s.size=0
    ·obtain rfl:=z0t hs;by_cases hz:len=0
     ·subst hz
      have HE:Hid (z0d 2 n ⟨#[]⟩ l=z05 2 n (ByteArray.mk #[]).size 0):=by
       show _=_;rw [y07,hl]
      clear HD HV HT hl hss;go_enter Tryz.func107,Tryz.ntmps107;go_upto_region 1 with fail;rw [<- hgg,<- hW];clear hgg hW;go_wp2_with (go_at_call 84;refine(HK.out _).mono ?_;rintro e w2 ⟨rfl,hc2⟩;have HC2:=kf (HC0.out.trans hc2 (fun _ _ h=>h));clear hc2);go_ret;exact⟨z00 HE.out.symm,HC2.out⟩
     ·have z1:((len:Int)==0)=false:=by simp;omega
      have HE:Hid (z0d 2 n ⟨#[]⟩ l=z05 2 n (ByteArray.mk #[]).size len):=by
       show _=_;rw [y07,hl]
      clear HD HV HT hl hss;go_enter Tryz.func107,Tryz.ntmps107;go_upto_region 1 with fail;rw [<- hgg,<- hW];clear hgg hW;go_wp2_with (go_at_call 84;refine(HK.out _).mono ?_;rintro e w2 ⟨rfl,hc2⟩;have HC2:=kf (HC0.out.trans hc2 (fun _ _ h=>h));clear hc2);go_ret;exact⟨z00 HE.out.symm,HC2.out⟩
    ·have u1:=z1g hs;by_cases hz:len=0
     ·subst hz
      have HE:Hid (z0d 2 n s l=z05 2 n (s).size 0):=by
       show _=_;rw [y07,hl]
      clear HD HV HT hl hss;go_enter Tryz.func107,Tryz.ntmps107;go_upto_region 1 with fail;rw [<- hgg,<- hW];clear hgg hW;go_wp2_with (go_at_call 84;refine(HK.out _).mono ?_;rintro e w2 ⟨rfl,hc2⟩;have HC2:=kf (HC0.out.trans hc2 (fun _ _ h=>h));clear hc2);go_ret;exact⟨z00 HE.out.symm,HC2.out⟩
     ·have z1:((len:Int)==0)=false:=by simp;omega
      have HE:Hid (z0d 2 n s l=z05 2 n (s).size len):=by
       show _=_;rw [y07,hl]
      clear HD HV HT hl hss;go_enter Tryz.func107,Tryz.ntmps107;go_upto_region 1 with fail;rw [<- hgg,<- hW];clear hgg hW;go_wp2_with (go_at_call 84;refine(HK.out _).mono ?_;rintro e w2 ⟨rfl,hc2⟩;have HC2:=kf (HC0.out.trans hc2 (fun _ _ h=>h));clear hc2);go_ret;exact⟨z00 HE.out.symm,HC2.out⟩
   ·have x2:(k==2)=false:=by simpa using h2
    by_cases h3:k=3
    ·subst h3;by_cases hs:s.size=0
     ·obtain rfl:=z0t hs;by_cases hz:len=0
      ·subst hz
       have HE:Hid (z0d 3 n ⟨#[]⟩ l=z05 3 n (ByteArray.mk #[]).size 0):=by
        show _=_;rw [y06,hl]
       clear HD HV HT hl hss;go_enter Tryz.func107,Tryz.ntmps107;go_upto_region 1 with fail;rw [<- hgg,<- hW];clear hgg hW;go_wp2_with (go_at_call 84;refine(HK.out _).mono ?_;rintro e w2 ⟨rfl,hc2⟩;have HC2:=kf (HC0.out.trans hc2 (fun _ _ h=>h));clear hc2);go_ret;exact⟨z00 HE.out.symm,HC2.out⟩
      ·have z1:((len:Int)==0)=false:=by simp;omega
       have HE:Hid (z0d 3 n ⟨#[]⟩ l=z05 3 n (ByteArray.mk #[]).size len):=by
        show _=_;rw [y06,hl]
       clear HD HV HT hl hss;go_enter Tryz.func107,Tryz.ntmps107;go_upto_region 1 with fail;rw [<- hgg,<- hW];clear hgg hW;go_wp2_with (go_at_call 84;refine(HK.out _).mono ?_;rintro e w2 ⟨rfl,hc2⟩;have HC2:=kf (HC0.out.trans hc2 (fun _ _ h=>h));clear hc2);go_ret;exact⟨z00 HE.out.symm,HC2.out⟩
     ·have u1:=z1g hs;by_cases hz:len=0
      ·subst hz
       have HE:Hid (z0d 3 n s l=z05 3 n (s).size 0):=by
        show _=_;rw [y06,hl]
       clear HD HV HT hl hss;go_enter Tryz.func107,Tryz.ntmps107;go_upto_region 1 with fail;rw [<- hgg,<- hW];clear hgg hW;go_wp2_with (go_at_call 84;refine(HK.out _).mono ?_;rintro e w2 ⟨rfl,hc2⟩;have HC2:=kf (HC0.out.trans hc2 (fun _ _ h=>h));clear hc2);go_ret;exact⟨z00 HE.out.symm,HC2.out⟩
      ·have z1:((len:Int)==0)=false:=by simp;omega
       have HE:Hid (z0d 3 n s l=z05 3 n (s).size len):=by
        show _=_;rw [y06,hl]
       clear HD HV HT hl hss;go_enter Tryz.func107,Tryz.ntmps107;go_upto_region 1 with fail;rw [<- hgg,<- hW];clear hgg hW;go_wp2_with (go_at_call 84;refine(HK.out _).mono ?_;rintro e w2 ⟨rfl,hc2⟩;have HC2:=kf (HC0.out.trans hc2 (fun _ _ h=>h));clear hc2);go_ret;exact⟨z00 HE.out.symm,HC2.out⟩
    ·have x3:(k==3)=false:=by simpa using h3
     by_cases h4:k=4
     ·subst h4;by_cases hs:s.size=0
      ·obtain rfl:=z0t hs;by_cases hz:len=0
       ·subst hz;by_cases hn:n=0
        ·subst hn
         have HE:Hid (z0d 4 0 ⟨#[]⟩ l=0):=by
          show _=_;rw [z5w];rw [if_pos ⟨rfl,hl⟩]
         clear HD HV HT HK hl hss;go_enter Tryz.func107,Tryz.ntmps107;go_upto_region 1 with fail;rw [<- hgg,<- hW];clear hgg hW;go_wp2_with fail;go_ret;exact⟨z00 HE.out.symm,HC0.out⟩
        ·have e1:(n==0)=false:=by simpa using hn
         have HE:Hid (z0d 4 n ⟨#[]⟩ l=2):=by
          show _=_;rw [z5w];rw [if_neg (fun h=>hn h.1)]
         clear HD HV HT HK hl hss;go_enter Tryz.func107,Tryz.ntmps107;go_upto_region 1 with fail;rw [<- hgg,<- hW];clear hgg hW;go_wp2_with fail;go_ret;exact⟨z00 HE.out.symm,HC0.out⟩
       ·have z1:((len:Int)==0)=false:=by simp;omega
        by_cases hn:n=0
        ·subst hn
         have HE:Hid (z0d 4 0 ⟨#[]⟩ l=2):=by
          show _=_;rw [z5w];rw [if_neg (fun h=>hz (by rw [<- hl];exact h.2))]
         clear HD HV HT HK hl hss;go_enter Tryz.func107,Tryz.ntmps107;go_upto_region 1 with fail;rw [<- hgg,<- hW];clear hgg hW;go_wp2_with fail;go_ret;exact⟨z00 HE.out.symm,HC0.out⟩
        ·have e1:(n==0)=false:=by simpa using hn
         have HE:Hid (z0d 4 n ⟨#[]⟩ l=2):=by
          show _=_;rw [z5w];rw [if_neg (fun h=>hn h.1)]
         clear HD HV HT HK hl hss;go_enter Tryz.func107,Tryz.ntmps107;go_upto_region 1 with fail;rw [<- hgg,<- hW];clear hgg hW;go_wp2_with fail;go_ret;exact⟨z00 HE.out.symm,HC0.out⟩
      ·have u1:=z1g hs;by_cases hz:len=0
       ·subst hz;by_cases hn:n=0
        ·subst hn
         have HE:Hid (z0d 4 0 s l=0):=by
          show _=_;rw [z5w];rw [if_pos ⟨rfl,hl⟩]
         clear HD HV HT HK hl hss;go_enter Tryz.func107,Tryz.ntmps107;go_upto_region 1 with fail;rw [<- hgg,<- hW];clear hgg hW;go_wp2_with fail;go_ret;exact⟨z00 HE.out.symm,HC0.out⟩
        ·have e1:(n==0)=false:=by simpa using hn
         have HE:Hid (z0d 4 n s l=2):=by
          show _=_;rw [z5w];rw [if_neg (fun h=>hn h.1)]
         clear HD HV HT HK hl hss;go_enter Tryz.func107,Tryz.ntmps107;go_upto_region 1 with fail;rw [<- hgg,<- hW];clear hgg hW;go_wp2_with fail;go_ret;exact⟨z00 HE.out.symm,HC0.out⟩
       ·have z1:((len:Int)==0)=false:=by simp;omega
        by_cases hn:n=0
        ·subst hn
         have HE:Hid (z0d 4 0 s l=2):=by
          show _=_;rw [z5w];rw [if_neg (fun h=>hz (by rw [<- hl];exact h.2))]
         clear HD HV HT HK hl hss;go_enter Tryz.func107,Tryz.ntmps107;go_upto_region 1 with fail;rw [<- hgg,<- hW];clear hgg hW;go_wp2_with fail;go_ret;exact⟨z00 HE.out.symm,HC0.out⟩
        ·have e1:(n==0)=false:=by simpa using hn
         have HE:Hid (z0d 4 n s l=2):=by
          show _=_;rw [z5w];rw [if_neg (fun h=>hn h.1)]
         clear HD HV HT HK hl hss;go_enter Tryz.func107,Tryz.ntmps107;go_upto_region 1 with fail;rw [<- hgg,<- hW];clear hgg hW;go_wp2_with fail;go_ret;exact⟨z00 HE.out.symm,HC0.out⟩
     ·have x4:(k==4)=false:=by simpa using h4
      by_cases h5:k=5
      ·subst h5;by_cases hs:s.size=0
       ·obtain rfl:=z0t hs;by_cases hz:len=0
        ·subst hz;by_cases ht:z1o ⟨#[]⟩
         ·have t1:decide (z1o ⟨#[]⟩)=true:=decide_eq_true ht;rw [t1] at HT;by_cases hn:n=0
          ·subst hn
           have HE:Hid (z0d 5 0 ⟨#[]⟩ l=0):=by
            show _=_;rw [z2q];rw [if_neg (fun h=>h ht),if_pos ⟨rfl,hl⟩]
           clear HD HV HK hl hss;go_enter Tryz.func107,Tryz.ntmps107;go_upto_region 1 with fail;rw [<- hgg,<- hW];clear hgg hW;go_wp2_with (go_at_call 86;refine(HT.out _).mono ?_;rintro e w2 ⟨rfl,rfl⟩);go_ret;exact⟨z00 HE.out.symm,HC0.out⟩
          ·have e1:(n==0)=false:=by simpa using hn
           have HE:Hid (z0d 5 n ⟨#[]⟩ l=2):=by
            show _=_;rw [z2q];rw [if_neg (fun h=>h ht),if_neg (fun h=>hn h.1)]
           clear HD HV HK hl hss;go_enter Tryz.func107,Tryz.ntmps107;go_upto_region 1 with fail;rw [<- hgg,<- hW];clear hgg hW;go_wp2_with (go_at_call 86;refine(HT.out _).mono ?_;rintro e w2 ⟨rfl,rfl⟩);go_ret;exact⟨z00 HE.out.symm,HC0.out⟩
         ·have t1:decide (z1o ⟨#[]⟩)=false:=decide_eq_false ht;rw [t1] at HT
          have HE:Hid (z0d 5 n ⟨#[]⟩ l=17):=by
           show _=_;rw [z2q];rw [if_pos ht]
          clear HD HV HK hl hss;go_enter Tryz.func107,Tryz.ntmps107;go_upto_region 1 with fail;rw [<- hgg,<- hW];clear hgg hW;go_wp2_with (go_at_call 86;refine(HT.out _).mono ?_;rintro e w2 ⟨rfl,rfl⟩);go_ret;exact⟨z00 HE.out.symm,HC0.out⟩
        ·have z1:((len:Int)==0)=false:=by simp;omega
         by_cases ht:z1o ⟨#[]⟩
         ·have t1:decide (z1o ⟨#[]⟩)=true:=decide_eq_true ht;rw [t1] at HT;by_cases hn:n=0
          ·subst hn
           have HE:Hid (z0d 5 0 ⟨#[]⟩ l=2):=by
            show _=_;rw [z2q];rw [if_neg (fun h=>h ht),if_neg (fun h=>hz (by rw [<- hl];exact h.2))]
           clear HD HV HK hl hss;go_enter Tryz.func107,Tryz.ntmps107;go_upto_region 1 with fail;rw [<- hgg,<- hW];clear hgg hW;go_wp2_with (go_at_call 86;refine(HT.out _).mono ?_;rintro e w2 ⟨rfl,rfl⟩);go_ret;exact⟨z00 HE.out.symm,HC0.out⟩
          ·have e1:(n==0)=false:=by simpa using hn
           have HE:Hid (z0d 5 n ⟨#[]⟩ l=2):=by
            show _=_;rw [z2q];rw [if_neg (fun h=>h ht),if_neg (fun h=>hn h.1)]
           clear HD HV HK hl hss;go_enter Tryz.func107,Tryz.ntmps107;go_upto_region 1 with fail;rw [<- hgg,<- hW];clear hgg hW;go_wp2_with (go_at_call 86;refine(HT.out _).mono ?_;rintro e w2 ⟨rfl,rfl⟩);go_ret;exact⟨z00 HE.out.symm,HC0.out⟩
         ·have t1:decide (z1o ⟨#[]⟩)=false:=decide_eq_false ht;rw [t1] at HT
          have HE:Hid (z0d 5 n ⟨#[]⟩ l=17):=by
           show _=_;rw [z2q];rw [if_pos ht]
          clear HD HV HK hl hss;go_enter Tryz.func107,Tryz.ntmps107;go_upto_region 1 with fail;rw [<- hgg,<- hW];clear hgg hW;go_wp2_with (go_at_call 86;refine(HT.out _).mono ?_;rintro e w2 ⟨rfl,rfl⟩);go_ret;exact⟨z00 HE.out.symm,HC0.out⟩
       ·have u1:=z1g hs;by_cases hz:len=0
        ·subst hz;by_cases ht:z1o s
         ·have t1:decide (z1o s)=true:=decide_eq_true ht;rw [t1] at HT;by_cases hn:n=0
          ·subst hn
           have HE:Hid (z0d 5 0 s l=0):=by
            show _=_;rw [z2q];rw [if_neg (fun h=>h ht),if_pos ⟨rfl,hl⟩]
           clear HD HV HK hl hss;go_enter Tryz.func107,Tryz.ntmps107;go_upto_region 1 with fail;rw [<- hgg,<- hW];clear hgg hW;go_wp2_with (go_at_call 86;refine(HT.out _).mono ?_;rintro e w2 ⟨rfl,rfl⟩);go_ret;exact⟨z00 HE.out.symm,HC0.out⟩
          ·have e1:(n==0)=false:=by simpa using hn
           have HE:Hid (z0d 5 n s l=2):=by
            show _=_;rw [z2q];rw [if_neg (fun h=>h ht),if_neg (fun h=>hn h.1)]
           clear HD HV HK hl hss;go_enter Tryz.func107,Tryz.ntmps107;go_upto_region 1 with fail;rw [<- hgg,<- hW];clear hgg hW;go_wp2_with (go_at_call 86;refine(HT.out _).mono ?_;rintro e w2 ⟨rfl,rfl⟩);go_ret;exact⟨z00 HE.out.symm,HC0.out⟩
         ·have t1:decide (z1o s)=false:=decide_eq_false ht;rw [t1] at HT
          have HE:Hid (z0d 5 n s l=17):=by
           show _=_;rw [z2q];rw [if_pos ht]
          clear HD HV HK hl hss;go_enter Tryz.func107,Tryz.ntmps107;go_upto_region 1 with fail;rw [<- hgg,<- hW];clear hgg hW;go_wp2_with (go_at_call 86;refine(HT.out _).mono ?_;rintro e w2 ⟨rfl,rfl⟩);go_ret;exact⟨z00 HE.out.symm,HC0.out⟩
        ·have z1:((len:Int)==0)=false:=by simp;omega
         by_cases ht:z1o s
         ·have t1:decide (z1o s)=true:=decide_eq_true ht;rw [t1] at HT;by_cases hn:n=0
          ·subst hn
           have HE:Hid (z0d 5 0 s l=2):=by
            show _=_;rw [z2q];rw [if_neg (fun h=>h ht),if_neg (fun h=>hz (by rw [<- hl];exact h.2))]
           clear HD HV HK hl hss;go_enter Tryz.func107,Tryz.ntmps107;go_upto_region 1 with fail;rw [<- hgg,<- hW];clear hgg hW;go_wp2_with (go_at_call 86;refine(HT.out _).mono ?_;rintro e w2 ⟨rfl,rfl⟩);go_ret;exact⟨z00 HE.out.symm,HC0.out⟩
          ·have e1:(n==0)=false:=by simpa using hn
           have HE:Hid (z0d 5 n s l=2):=by
            show _=_;rw [z2q];rw [if_neg (fun h=>h ht),if_neg (fun h=>hn h.1)]
           clear HD HV HK hl hss;go_enter Tryz.func107,Tryz.ntmps107;go_upto_region 1 with fail;rw [<- hgg,<- hW];clear hgg hW;go_wp2_with (go_at_call 86;refine(HT.out _).mono ?_;rintro e w2 ⟨rfl,rfl⟩);go_ret;exact⟨z00 HE.out.symm,HC0.out⟩
         ·have t1:decide (z1o s)=false:=decide_eq_false ht;rw [t1] at HT
          have HE:Hid (z0d 5 n s l=17):=by
           show _=_;rw [z2q];rw [if_pos ht]
          clear HD HV HK hl hss;go_enter Tryz.func107,Tryz.ntmps107;go_upto_region 1 with fail;rw [<- hgg,<- hW];clear hgg hW;go_wp2_with (go_at_call 86;refine(HT.out _).mono ?_;rintro e w2 ⟨rfl,rfl⟩);go_ret;exact⟨z00 HE.out.symm,HC0.out⟩
      ·have x5:(k==5)=false:=by simpa using h5
       by_cases h6:k=6
       ·subst h6;by_cases hs:s.size=0
        ·obtain rfl:=z0t hs;by_cases hz:len=0
         ·subst hz;by_cases hn:n=0
          ·subst hn
           have HE:Hid (z0d 6 0 ⟨#[]⟩ l=0):=by
            show _=_;rw [z5v];rw [if_pos ⟨rfl,rfl⟩]
           clear HD HV HT HK hl hss;go_enter Tryz.func107,Tryz.ntmps107;go_upto_region 1 with fail;rw [<- hgg,<- hW];clear hgg hW;go_wp2_with fail;go_ret;exact⟨z00 HE.out.symm,HC0.out⟩
          ·have e1:(n==0)=false:=by simpa using hn
           have HE:Hid (z0d 6 n ⟨#[]⟩ l=2):=by
            show _=_;rw [z5v];rw [if_neg (fun h=>hn h.1)]
           clear HD HV HT HK hl hss;go_enter Tryz.func107,Tryz.ntmps107;go_upto_region 1 with fail;rw [<- hgg,<- hW];clear hgg hW;go_wp2_with fail;go_ret;exact⟨z00 HE.out.symm,HC0.out⟩
         ·have z1:((len:Int)==0)=false:=by simp;omega
          by_cases hn:n=0
          ·subst hn
           have HE:Hid (z0d 6 0 ⟨#[]⟩ l=0):=by
            show _=_;rw [z5v];rw [if_pos ⟨rfl,rfl⟩]
           clear HD HV HT HK hl hss;go_enter Tryz.func107,Tryz.ntmps107;go_upto_region 1 with fail;rw [<- hgg,<- hW];clear hgg hW;go_wp2_with fail;go_ret;exact⟨z00 HE.out.symm,HC0.out⟩
          ·have e1:(n==0)=false:=by simpa using hn
           have HE:Hid (z0d 6 n ⟨#[]⟩ l=2):=by
            show _=_;rw [z5v];rw [if_neg (fun h=>hn h.1)]
           clear HD HV HT HK hl hss;go_enter Tryz.func107,Tryz.ntmps107;go_upto_region 1 with fail;rw [<- hgg,<- hW];clear hgg hW;go_wp2_with fail;go_ret;exact⟨z00 HE.out.symm,HC0.out⟩
        ·have u1:=z1g hs;by_cases hz:len=0
         ·subst hz;by_cases hn:n=0
          ·subst hn
           have HE:Hid (z0d 6 0 s l=2):=by
            show _=_;rw [z5v];rw [if_neg (fun h=>hs h.2)]
           clear HD HV HT HK hl hss;go_enter Tryz.func107,Tryz.ntmps107;go_upto_region 1 with fail;rw [<- hgg,<- hW];clear hgg hW;go_wp2_with fail;go_ret;exact⟨z00 HE.out.symm,HC0.out⟩
          ·have e1:(n==0)=false:=by simpa using hn
           have HE:Hid (z0d 6 n s l=2):=by
            show _=_;rw [z5v];rw [if_neg (fun h=>hn h.1)]
           clear HD HV HT HK hl hss;go_enter Tryz.func107,Tryz.ntmps107;go_upto_region 1 with fail;rw [<- hgg,<- hW];clear hgg hW;go_wp2_with fail;go_ret;exact⟨z00 HE.out.symm,HC0.out⟩
         ·have z1:((len:Int)==0)=false:=by simp;omega
          by_cases hn:n=0
          ·subst hn
           have HE:Hid (z0d 6 0 s l=2):=by
            show _=_;rw [z5v];rw [if_neg (fun h=>hs h.2)]
           clear HD HV HT HK hl hss;go_enter Tryz.func107,Tryz.ntmps107;go_upto_region 1 with fail;rw [<- hgg,<- hW];clear hgg hW;go_wp2_with fail;go_ret;exact⟨z00 HE.out.symm,HC0.out⟩
          ·have e1:(n==0)=false:=by simpa using hn
           have HE:Hid (z0d 6 n s l=2):=by
            show _=_;rw [z5v];rw [if_neg (fun h=>hn h.1)]
           clear HD HV HT HK hl hss;go_enter Tryz.func107,Tryz.ntmps107;go_upto_region 1 with fail;rw [<- hgg,<- hW];clear hgg hW;go_wp2_with fail;go_ret;exact⟨z00 HE.out.symm,HC0.out⟩
       ·have x6:(k==6)=false:=by simpa using h6
        by_cases h7:k=7
        ·subst h7;by_cases hs:s.size=0
         ·obtain rfl:=z0t hs;by_cases hz:len=0
          ·subst hz;have HE:Hid (z0d 7 n ⟨#[]⟩ l=z42 n (ByteArray.mk #[]).size l):=y05 _ _ _;clear HT HK hl hss;go_enter Tryz.func107,Tryz.ntmps107;go_upto_region 1 with fail;rw [<- hgg,<- hW];clear hgg hW;go_wp2_with (go_at_call 148;refine(HD.out _ (HV.out.chg HC0.out)).mono ?_;rintro e w2 ⟨rfl,hc2⟩;have HC2:=kf (HC0.out.trans hc2 (fun _ _ h=>h));clear hc2);go_ret;exact⟨z00 HE.out.symm,HC2.out⟩
          ·have z1:((len:Int)==0)=false:=by simp;omega
           have HE:Hid (z0d 7 n ⟨#[]⟩ l=z42 n (ByteArray.mk #[]).size l):=y05 _ _ _;clear HT HK hl hss;go_enter Tryz.func107,Tryz.ntmps107;go_upto_region 1 with fail;rw [<- hgg,<- hW];clear hgg hW;go_wp2_with (go_at_call 148;refine(HD.out _ (HV.out.chg HC0.out)).mono ?_;rintro e w2 ⟨rfl,hc2⟩;have HC2:=kf (HC0.out.trans hc2 (fun _ _ h=>h));clear hc2);go_ret;exact⟨z00 HE.out.symm,HC2.out⟩
         ·have u1:=z1g hs;by_cases hz:len=0
          ·subst hz;have HE:Hid (z0d 7 n s l=z42 n (s).size l):=y05 _ _ _;clear HT HK hl hss;go_enter Tryz.func107,Tryz.ntmps107;go_upto_region 1 with fail;rw [<- hgg,<- hW];clear hgg hW;go_wp2_with (go_at_call 148;refine(HD.out _ (HV.out.chg HC0.out)).mono ?_;rintro e w2 ⟨rfl,hc2⟩;have HC2:=kf (HC0.out.trans hc2 (fun _ _ h=>h));clear hc2);go_ret;exact⟨z00 HE.out.symm,HC2.out⟩
          ·have z1:((len:Int)==0)=false:=by simp;omega
           have HE:Hid (z0d 7 n s l=z42 n (s).size l):=y05 _ _ _;clear HT HK hl hss;go_enter Tryz.func107,Tryz.ntmps107;go_upto_region 1 with fail;rw [<- hgg,<- hW];clear hgg hW;go_wp2_with (go_at_call 148;refine(HD.out _ (HV.out.chg HC0.out)).mono ?_;rintro e w2 ⟨rfl,hc2⟩;have HC2:=kf (HC0.out.trans hc2 (fun _ _ h=>h));clear hc2);go_ret;exact⟨z00 HE.out.symm,HC2.out⟩
        ·have x7:(k==7)=false:=by simpa using h7
         by_cases h8:k=8
         ·subst h8;by_cases hs:s.size=0
          ·obtain rfl:=z0t hs;by_cases hz:len=0
           ·subst hz;by_cases hn:1<=n
            ·have d1:decide (1<=n)=true:=by simpa using hn
             by_cases hn2:n<=4096
             ·have d2:decide (n<=4096)=true:=by simpa using hn2
              have HE:Hid (z0d 8 n ⟨#[]⟩ l=0):=by
               show _=_;rw [z4i];rw [if_pos ⟨rfl,hl,hn,hn2⟩]
              clear HD HV HT HK hl hss;go_enter Tryz.func107,Tryz.ntmps107;go_upto_region 1 with fail;rw [<- hgg,<- hW];clear hgg hW;go_wp2_with fail;go_ret;exact⟨z00 HE.out.symm,HC0.out⟩
             ·have d2:decide (n<=4096)=false:=by simpa using hn2
              have HE:Hid (z0d 8 n ⟨#[]⟩ l=2):=by
               show _=_;rw [z4i];rw [if_neg (fun h=>hn2 h.2.2.2)]
              clear HD HV HT HK hl hss;go_enter Tryz.func107,Tryz.ntmps107;go_upto_region 1 with fail;rw [<- hgg,<- hW];clear hgg hW;go_wp2_with fail;go_ret;exact⟨z00 HE.out.symm,HC0.out⟩
            ·have d1:decide (1<=n)=false:=by simpa using hn
             have HE:Hid (z0d 8 n ⟨#[]⟩ l=2):=by
              show _=_;rw [z4i];rw [if_neg (fun h=>hn h.2.2.1)]
             clear HD HV HT HK hl hss;go_enter Tryz.func107,Tryz.ntmps107;go_upto_region 1 with fail;rw [<- hgg,<- hW];clear hgg hW;go_wp2_with fail;go_ret;exact⟨z00 HE.out.symm,HC0.out⟩
           ·have z1:((len:Int)==0)=false:=by simp;omega
            have HE:Hid (z0d 8 n ⟨#[]⟩ l=2):=by
             show _=_;rw [z4i];rw [if_neg (fun h=>hz (by rw [<- hl];exact h.2.1))]
            clear HD HV HT HK hl hss;go_enter Tryz.func107,Tryz.ntmps107;go_upto_region 1 with fail;rw [<- hgg,<- hW];clear hgg hW;go_wp2_with fail;go_ret;exact⟨z00 HE.out.symm,HC0.out⟩
          ·have u1:=z1g hs;by_cases hz:len=0
           ·subst hz
            have HE:Hid (z0d 8 n s l=2):=by
             show _=_;rw [z4i];rw [if_neg (fun h=>hs h.1)]
            clear HD HV HT HK hl hss;go_enter Tryz.func107,Tryz.ntmps107;go_upto_region 1 with fail;rw [<- hgg,<- hW];clear hgg hW;go_wp2_with fail;go_ret;exact⟨z00 HE.out.symm,HC0.out⟩
           ·have z1:((len:Int)==0)=false:=by simp;omega
            have HE:Hid (z0d 8 n s l=2):=by
             show _=_;rw [z4i];rw [if_neg (fun h=>hs h.1)]
            clear HD HV HT HK hl hss;go_enter Tryz.func107,Tryz.ntmps107;go_upto_region 1 with fail;rw [<- hgg,<- hW];clear hgg hW;go_wp2_with fail;go_ret;exact⟨z00 HE.out.symm,HC0.out⟩
         ·have x8:(k==8)=false:=by simpa using h8
          by_cases hs:s.size=0
          ·obtain rfl:=z0t hs;by_cases hz:len=0
           ·subst hz
            have HE:Hid (z0d k n ⟨#[]⟩ l=2):=by
             show _=_;rw [z0d,if_neg h0,if_neg h1,if_neg (fun h=>h.elim h2 h3),if_neg h4,if_neg h5,if_neg h6,if_neg h7,if_neg h8]
            clear HD HV HT HK hl hss;clear h0 h1 h2 h3 h4 h5 h6 h7 h8;go_enter Tryz.func107,Tryz.ntmps107;go_upto_region 1 with fail;rw [<- hgg,<- hW];clear hgg hW;go_wp2_with fail;go_ret;exact⟨z00 HE.out.symm,HC0.out⟩
           ·have z1:((len:Int)==0)=false:=by simp;omega
            have HE:Hid (z0d k n ⟨#[]⟩ l=2):=by
             show _=_;rw [z0d,if_neg h0,if_neg h1,if_neg (fun h=>h.elim h2 h3),if_neg h4,if_neg h5,if_neg h6,if_neg h7,if_neg h8]
            clear HD HV HT HK hl hss;clear h0 h1 h2 h3 h4 h5 h6 h7 h8;go_enter Tryz.func107,Tryz.ntmps107;go_upto_region 1 with fail;rw [<- hgg,<- hW];clear hgg hW;go_wp2_with fail;go_ret;exact⟨z00 HE.out.symm,HC0.out⟩
          ·have u1:=z1g hs;by_cases hz:len=0
           ·subst hz
            have HE:Hid (z0d k n s l=2):=by
             show _=_;rw [z0d,if_neg h0,if_neg h1,if_neg (fun h=>h.elim h2 h3),if_neg h4,if_neg h5,if_neg h6,if_neg h7,if_neg h8]
            clear HD HV HT HK hl hss;clear h0 h1 h2 h3 h4 h5 h6 h7 h8;go_enter Tryz.func107,Tryz.ntmps107;go_upto_region 1 with fail;rw [<- hgg,<- hW];clear hgg hW;go_wp2_with fail;go_ret;exact⟨z00 HE.out.symm,HC0.out⟩
           ·have z1:((len:Int)==0)=false:=by simp;omega
            have HE:Hid (z0d k n s l=2):=by
             show _=_;rw [z0d,if_neg h0,if_neg h1,if_neg (fun h=>h.elim h2 h3),if_neg h4,if_neg h5,if_neg h6,if_neg h7,if_neg h8]
            clear HD HV HT HK hl hss;clear h0 h1 h2 h3 h4 h5 h6 h7 h8;go_enter Tryz.func107,Tryz.ntmps107;go_upto_region 1 with fail;rw [<- hgg,<- hW];clear hgg hW;go_wp2_with fail;go_ret;exact⟨z00 HE.out.symm,HC0.out⟩
mutual
noncomputable def z0s:VT->Int
 |.mk k n s l=>if z0d k n s l≠0 then z0d k n s l else if k=6\/k=7 then z1m l else 0
noncomputable def z1m:List VT->Int
 |[]=>0
 |t::l=>if z0s t≠0 then z0s t else z1m l
end
theorem z2h (k n:Int) (s:ByteArray) (l:List VT):z0s (.mk k n s l)=if z0d k n s l≠0 then z0d k n s l else if k=6\/k=7 then z1m l else 0:=by rw [z0s]
theorem z2u (t:VT) (l:List VT):z1m (t::l)=if z0s t≠0 then z0s t else z1m l:=by rw [z1m]
theorem y6j:∀ (N:Nat) (t:VT),z2n t<=N->∀ (c:VC) (w:World),ValIs w t c ->
  Calls Tryz.prog 71 #[c.val] w fun e w'=>e=.returned (.int .i64 (z0s t))/\Chg NoS w w':=by
 intro N;induction N with
 |zero =>
  intro t ht;obtain⟨k,n,s,l⟩:=t;rw [z0x] at ht;omega
 |succ N ih =>
  intro t ht c w hv;obtain⟨tk,tn,ts,l⟩:=t;obtain⟨h1,h2,h3,hg,hl,hr⟩:=hv.inv;have HH:=kf (fun(W:World)=>z7t c W);have hv2:ValIs w (.mk c.k c.n c.s l) c:=by rw [h1,h2,h3];exact hv
  have HO:=kf (fun(W:World) (h:ValIs W (.mk c.k c.n c.s l) c)=>v0l c l W h);have HV:=kf hv2;obtain⟨ck,cn,cs,A,len,cap⟩:=c;simp only [] at h1 h2 h3 hl hr;subst h1 h2 h3;rw [z0x] at ht;have hcap:=hg.cap;have hlm:=hg.len;simp only [] at hcap hlm;unfold maxLen at hlm;have HL:=kf hl;have HR:=kf hr;have HIH:=kf (fun(t':VT) (ht':z2n t'<=z7q l)=>ih t' (by omega));unfold VC.val at HH HO;unfold VC.val;simp only [] at HH HO HV ⊢;have HB:=kf (Blk.new w 25 #[.int .i64 ck,.int .i64 cn,.string cs,.slice A len cap]);have HC0:=kf ((Chg.refl NoS w).alloc (.cells #[.int .i64 ck,.int .i64 cn,.string cs,.slice A len cap] 25));obtain⟨W0,hW⟩:∃ W0,W0=w.alloc (.cells #[.int .i64 ck,.int .i64 cn,.string cs,.slice A len cap] 25):=⟨_,rfl⟩
  obtain⟨g,hgg⟩:∃ g,g=w.heap.size:=⟨_,rfl⟩
  rw [<- hW] at HB HC0;rw [<- hgg] at HB;have p0:=HB.out.cell 0;have p1:=HB.out.cell 1;have p2:=HB.out.cell 2;have p3:=HB.out.cell 3;simp at p0 p1 p2 p3;clear hv hv2 hg hl hr ih ht;obtain⟨z,hz⟩:∃ z,z0d ck cn cs l=z:=⟨_,rfl⟩
  rw [hz] at HO;by_cases hz0:z=0
  ·subst hz0;by_cases h67:ck=6\/ck=7
   ·have HF:=kf (show z0s (.mk ck cn cs l)=z1m l from by rw [z2h,hz,if_neg (by simp),if_pos h67]);rw [show decide (ck=6\/ck=7)=true from by simpa using h67] at HH;clear h67 hz;go_enter Tryz.func71,Tryz.ntmps71;go_upto_region 1 with fail;rw [<- hgg,<- hW];clear hgg hW;go_upto_region 2 with(go_at_call 107;refine(HO.out _ (HV.out.chg HC0.out)).mono ?_;rintro e w2 ⟨rfl,hc2⟩;have HC2:=kf hc2;clear hc2);clear p0 p1 p2 p3;have HB2:=kf (HB.out.chg HC2.out (fun e=>e));have p0:=HB2.out.cell 0;have p1:=HB2.out.cell 1;have p2:=HB2.out.cell 2;have p3:=HB2.out.cell 3;simp at p0 p1 p2 p3;go_upto_region 5 with(go_at_call 106;refine(HH.out _).mono ?_;rintro e w3 ⟨rfl,hc3⟩;have HC3:=kf (HC2.out.trans hc3 (fun _ _ e=>e));clear hc3);clear p0 p1 p2 p3;go_loopw [3,4] (fun ve vk wr=>∃ (k:Nat) (e0:Int),k<=len/\ve=.int .i64 e0/\vk=.int .i64 (k:Nat)/\Hid (Chg NoS W0 wr)/\Hid (RowIs w A k (l.drop k))/\Hid (z1m l=z1m (l.drop k))) (fun _ vk _=>len-(intOf vk).toNat)
    case atStart=>exact⟨0,0,by omega,rfl,rfl,HC3,by rw [List.drop_zero];exact HR.out,kf (by rw [List.drop_zero])⟩
    case round =>
     obtain⟨k,e0,hk,rfl,rfl,HCW,HRW,HFW⟩:=hrel;have HBW:=kf (HB.out.chg HCW.out (fun e=>e));have HCR:=kf (HC0.out.trans HCW.out (fun _ _ e=>e));have q3:=HBW.out.cell 3;simp at q3;by_cases h1:k<len
     ·obtain⟨t',ht',hd⟩:=z0r (l:=l) (k:=k) (by rw [HL.out];exact h1)
      obtain⟨b,off,rfl⟩:∃ b off,A=some ⟨b,off,none⟩:=by
       have h:=HR.out;cases hll:l with
       |nil=>rw [hll] at ht';simp at ht'
       |cons t0 l0=>rw [hll] at h;exact h.start
      have hrw:=HRW.out;rw [hd] at hrw;obtain⟨ek,en,es,eA,el,ec,c0,c1,c2,c3,hv',hr'⟩:=hrw.at_ HCR.out;have HX:=kf (HIH.out t' (z1r ht') ⟨ek,en,es,eA,el,ec⟩ wr hv');unfold VC.val at HX;simp only [] at HX;have HRN:=kf hr';obtain⟨r,hr9⟩:∃ r,z0s t'=r:=⟨_,rfl⟩
      rw [hr9] at HX;have i1:(k:Int)<len:=by omega
      by_cases hr0:r=0
      ·subst hr0;have HFN:=kf (show z1m l=z1m (l.drop (k+1)) from by rw [HFW.out,hd,z2u,if_neg (by rw [hr9];simp)]);clear hrw hv' hr' hd ht' hr9;go_wp2_with (go_at_call 71;refine HX.out.mono ?_;rintro e w3 ⟨rfl,hc3⟩;have HC3:=kf (HCW.out.trans hc3 (fun _ _ e=>e));clear hc3);go_roundw
       case rel=>exact⟨k+1,0,by omega,rfl,by go_num,HC3,HRN,HFN⟩
       case measure=>simp [intOf];omega
      ·have HE:=kf (show z0s (.mk ck cn cs l)=r from by rw [HF.out,HFW.out,hd,z2u,if_pos (by rw [hr9];exact hr0),hr9]);have e1:(r != 0)=true:=by simpa using hr0
       have e2:(r==0)=false:=by simpa using hr0
       clear hrw hv' hr' hd ht' hr9 hr0;go_wp2_with (go_at_call 71;refine HX.out.mono ?_;rintro e w3 ⟨rfl,hc3⟩;have HC3:=kf (HCR.out.trans hc3 (fun _ _ e=>e));clear hc3);go_ret;exact⟨z00 HE.out.symm,HC3.out⟩
     ·obtain rfl:k=len:=by omega
      have HE:=kf (show z0s (.mk ck cn cs l)=0 from by rw [HF.out,HFW.out,List.drop_of_length_le (by rw [HL.out];exact Nat.le_refl _),z1m]);go_wp2_with fail;go_ret;exact⟨z00 HE.out.symm,HCR.out⟩
   ·have HE:=kf (show z0s (.mk ck cn cs l)=0 from by rw [z2h,hz,if_neg (by simp),if_neg h67]);rw [show decide (ck=6\/ck=7)=false from by simpa using h67] at HH;clear h67 hz;go_enter Tryz.func71,Tryz.ntmps71;go_upto_region 1 with fail;rw [<- hgg,<- hW];clear hgg hW;go_upto_region 2 with(go_at_call 107;refine(HO.out _ (HV.out.chg HC0.out)).mono ?_;rintro e w2 ⟨rfl,hc2⟩;have HC2:=kf hc2;clear hc2);clear p0 p1 p2 p3;have HB2:=kf (HB.out.chg HC2.out (fun e=>e));have p0:=HB2.out.cell 0;have p1:=HB2.out.cell 1;have p2:=HB2.out.cell 2;have p3:=HB2.out.cell 3;simp at p0 p1 p2 p3;go_wp2_with (go_at_call 106;refine(HH.out _).mono ?_;rintro e w3 ⟨rfl,hc3⟩;have HC3:=kf (HC2.out.trans hc3 (fun _ _ e=>e));clear hc3);go_ret;exact⟨z00 HE.out.symm,HC0.out.trans HC3.out (fun _ _ e=>e)⟩
  ·have HE:=kf (show z0s (.mk ck cn cs l)=z from by rw [z2h,hz,if_pos hz0]);have e1:(z != 0)=true:=by simpa using hz0
   have e2:(z==0)=false:=by simpa using hz0
   clear hz0 hz;go_enter Tryz.func71,Tryz.ntmps71;go_upto_region 1 with fail;rw [<- hgg,<- hW];clear hgg hW;go_wp2_with (go_at_call 107;refine(HO.out _ (HV.out.chg HC0.out)).mono ?_;rintro e w2 ⟨rfl,hc2⟩;have HC2:=kf hc2;clear hc2);go_ret;exact⟨z00 HE.out.symm,HC0.out.trans HC2.out (fun _ _ e=>e)⟩
noncomputable def z0h (t:VT):Int:=if 64<z0p t then 15 else z0s t
theorem z9x (t:VT) (c:VC) (w:World) (hv:ValIs w t c) (hs:z2n t<=1000000000) :
  Calls Tryz.prog 36 #[c.val] w fun e w'=>e=.returned (.int .i64 (z0h t))/\Chg NoS w w':=by
 have HD:=kf (fun W (h:ValIs W t c)=>y4j t c W h hs);have HF:=kf (fun W (h:ValIs W t c)=>y6j _ t (Nat.le_refl _) c W h);have HV:=kf hv;have hd:=(z1n t).2;obtain⟨d,hd2⟩:∃ d,z0p t=d:=⟨_,rfl⟩
 obtain⟨z,hz⟩:∃ z,z0s t=z:=⟨_,rfl⟩
 have HZ:=kf (show z0h t=if 64<d then 15 else z from by rw [z0h,hd2,hz]);rw [hd2] at HD hd;rw [hz] at HF;obtain⟨k,n,s,A,len,cap⟩:=c;unfold VC.val at HD HF ⊢;simp only [] at HD HF ⊢;have HB:=kf (Blk.new w 25 #[.int .i64 k,.int .i64 n,.string s,.slice A len cap]);have HC0:=kf ((Chg.refl NoS w).alloc (.cells #[.int .i64 k,.int .i64 n,.string s,.slice A len cap] 25));obtain⟨W0,hW⟩:∃ W0,W0=w.alloc (.cells #[.int .i64 k,.int .i64 n,.string s,.slice A len cap] 25):=⟨_,rfl⟩
 obtain⟨g,hgg⟩:∃ g,g=w.heap.size:=⟨_,rfl⟩
 rw [<- hW] at HB HC0;rw [<- hgg] at HB;have p0:=HB.out.cell 0;have p1:=HB.out.cell 1;have p2:=HB.out.cell 2;have p3:=HB.out.cell 3;simp at p0 p1 p2 p3;have hd9:d<=1000000000:=by omega
 clear hv hd hd2 hz hs;by_cases h64:64<d
 ·have d1:decide ((64:Int)<d)=true:=by simp;omega
  have d1':decide (64<d)=true:=by simp;omega
  have HE:Hid (z0h t=15):=by show _=_;rw [HZ.out,if_pos h64]
  clear h64;go_enter Tryz.func36,Tryz.ntmps36;go_upto_region 1 with fail;rw [<- hgg,<- hW];clear hgg hW;go_wp2_with (go_at_call 70;refine(HD.out _ (HV.out.chg HC0.out)).mono ?_;rintro e w2 ⟨rfl,hc2⟩;have HC2:=kf (HC0.out.trans hc2 (fun _ _ e=>e));clear hc2);go_ret;exact⟨z00 HE.out.symm,HC2.out⟩
 ·have d1:decide ((64:Int)<d)=false:=by simp;omega
  have d1':decide (64<d)=false:=by simp;omega
  have HE:Hid (z0h t=z):=by show _=_;rw [HZ.out,if_neg h64]
  clear h64;go_enter Tryz.func36,Tryz.ntmps36;go_upto_region 1 with fail;rw [<- hgg,<- hW];clear hgg hW;go_upto_region 3 with(go_at_call 70;refine(HD.out _ (HV.out.chg HC0.out)).mono ?_;rintro e w2 ⟨rfl,hc2⟩;have HC2:=kf (HC0.out.trans hc2 (fun _ _ e=>e));have HB2:=kf (HB.out.chg hc2 (fun e=>e));clear hc2);clear p0 p1 p2 p3;have p0:=HB2.out.cell 0;have p1:=HB2.out.cell 1;have p2:=HB2.out.cell 2;have p3:=HB2.out.cell 3;simp at p0 p1 p2 p3;go_wp2_with (go_at_call 71;refine(HF.out _ (HV.out.chg HC2.out)).mono ?_;rintro e w3 ⟨rfl,hc3⟩;have HC3:=kf (HC2.out.trans hc3 (fun _ _ e=>e));clear hc3);go_ret;exact⟨z00 HE.out.symm,HC3.out⟩
def z28:VT:=.mk 0 0 ⟨#[]⟩ []
theorem z3r (w:World):ValIs w z28 ⟨0,0,⟨#[]⟩,none,0,0⟩:=.mk ⟨0,0,⟨#[]⟩,none,0,0⟩ [] ⟨by decide,by decide,by decide,fun _=>⟨rfl,rfl⟩,Nat.le_refl _,Nat.zero_le _⟩ rfl (.nil _ _)
def z03 (es:List VC):List Value:=es.flatMap VC.cells
theorem z50 (a b:List VC):z03 (a++b)=z03 a++z03 b:=by simp [z03]
theorem y43 (e:VC):z03 [e]=e.cells:=by simp [z03]
theorem z3e (es:List VC):(z03 es).length=es.length*4:=by
 induction es with
 |nil=>rfl
 |cons e es ih =>
  rw [show z03 (e::es)=e.cells++z03 es from rfl,List.length_append,ih,List.length_cons,show e.cells.length=4 from rfl];omega
theorem z6b (es:List VC):∀ u∈z03 es,u.oneCell'=true:=by
 intro u hu;obtain⟨e,_,h⟩:=List.mem_flatMap.1 hu;unfold VC.cells at h;simp only [List.mem_cons,List.not_mem_nil,or_false] at h;rcases h with rfl|rfl|rfl|rfl<;>rfl
theorem z2z:∀ {es:List VC} {j i:Nat} {e:VC},es[j]?=some e->i<4->(z03 es)[j*4+i]?=e.cells[i]?:=by
 intro es;induction es with
 |nil=>intro j i e h;simp at h
 |cons x es ih =>
  intro j i e h hi;rw [show z03 (x::es)=x.cells++z03 es from rfl];cases j with
  |zero =>
   simp at h;subst h;rw [Nat.zero_mul,Nat.zero_add,List.getElem?_append_left (by exact hi)]
  |succ j =>
   have h4:x.cells.length=4:=rfl;rw [List.getElem?_append_right (by rw [h4];omega),h4,show(j+1)*4+i-4=j*4+i from by omega];exact ih (by simpa using h) hi
structure GV (w wr:World) (es:List VC) (ts:List VT) (n:Nat) (A:Option Addr) (c:Nat):Prop where
 own:wr.ownsRow 0 25 4 (.slice A n c) n (z03 es)
 chg:Chg NoS w wr
 new:∀ a,A=some a->w.heap.size<=a.block
 len:es.length=n
 tlen:ts.length=n
 is:∀ (j:Nat) (t:VT) (e:VC),ts[j]?=some t->es[j]?=some e->ValIs w t e
theorem GV.start {w wr:World} (h:Chg NoS w wr):GV w wr [] [] 0 none 0:=⟨z2p wr 0 _ 4,h,fun _ h=>(by cases h),rfl,rfl,fun j t e h=>(by simp at h)⟩
theorem GV.far {w wr:World} {es:List VC} {ts:List VT} {n c g:Nat} {A:Option Addr} (h:GV w wr es ts n A c) (hne:(Value.slice A n c).ownBlock≠some g) (hg:w.heap.size<=g) (i:Nat) (u:Value):GV w (wr.setCell ⟨g,i,none⟩ u) es ts n A c :=
 ⟨z0i (S:=fun x=>x=g) h.own (Chg.setCell (S:=fun x=>x=g) (Chg.refl (fun x=>x=g) wr) (p:=⟨g,i,none⟩) (fun _=>rfl) u) (fun g' hg' e=>hne (by rw [hg',e])),h.chg.setCell (p:=⟨g,i,none⟩) (fun h2=>absurd h2 (Nat.not_lt.2 hg)) u,h.new,h.len,h.tlen,h.is⟩
theorem GV.row {w wr:World} {es:List VC} {ts:List VT} {n c:Nat} {A:Option Addr} (h:GV w wr es ts n A c):RowIs wr A 0 ts:=by
 have hsrc:=z55 h.own;rcases A with _|ad
 ·have h0:=(hsrc.2.1 rfl).1;have h1:=h.tlen;rw [h0] at h1;rw [List.eq_nil_of_length_eq_zero h1];exact .nil _ _
 ·have key:∀ (m j:Nat),j+m=n->RowIs wr (some ad) j (ts.drop j):=by
   intro m;induction m with
   |zero =>
    intro j hj;rw [List.drop_of_length_le (by rw [h.tlen];omega)];exact .nil _ _
   |succ m ih =>
    intro j hj;have hjt:j<ts.length:=by rw [h.tlen];omega
    have hje:j<es.length:=by rw [h.len];omega
    rw [List.drop_eq_getElem_cons hjt];refine .cons ad j _ _ es[j] (fun i hi=>?_) ((h.is j _ _ (List.getElem?_eq_getElem hjt) (List.getElem?_eq_getElem hje)).chg h.chg) (ih (j+1) (by omega));have h1:=z2z (List.getElem?_eq_getElem hje) hi;rw [List.getElem?_eq_getElem (show i<es[j].cells.length from hi)] at h1 ⊢;exact hsrc.2.2 ad rfl _ _ h1
  have:=key n 0 (by omega);rwa [List.drop_zero] at this
theorem GV.good {w wr:World} {es:List VC} {ts:List VT} {n c:Nat} {A:Option Addr} (h:GV w wr es ts n A c) (hn:n<=maxLen):(A=none->n=0/\c=0)/\n<=c:=by
 rcases h.own.2 with⟨h1,h0⟩|⟨g',cap,cur,h1,hb,hh,h2,h3,_⟩
 ·simp only [Value.slice.injEq] at h1;obtain⟨rfl,_,rfl⟩:=h1;exact⟨fun _=>⟨h0,rfl⟩,by omega⟩
 ·simp only [Value.slice.injEq] at h1;obtain⟨rfl,_,rfl⟩:=h1;exact⟨fun e=>(by cases e),h2⟩
theorem GV.val {w wr:World} {es:List VC} {ts:List VT} {n c:Nat} {A:Option Addr} (h:GV w wr es ts n A c) (hn:n<=maxLen) (k v:Int) (s:ByteArray) (hk:-9223372036854775808<=k/\k<=9223372036854775807) (hv:-9223372036854775808<=v/\v<=9223372036854775807) (hs:s.size<=maxLen) :
  ValIs wr (.mk k v s ts) ⟨k,v,s,A,n,c⟩ :=
 .mk ⟨k,v,s,A,n,c⟩ ts ⟨hk,hv,hs,(h.good hn).1,(h.good hn).2,hn⟩ h.tlen h.row
theorem y7u:(Tryz.prog.info? 25).map (fun i=>(i.zero,i.size,i.bytes))=some (some (.agg #[.int .i64 0,.int .i64 0,.string ⟨#[]⟩,.slice none 0 0]),4,56):=by kernel_rfl
theorem z2r {o:Option TypeInfo} {z:Value} {a b:Nat} (h:o.map (fun i=>(i.zero,i.size,i.bytes))=some (some z,a,b)):∃ i,o=some i/\i.zero=some z/\i.size=a/\i.bytes=b:=by
 rcases o with _|i
 ·cases h
 ·simp at h;exact⟨i,rfl,h.1,h.2.1,h.2.2⟩
theorem PB.kept {w W w':World} {g:Nat} {cs:Array Value} {A A3:Option Addr} {n c n3 c3:Nat} (h:PB w W g cs) (k:∀ (g:Nat) (T:TypeId) (cs:Array Value),Blk W g T cs->(Value.slice A n c).ownBlock≠some g->Blk w' g T cs/\(Value.slice A3 n3 c3).ownBlock≠some g) (hne:(Value.slice A n c).ownBlock≠some g):PB w w' g cs/\(Value.slice A3 n3 c3).ownBlock≠some g :=
 ⟨⟨(k g _ cs h.blk hne).1,h.new⟩,(k g _ cs h.blk hne).2⟩
def v8e (w:World) (t:VT) (e:Ending) (w':World):Prop:=∃ c':VC,e=.returned c'.val/\ValIs w' t c'/\Chg NoS w w'
def nmT (key:ByteArray):VT:=.mk 5 0 key []
theorem y7m {a b c:ByteArray} (h:Op.bytesLess a.toList b.toList=true) (k:Op.bytesLess b.toList c.toList=true):Op.bytesLess a.toList c.toList=true:=by
 rw [Go.Proofs.bytesLess_eq,decide_eq_true_iff] at h k ⊢;exact List.lt_trans h k
theorem y0a (a:ByteArray):Op.bytesLess a.toList a.toList=false:=z7i _
theorem z65 {a b:ByteArray} (h:Op.bytesLess a.toList b.toList≠true) (h2:a≠b):Op.bytesLess b.toList a.toList=true:=by
 rw [Ne,Go.Proofs.bytesLess_eq,decide_eq_true_iff] at h;rw [Go.Proofs.bytesLess_eq,decide_eq_true_iff];rcases Classical.em (b.toList<a.toList) with h3|h3
 ·exact h3
 ·exact absurd (z54 (List.le_antisymm (List.not_lt.1 h3) (List.not_lt.1 h))) h2
theorem firstL_zero {l:List VT}:z1m l=0↔∀ t∈l,z0s t=0:=by
 induction l with
 |nil=>exact⟨fun _ t h=>(by cases h),fun _=>by rw [z1m]⟩
 |cons t l ih =>
  rw [z2u];by_cases h:z0s t=0
  ·rw [if_neg (fun e=>e h),ih];exact⟨fun k u hu=>by rcases List.mem_cons.1 hu with rfl|hu;exact h;exact k u hu,fun k u hu=>k u (List.mem_cons_of_mem _ hu)⟩
  ·rw [if_pos h];exact⟨fun e=>absurd e h,fun k=>absurd (k t (List.mem_cons_self ..)) h⟩
end Go.Proofs.YtnhlalkeaaiefaaGreatDoor
