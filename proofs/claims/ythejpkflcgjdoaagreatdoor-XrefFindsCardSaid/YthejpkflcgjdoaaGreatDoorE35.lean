/- Merged by program. -/
import Derived.Test.YthejpkflcgjdoaaGreatDoorE30
import Derived.Test.YthejpkflcgjdoaaGreatDoorE34
set_option linter.unusedVariables false
set_option linter.unusedSimpArgs false
namespace Go.Proofs.YthejpkflcgjdoaaGreatDoor
open Go.RowKit
def mayX (e:XEn):Bool:=decide (0<=e.pl)&&(decide (e.pl<=2147483647)&&(decide (0<=e.gen)&&decide (e.gen<=65535)))
def kindX (b:Bool):Nat:=if b then 110 else 102
def lineT (e:XEn):List Nat:=txt e.pl.toNat 10++[32]++txt e.gen.toNat 5++[32]++[kindX e.us]++[32,10]
theorem mayX_ok {e:XEn} (h:mayX e=true):0<=e.pl/\e.pl<=2147483647/\0<=e.gen/\e.gen<=65535:=by
 unfold mayX at h
 simp only [Bool.and_eq_true,decide_eq_true_eq] at h
 omega
set_option maxHeartbeats 2000000 in
theorem xmay_any (e:XEn) (w:World):Calls Tryz.prog 29 #[.agg e.cells.toArray] w fun r w'=>r=.returned (.bool (mayX e))/\Chg NoS w w':=by
 obtain⟨p,g,u⟩:=e
 have HX:∀ y,mayX ⟨p,g,u⟩=y->Hid (mayX ⟨p,g,u⟩=y):=fun _ h=>h
 show Calls _ _ #[.agg #[.int .i64 p,.int .i64 g,.bool u]] _ _
 by_cases h0:0<=p
 rotate_left
 ·have d0:decide (0<=p)=false:=by simpa using h0
  have HY:=HX false (by unfold mayX;simp [h0])
  rw [HY.out]
  clear HX HY h0
  go_enter Tryz.func29,Tryz.ntmps29
  go_wp2_with fail
  go_ret
  exact⟨rfl,(Chg.refl NoS w).alloc _⟩
 by_cases h1:p<=2147483647
 rotate_left
 ·have d1:decide (p<=2147483647)=false:=by simpa using h1
  have HY:=HX false (by unfold mayX;simp [h0,h1])
  rw [HY.out]
  clear HX HY h1
  go_enter Tryz.func29,Tryz.ntmps29
  go_wp2_with fail
  go_ret
  exact⟨rfl,(Chg.refl NoS w).alloc _⟩
 by_cases h2:0<=g
 rotate_left
 ·have d2:decide (0<=g)=false:=by simpa using h2
  have HY:=HX false (by unfold mayX;simp [h0,h1,h2])
  rw [HY.out]
  clear HX HY h2
  go_enter Tryz.func29,Tryz.ntmps29
  go_wp2_with fail
  go_ret
  exact⟨rfl,(Chg.refl NoS w).alloc _⟩
 by_cases h3:g<=65535
 rotate_left
 ·have d3:decide (g<=65535)=false:=by simpa using h3
  have HY:=HX false (by unfold mayX;simp [h0,h1,h2,h3])
  rw [HY.out]
  clear HX HY h3
  go_enter Tryz.func29,Tryz.ntmps29
  go_wp2_with fail
  go_ret
  exact⟨rfl,(Chg.refl NoS w).alloc _⟩
 have HY:=HX true (by unfold mayX;simp [h0,h1,h2,h3])
 rw [HY.out]
 clear HX HY
 go_enter Tryz.func29,Tryz.ntmps29
 go_wp2_with fail
 go_ret
 exact⟨rfl,(Chg.refl NoS w).alloc _⟩
theorem pad_len {n k:Nat} (hk:(dn n).length<=k):(txt n k).length=k:=by
 unfold txt
 rw [List.length_append,List.length_replicate]
 omega
theorem pad_is {n:Int} {k:Nat} (h0:0<=n) (hk:(dn n.toNat).length<=k) (h1:1<=k) (h2:k<=20):padOf n (k:Nat)=(txt n.toNat k,0):=by
 unfold padOf
 rw [if_neg]
 ·rw [Int.toNat_natCast]
 ·rw [Int.toNat_natCast,pad_len hk]
  omega
theorem sb_two (a b:List Nat):sb a++sb b=sb (a++b):=by rw [sb_app]
set_option maxHeartbeats 4000000 in
set_option maxRecDepth 100000 in
theorem xentry_any (e:XEn) (w:World) (hL:LibOk w) (hp:-9223372036854775808<=e.pl/\e.pl<=9223372036854775807) (hg:-9223372036854775808<=e.gen/\e.gen<=9223372036854775807) :
  Calls Tryz.prog 12 #[.agg e.cells.toArray] w fun r w'=>r=.returned (.tuple #[.string (if mayX e then sb (lineT e) else⟨#[]⟩),.int .i64 (if mayX e then 0 else 2)])/\Chg NoS w w':=by
 have HM:=kf (fun W=>xmay_any e W)
 have HOK:=kf (fun h=>mayX_ok (e:=e) h)
 obtain⟨m,hm⟩:∃ m,m=mayX e:=⟨_,rfl⟩
 rw [<- hm] at HM HOK ⊢
 have HLN:=kf (show lineT e=txt e.pl.toNat 10++[32]++txt e.gen.toNat 5++[32]++[kindX e.us]++[32,10] from rfl)
 obtain⟨L,hLn⟩:∃ L,L=lineT e:=⟨_,rfl⟩
 rw [<- hLn] at HLN ⊢
 have HPA:=kf (fun W (hW:Chg NoS w W)=>pad_any e.pl 10 W hp (by decide) (hL.chg hW))
 have HPB:=kf (fun W (hW:Chg NoS w W)=>pad_any e.gen 5 W hg (by decide) (hL.chg hW))
 obtain⟨p,g,u⟩:=e
 simp only [] at HPA HPB HOK HLN hp hg
 unfold XEn.cells at HM ⊢
 simp only [] at HM ⊢
 have HB:=kf (Blk.new w 29 #[.int .i64 p,.int .i64 g,.bool u])
 have HC:=kf ((Chg.refl NoS w).alloc (.cells #[.int .i64 p,.int .i64 g,.bool u] 29))
 clear hL hm hLn
 go_enter Tryz.func12,Tryz.ntmps12
 go_upto_region 1 with fail
 obtain⟨W1,hW1⟩:∃ W1,W1=w.alloc (.cells #[.int .i64 p,.int .i64 g,.bool u] 29):=⟨_,rfl⟩
 obtain⟨g1,hg1⟩:∃ g1,g1=w.heap.size:=⟨_,rfl⟩
 rw [<- hW1] at HB HC ⊢
 rw [<- hg1] at HB ⊢
 clear hW1 hg1
 obtain⟨p0,p1,p2,-⟩:=HB.out.cl3
 go_upto_region 1 with fail
 cases m with
 |false =>
  go_wp2_with (go_at_call 29;refine(HM.out _).mono ?_;rintro e w2 ⟨rfl,hc2⟩;have HC2:=kf (HC.out.trans hc2 (fun _ _ e=>e));clear hc2)
  go_ret2
  exact⟨rfl,HC2.out⟩
 |true =>
  have HK:=kf (HOK.out rfl)
  have hp1:=pad_is (n:=p) (k:=10) HK.out.1 (dn_len (by have:=HK.out;omega)) (by decide) (by decide)
  have hp2:=pad_is (n:=g) (k:=5) HK.out.2.2.1 (dn_len (by have:=HK.out;omega)) (by decide) (by decide)
  rw [show((10:Nat):Int)=10 from rfl] at hp1
  rw [show((5:Nat):Int)=5 from rfl] at hp2
  rw [hp1] at HPA
  rw [hp2] at HPB
  simp only [] at HPA HPB
  obtain⟨S1,hS1⟩:∃ S,S=sb (txt p.toNat 10):=⟨_,rfl⟩
  obtain⟨S2,hS2⟩:∃ S,S=sb (txt g.toNat 5):=⟨_,rfl⟩
  obtain⟨S3,hS3⟩:∃ S,S=sb [kindX u]:=⟨_,rfl⟩
  rw [<- hS1] at HPA
  rw [<- hS2] at HPB
  have z1:S1.size=10:=by rw [hS1,sb_size,pad_len (dn_len (by have:=HK.out;omega))]
  have z2:S2.size=5:=by rw [hS2,sb_size,pad_len (dn_len (by have:=HK.out;omega))]
  have HE:=kf (show S1++⟨#[32]⟩++S2++⟨#[32]⟩++S3++⟨#[32,10]⟩=sb L from by
   rw [hS1,hS2,hS3,HLN.out,show(⟨#[32]⟩:ByteArray)=sb [32] from rfl,show(⟨#[32,10]⟩:ByteArray)=sb [32,10] from rfl]
   simp only [sb_two])
  have z3:S3.size=1:=by rw [hS3,sb_size];rfl
  have HS3:=kf hS3
  clear hS1 hS2 hS3 hp1 hp2
  go_upto_region 5 with(first
   |(go_at_call 29;refine(HM.out _).mono ?_;rintro e w2 ⟨rfl,hc2⟩;have HC2:=kf (HC.out.trans hc2 (fun _ _ e=>e));obtain⟨p0,p1,p2,-⟩:=(HB.out.chg hc2 (fun e=>e)).cl3;have HB2:=kf (HB.out.chg hc2 (fun e=>e));clear hc2)
   |(have hgo:=HC3.out;clear hgo;go_at_call 30;refine(HPB.out _ HC3.out).mono ?_;rintro e w4 ⟨rfl,hc4⟩;have HC4:=kf (HC3.out.trans hc4 (fun _ _ e=>e));obtain⟨r0,r1,r2,-⟩:=(HB3.out.chg hc4 (fun e=>e)).cl3;have HB4:=kf (HB3.out.chg hc4 (fun e=>e));clear hc4)
   |(go_at_call 30;refine(HPA.out _ HC2.out).mono ?_;rintro e w3 ⟨rfl,hc3⟩;have HC3:=kf (HC2.out.trans hc3 (fun _ _ e=>e));obtain⟨q0,q1,q2,-⟩:=(HB2.out.chg hc3 (fun e=>e)).cl3;have HB3:=kf (HB2.out.chg hc3 (fun e=>e));clear hc3))
  cases u with
  |true =>
   have hs3:S3=⟨#[110]⟩:=HS3.out
   subst hs3
   go_wp2_with fail
   go_ret2
   exact⟨by rw [<- HE.out];rfl,HC4.out⟩
  |false =>
   have hs3:S3=⟨#[102]⟩:=HS3.out
   subst hs3
   go_wp2_with fail
   go_ret2
   exact⟨by rw [<- HE.out];rfl,HC4.out⟩
mutual
def fwT:VT->Nat
 |.mk _ _ s l=>500+4*s.size+fwL l
def fwL:List VT->Nat
 |[]=>0
 |t::l=>fwT t+1+fwL l
end
theorem fwL_snoc (l:List VT) (t:VT):fwL (l++[t])=fwL l+fwT t+1:=by
 induction l with
 |nil=>show fwT t+1+0=0+fwT t+1;omega
 |cons x l ih=>rw [List.cons_append];show fwT x+1+fwL (l++[t])=fwT x+1+fwL l+fwT t+1;omega
theorem fwL_take:∀ (l:List VT) (k:Nat),fwL (l.take k)<=fwL l:=by
 intro l
 induction l with
 |nil=>intro k;rw [List.take_nil];exact Nat.le_refl _
 |cons x l ih =>
  intro k
  cases k with
  |zero=>exact Nat.zero_le _
  |succ k=>rw [List.take_succ_cons];show fwT x+1+fwL (l.take k)<=fwT x+1+fwL l;have:=ih k;omega
theorem fwL_at {l:List VT} {k:Nat} {t:VT} (h:l[k]?=some t):fwL (l.take (k+1))=fwL (l.take k)+fwT t+1:=by
 have hk:=(List.getElem?_eq_some_iff.1 h).1
 rw [List.getElem?_eq_getElem hk] at h
 cases h
 rw [List.take_succ_eq_append_getElem hk,fwL_snoc]
def FwTo (t:VT) (w:World) (e:Ending) (w':World):Prop:=∃ S:ByteArray,e=.returned (.string S)/\S.size<=fwT t/\Chg NoS w w'
def WF (t:VT):Prop:=∀ (c:VC) (w:World),ValIs w t c->fwT t<=1000000000000000000->Calls Tryz.prog 24 #[c.val] w (FwTo t w)
theorem pr_len (k n:Int) (sz len:Nat):(prOf k n sz len).1.length<=100:=by
 unfold prOf
 split
 ·next hc =>
  have hm:mayN k n:=by
   unfold chkOf at hc
   split at hc
   ·rename_i h
    exact h.2.2
   ·cases hc
  have hs:(signL n).length<=1:=by unfold signL;split<;>simp
  have htx:∀ a,a<10 ^ 20->(txt a 1).length<=21:=fun a ha=>by
   unfold txt
   have:=dn_len ha
   rw [List.length_append,List.length_replicate]
   omega
  show(if k=2 then intTxt n else realTxt n).length<=100
  have hn:n.natAbs<10 ^ 20:=by rcases hm with h|h<;>omega
  split
  ·unfold intTxt
   rw [List.length_append]
   have:=htx _ hn
   omega
  ·unfold realTxt
   have h1:=htx (n.natAbs / 1000000) (by omega)
   have h2:=trimZ_len 5 (txt (n.natAbs%1000000) 6)
   have h3:(txt (n.natAbs%1000000) 6).length<=12:=by
    unfold txt
    have:=dn_len (n:=n.natAbs%1000000) (k:=6) (by omega)
    rw [List.length_append,List.length_replicate]
    omega
   rw [List.length_append,List.length_append,List.length_cons]
   omega
 ·exact Nat.zero_le _
theorem nm_len (s:ByteArray):(nameT s).1.length<=400:=by
 unfold nameT
 split
 ·next h =>
  have h2:=nmL_len
  have h3:=h2 (sl s)
  have h4:=h.2
  rw [sl_len] at h3
  show(nmF (sl s)).length<=400
  unfold nmF
  rw [List.length_cons]
  omega
 ·exact Nat.zero_le _
theorem tx_len (s:ByteArray):(txF (sl s)).length<=2*s.size+2:=by
 unfold txF
 split
 ·have:=esL_len (sl s);rw [sl_len] at this;rw [List.length_cons,List.length_append];simp;omega
 ·have:=hxL_len (sl s);rw [sl_len] at this;rw [List.length_cons,List.length_append];simp;omega
set_option maxHeartbeats 4000000 in
set_option maxRecDepth 100000 in
theorem wform_null (n:Int) (s:ByteArray) (A:Option Addr) (len cap:Nat) (w:World) :
  Calls Tryz.prog 24 #[.agg #[.int .i64 0,.int .i64 n,.string s,.slice A len cap]] w fun e w'=>∃ S:ByteArray,e=.returned (.string S)/\S.size<=500/\Chg NoS w w':=by
 have HB:=kf (Blk.new w 25 #[.int .i64 0,.int .i64 n,.string s,.slice A len cap])
 have HC0:=kf ((Chg.refl NoS w).alloc (.cells #[.int .i64 0,.int .i64 n,.string s,.slice A len cap] 25))
 obtain⟨W1,hW1⟩:∃ W1,W1=w.alloc (.cells #[.int .i64 0,.int .i64 n,.string s,.slice A len cap] 25):=⟨_,rfl⟩
 obtain⟨g,hg⟩:∃ g,g=w.heap.size:=⟨_,rfl⟩
 rw [<- hW1] at HB HC0
 rw [<- hg] at HB
 go_enter Tryz.func24,Tryz.ntmps24
 go_upto_region 1 with fail
 rw [<- hg,<- hW1]
 clear hg hW1
 have q0:=HB.out.cell 0
 have q1:=HB.out.cell 1
 have q2:=HB.out.cell 2
 have q3:=HB.out.cell 3
 simp at q0 q1 q2 q3
 go_wp2_with fail
 go_ret
 exact⟨_,rfl,by decide,HC0.out⟩
set_option maxHeartbeats 4000000 in
set_option maxRecDepth 100000 in
theorem wform_bool (n:Int) (s:ByteArray) (A:Option Addr) (len cap:Nat) (w:World) :
  Calls Tryz.prog 24 #[.agg #[.int .i64 1,.int .i64 n,.string s,.slice A len cap]] w fun e w'=>∃ S:ByteArray,e=.returned (.string S)/\S.size<=500/\Chg NoS w w':=by
 have HB:=kf (Blk.new w 25 #[.int .i64 1,.int .i64 n,.string s,.slice A len cap])
 have HC0:=kf ((Chg.refl NoS w).alloc (.cells #[.int .i64 1,.int .i64 n,.string s,.slice A len cap] 25))
 obtain⟨W1,hW1⟩:∃ W1,W1=w.alloc (.cells #[.int .i64 1,.int .i64 n,.string s,.slice A len cap] 25):=⟨_,rfl⟩
 obtain⟨g,hg⟩:∃ g,g=w.heap.size:=⟨_,rfl⟩
 rw [<- hW1] at HB HC0
 rw [<- hg] at HB
 by_cases h1:n=1
 ·subst h1
  go_enter Tryz.func24,Tryz.ntmps24
  go_upto_region 1 with fail
  rw [<- hg,<- hW1]
  clear hg hW1
  have q0:=HB.out.cell 0
  have q1:=HB.out.cell 1
  have q2:=HB.out.cell 2
  have q3:=HB.out.cell 3
  simp at q0 q1 q2 q3
  go_wp2_with fail
  go_ret
  exact⟨_,rfl,by decide,HC0.out⟩
 ·have e1:(n==1)=false:=by simpa using h1
  clear h1
  go_enter Tryz.func24,Tryz.ntmps24
  go_upto_region 1 with fail
  rw [<- hg,<- hW1]
  clear hg hW1
  have q0:=HB.out.cell 0
  have q1:=HB.out.cell 1
  have q2:=HB.out.cell 2
  have q3:=HB.out.cell 3
  simp at q0 q1 q2 q3
  go_wp2_with fail
  go_ret
  exact⟨_,rfl,by decide,HC0.out⟩
set_option maxHeartbeats 4000000 in
set_option maxRecDepth 100000 in
theorem wform_int (n:Int) (s:ByteArray) (A:Option Addr) (len cap:Nat) (w:World) :
  Calls Tryz.prog 24 #[.agg #[.int .i64 2,.int .i64 n,.string s,.slice A len cap]] w fun e w'=>∃ S:ByteArray,e=.returned (.string S)/\S.size<=500/\Chg NoS w w':=by
 have HN:=kf (fun W=>rprint_any 2 n s A len cap W)
 unfold PrTo at HN
 have hpl:=pr_len 2 n s.size len
 obtain⟨P,hP⟩:∃ P,P=prOf 2 n s.size len:=⟨_,rfl⟩
 rw [<- hP] at HN hpl
 obtain⟨PL,PE⟩:=P
 simp only [] at HN hpl
 obtain⟨S,hS⟩:∃ S,S=sb PL:=⟨_,rfl⟩
 have HSZ:Hid (S.size<=500):=by show _<=_;rw [hS,sb_size];omega
 rw [<- hS] at HN
 clear hS hP hpl
 have HB:=kf (Blk.new w 25 #[.int .i64 2,.int .i64 n,.string s,.slice A len cap])
 have HC0:=kf ((Chg.refl NoS w).alloc (.cells #[.int .i64 2,.int .i64 n,.string s,.slice A len cap] 25))
 obtain⟨W1,hW1⟩:∃ W1,W1=w.alloc (.cells #[.int .i64 2,.int .i64 n,.string s,.slice A len cap] 25):=⟨_,rfl⟩
 obtain⟨g,hg⟩:∃ g,g=w.heap.size:=⟨_,rfl⟩
 rw [<- hW1] at HB HC0
 rw [<- hg] at HB
 go_enter Tryz.func24,Tryz.ntmps24
 go_upto_region 1 with fail
 rw [<- hg,<- hW1]
 clear hg hW1
 have q0:=HB.out.cell 0
 have q1:=HB.out.cell 1
 have q2:=HB.out.cell 2
 have q3:=HB.out.cell 3
 simp at q0 q1 q2 q3
 go_wp2_with (go_at_call 48;refine(HN.out _).mono ?_;rintro e w3 ⟨rfl,h3⟩;have HC3:=kf (HC0.out.trans h3 (fun _ _ e=>e));clear h3)
 go_ret
 exact⟨S,rfl,HSZ.out,HC3.out⟩
set_option maxHeartbeats 4000000 in
set_option maxRecDepth 100000 in
theorem wform_real (n:Int) (s:ByteArray) (A:Option Addr) (len cap:Nat) (w:World) :
  Calls Tryz.prog 24 #[.agg #[.int .i64 3,.int .i64 n,.string s,.slice A len cap]] w fun e w'=>∃ S:ByteArray,e=.returned (.string S)/\S.size<=500/\Chg NoS w w':=by
 have HN:=kf (fun W=>rprint_any 3 n s A len cap W)
 unfold PrTo at HN
 have hpl:=pr_len 3 n s.size len
 obtain⟨P,hP⟩:∃ P,P=prOf 3 n s.size len:=⟨_,rfl⟩
 rw [<- hP] at HN hpl
 obtain⟨PL,PE⟩:=P
 simp only [] at HN hpl
 obtain⟨S,hS⟩:∃ S,S=sb PL:=⟨_,rfl⟩
 have HSZ:Hid (S.size<=500):=by show _<=_;rw [hS,sb_size];omega
 rw [<- hS] at HN
 clear hS hP hpl
 have HB:=kf (Blk.new w 25 #[.int .i64 3,.int .i64 n,.string s,.slice A len cap])
 have HC0:=kf ((Chg.refl NoS w).alloc (.cells #[.int .i64 3,.int .i64 n,.string s,.slice A len cap] 25))
 obtain⟨W1,hW1⟩:∃ W1,W1=w.alloc (.cells #[.int .i64 3,.int .i64 n,.string s,.slice A len cap] 25):=⟨_,rfl⟩
 obtain⟨g,hg⟩:∃ g,g=w.heap.size:=⟨_,rfl⟩
 rw [<- hW1] at HB HC0
 rw [<- hg] at HB
 go_enter Tryz.func24,Tryz.ntmps24
 go_upto_region 1 with fail
 rw [<- hg,<- hW1]
 clear hg hW1
 have q0:=HB.out.cell 0
 have q1:=HB.out.cell 1
 have q2:=HB.out.cell 2
 have q3:=HB.out.cell 3
 simp at q0 q1 q2 q3
 go_wp2_with (go_at_call 48;refine(HN.out _).mono ?_;rintro e w3 ⟨rfl,h3⟩;have HC3:=kf (HC0.out.trans h3 (fun _ _ e=>e));clear h3)
 go_ret
 exact⟨S,rfl,HSZ.out,HC3.out⟩
set_option maxHeartbeats 4000000 in
set_option maxRecDepth 100000 in
theorem wform_text (n:Int) (s:ByteArray) (A:Option Addr) (len cap:Nat) (hs:s.size<=300000000000000000) (w:World) :
  Calls Tryz.prog 24 #[.agg #[.int .i64 4,.int .i64 n,.string s,.slice A len cap]] w fun e w'=>∃ S:ByteArray,e=.returned (.string S)/\S.size<=500+4*s.size/\Chg NoS w w':=by
 have HN:=kf (fun W=>r13text_any s W (by omega))
 have htl:=tx_len s
 obtain⟨S,hS⟩:∃ S,S=sb (txF (sl s)):=⟨_,rfl⟩
 have HSZ:Hid (S.size<=500+4*s.size):=by show _<=_;rw [hS,sb_size];omega
 rw [<- hS] at HN
 clear hS htl
 have HB:=kf (Blk.new w 25 #[.int .i64 4,.int .i64 n,.string s,.slice A len cap])
 have HC0:=kf ((Chg.refl NoS w).alloc (.cells #[.int .i64 4,.int .i64 n,.string s,.slice A len cap] 25))
 obtain⟨W1,hW1⟩:∃ W1,W1=w.alloc (.cells #[.int .i64 4,.int .i64 n,.string s,.slice A len cap] 25):=⟨_,rfl⟩
 obtain⟨g,hg⟩:∃ g,g=w.heap.size:=⟨_,rfl⟩
 rw [<- hW1] at HB HC0
 rw [<- hg] at HB
 go_enter Tryz.func24,Tryz.ntmps24
 go_upto_region 1 with fail
 rw [<- hg,<- hW1]
 clear hg hW1
 have q0:=HB.out.cell 0
 have q1:=HB.out.cell 1
 have q2:=HB.out.cell 2
 have q3:=HB.out.cell 3
 simp at q0 q1 q2 q3
 go_wp2_with (go_at_call 49;refine(HN.out _).mono ?_;rintro e w3 ⟨rfl,h3⟩;have HC3:=kf (HC0.out.trans h3 (fun _ _ e=>e));clear h3)
 go_ret
 exact⟨S,rfl,HSZ.out,HC3.out⟩
set_option maxHeartbeats 4000000 in
set_option maxRecDepth 100000 in
theorem wform_name (n:Int) (s:ByteArray) (A:Option Addr) (len cap:Nat) (hs:s.size<=300000000000000000) (w:World) :
  Calls Tryz.prog 24 #[.agg #[.int .i64 5,.int .i64 n,.string s,.slice A len cap]] w fun e w'=>∃ S:ByteArray,e=.returned (.string S)/\S.size<=500+4*s.size/\Chg NoS w w':=by
 have HN:=kf (fun W=>r13name_any s W (by omega))
 have htl:=nm_len s
 obtain⟨P,hP⟩:∃ P,P=nameT s:=⟨_,rfl⟩
 rw [<- hP] at HN htl
 obtain⟨PL,PE⟩:=P
 simp only [] at HN htl
 obtain⟨S,hS⟩:∃ S,S=sb PL:=⟨_,rfl⟩
 have HSZ:Hid (S.size<=500+4*s.size):=by show _<=_;rw [hS,sb_size];omega
 rw [<- hS] at HN
 clear hS hP htl
 have HB:=kf (Blk.new w 25 #[.int .i64 5,.int .i64 n,.string s,.slice A len cap])
 have HC0:=kf ((Chg.refl NoS w).alloc (.cells #[.int .i64 5,.int .i64 n,.string s,.slice A len cap] 25))
 obtain⟨W1,hW1⟩:∃ W1,W1=w.alloc (.cells #[.int .i64 5,.int .i64 n,.string s,.slice A len cap] 25):=⟨_,rfl⟩
 obtain⟨g,hg⟩:∃ g,g=w.heap.size:=⟨_,rfl⟩
 rw [<- hW1] at HB HC0
 rw [<- hg] at HB
 go_enter Tryz.func24,Tryz.ntmps24
 go_upto_region 1 with fail
 rw [<- hg,<- hW1]
 clear hg hW1
 have q0:=HB.out.cell 0
 have q1:=HB.out.cell 1
 have q2:=HB.out.cell 2
 have q3:=HB.out.cell 3
 simp at q0 q1 q2 q3
 go_wp2_with (go_at_call 50;refine(HN.out _).mono ?_;rintro e w3 ⟨rfl,h3⟩;have HC3:=kf (HC0.out.trans h3 (fun _ _ e=>e));clear h3)
 go_ret
 exact⟨S,rfl,HSZ.out,HC3.out⟩
set_option maxHeartbeats 4000000 in
set_option maxRecDepth 100000 in
theorem wform_ref (n:Int) (s:ByteArray) (A:Option Addr) (len cap:Nat) (w:World) :
  Calls Tryz.prog 24 #[.agg #[.int .i64 8,.int .i64 n,.string s,.slice A len cap]] w fun e w'=>∃ S:ByteArray,e=.returned (.string S)/\S.size<=500/\Chg NoS w w':=by
 have HN:=kf (fun W=>rprint_any 2 n ⟨#[]⟩ none 0 0 W)
 unfold PrTo at HN
 rw [show(⟨#[]⟩:ByteArray).size=0 from rfl] at HN
 have hpl:=pr_len 2 n 0 0
 obtain⟨P,hP⟩:∃ P,P=prOf 2 n 0 0:=⟨_,rfl⟩
 rw [<- hP] at HN hpl
 obtain⟨PL,PE⟩:=P
 simp only [] at HN hpl
 obtain⟨S,hS⟩:∃ S,S=sb PL:=⟨_,rfl⟩
 have HSZ:Hid (S.size<=400):=by show _<=_;rw [hS,sb_size];omega
 rw [<- hS] at HN
 clear hS hP hpl
 obtain⟨p,hp⟩:∃ p,S.size=p:=⟨_,rfl⟩
 have j1:¬9223372036854775807<p+4:=by have:=HSZ.out;omega
 have HB:=kf (Blk.new w 25 #[.int .i64 8,.int .i64 n,.string s,.slice A len cap])
 have HC0:=kf ((Chg.refl NoS w).alloc (.cells #[.int .i64 8,.int .i64 n,.string s,.slice A len cap] 25))
 obtain⟨W1,hW1⟩:∃ W1,W1=w.alloc (.cells #[.int .i64 8,.int .i64 n,.string s,.slice A len cap] 25):=⟨_,rfl⟩
 obtain⟨g,hg⟩:∃ g,g=w.heap.size:=⟨_,rfl⟩
 rw [<- hW1] at HB HC0
 rw [<- hg] at HB
 go_enter Tryz.func24,Tryz.ntmps24
 go_upto_region 1 with fail
 rw [<- hg,<- hW1]
 clear hg hW1
 have q0:=HB.out.cell 0
 have q1:=HB.out.cell 1
 have q2:=HB.out.cell 2
 have q3:=HB.out.cell 3
 simp at q0 q1 q2 q3
 go_wp2_with (go_at_call 48;refine(HN.out _).mono ?_;rintro e w3 ⟨rfl,h3⟩;have HC3:=kf (HC0.out.trans h3 (fun _ _ e=>e));clear h3)
 go_ret
 exact⟨_,rfl,by rw [ByteArray.size_append];have:=HSZ.out;show S.size+4<=500;omega,HC3.out⟩
set_option maxHeartbeats 8000000 in
set_option maxRecDepth 100000 in
theorem wform_row (kk n:Int) (s:ByteArray) (A:Option Addr) (len cap:Nat) (l:List VT) (hP:∀ t∈l,WF t) (hll:l.length=len) (hm:len<=9223372036854775807) (hl:fwL l<=1000000000000000000) (w:World) (hr:RowIs w A 0 l) (hk:kk≠0/\kk≠1/\kk≠2/\kk≠3/\kk≠4/\kk≠5/\kk≠8) :
  Calls Tryz.prog 24 #[.agg #[.int .i64 kk,.int .i64 n,.string s,.slice A len cap]] w fun e w'=>∃ S:ByteArray,e=.returned (.string S)/\S.size<=10+fwL l/\Chg NoS w w':=by
 have HB:=kf (Blk.new w 25 #[.int .i64 kk,.int .i64 n,.string s,.slice A len cap])
 have HC0:=kf ((Chg.refl NoS w).alloc (.cells #[.int .i64 kk,.int .i64 n,.string s,.slice A len cap] 25))
 obtain⟨W1,hW1⟩:∃ W1,W1=w.alloc (.cells #[.int .i64 kk,.int .i64 n,.string s,.slice A len cap] 25):=⟨_,rfl⟩
 obtain⟨g,hg⟩:∃ g,g=w.heap.size:=⟨_,rfl⟩
 rw [<- hW1] at HB HC0
 rw [<- hg] at HB
 obtain⟨k0,k1,k2,k3,k4,k5,k8⟩:=hk
 have f0:(kk==0)=false:=by simpa using k0
 have f1:(kk==1)=false:=by simpa using k1
 have f2:(kk==2)=false:=by simpa using k2
 have f3:(kk==3)=false:=by simpa using k3
 have f4:(kk==4)=false:=by simpa using k4
 have f5:(kk==5)=false:=by simpa using k5
 have f8:(kk==8)=false:=by simpa using k8
 clear k0 k1 k2 k3 k4 k5 k8
 go_enter Tryz.func24,Tryz.ntmps24
 go_upto_region 1 with fail
 rw [<- hg,<- hW1]
 clear hg hW1
 have q0:=HB.out.cell 0
 have q1:=HB.out.cell 1
 have q2:=HB.out.cell 2
 have q3:=HB.out.cell 3
 simp at q0 q1 q2 q3
 have HP:=kf hP
 have HL:=kf hll
 have HR:=kf hr
 have HBL:=kf hl
 clear hP hll hr hl
 go_upto_region 22 with fail
 clear q0 q1 q2 q3
 go_loopw [9,10] (fun vs vk wr=>∃ (k m:Nat) (ts:ByteArray),k<=len/\m<=1000000000000000000/\ts.size=m/\vs=.string ts/\vk=.int .i64 (k:Nat)/\Hid (m<=fwL (l.take k))/\Hid (RowIs w A k (l.drop k))/\Hid (Chg NoS W1 wr)) (fun _ vk _=>len-(intOf vk).toNat)
 case atStart=>exact⟨0,0,_,by omega,by omega,rfl,rfl,by go_num,Nat.zero_le _,by rw [List.drop_zero];exact HR.out,Chg.refl NoS W1⟩
 case round =>
  obtain⟨k,m,ts,hk,hm3,hts,rfl,rfl,HML,HRW,HCW⟩:=hrel
  have hbw:=HB.out.chg HCW.out (fun h=>h)
  have q0:=hbw.cell 0
  have q3:=hbw.cell 3
  simp at q0 q3
  clear hbw
  by_cases hlt:k<len
  ·obtain⟨t',ht',hdd⟩:=drop_vt (l:=l) (k:=k) (by rw [HL.out];exact hlt)
   obtain⟨b,off,rfl⟩:∃ b off,A=some ⟨b,off,none⟩:=by
    have h:=HR.out
    cases hll:l with
    |nil=>rw [hll] at ht';simp at ht'
    |cons t0 l0=>rw [hll] at h;exact h.start
   have hrw:=HRW.out
   rw [hdd] at hrw
   have hcw:=HC0.out.trans HCW.out (fun _ _ e=>e)
   obtain⟨ek,en,es,eA,el,ec,c0,c1,c2,c3,hv',hr'⟩:=hrw.at0 hcw
   have HRN:=kf hr'
   have hfa:=fwL_at ht'
   have hft:=fwL_take l (k+1)
   have hbl:=HBL.out
   have HFA:=kf hfa
   have hml:=HML.out
   obtain⟨ft,hft2⟩:∃ ft,ft=fwT t':=⟨_,rfl⟩
   have HX:=kf (HP.out t' (List.mem_of_getElem? ht') ⟨ek,en,es,eA,el,ec⟩ wr (hv'.chg hcw) (by omega))
   unfold VC.val FwTo at HX
   simp only [] at HX
   rw [<- hft2] at HX hfa HFA
   have i1:(k:Int)<len:=by omega
   have j0:ft+m+1<=1000000000000000000:=by omega
   by_cases h0:k=0
   ·subst h0
    simp only [Nat.zero_mul,Nat.add_zero] at c0 c1 c2 c3
    clear hrw hv' hr' hdd ht' hcw hft2 hft hbl hml hfa
    go_upto_region 26 with fail
    go_wp2_with (go_at_call 24;refine HX.out.mono ?_;rintro e w3 ⟨S,rfl,hsz,h3⟩;have HC3:=kf (HCW.out.trans h3 (fun _ _ e=>e));obtain⟨p,hp⟩:(∃ p,S.size=p):=⟨_,rfl⟩;have hp9:p<=ft:=(by omega);have j1:¬9223372036854775807<m+p:=(by omega);clear h3 hsz)
    go_roundw
    case rel=>exact⟨1,m+p,_,by omega,by omega,by rw [ByteArray.size_append,hts,hp],rfl,by go_num,kf (by have:=HFA.out;have:=HML.out;rw [Nat.zero_add] at *;omega),HRN.out,HC3.out⟩
    case measure=>simp [intOf];omega
   ·have d0:decide ((0:Int)<(k:Int))=true:=by simp;omega
    have d0':decide (0<k)=true:=by simp;omega
    have j2:¬9223372036854775807<m+1:=by omega
    clear hrw hv' hr' hdd ht' hcw hft2 hft hbl hml hfa h0
    go_wp2_with (go_at_call 24;refine HX.out.mono ?_;rintro e w3 ⟨S,rfl,hsz,h3⟩;have HC3:=kf (HCW.out.trans h3 (fun _ _ e=>e));obtain⟨p,hp⟩:(∃ p,S.size=p):=⟨_,rfl⟩;have hp9:p<=ft:=(by omega);have j1:¬9223372036854775807<m+1+p:=(by omega);clear h3 hsz)
    go_roundw
    case rel=>exact⟨k+1,m+1+p,_,by omega,by omega,by rw [ByteArray.size_append,ByteArray.size_append,hts,hp];rfl,rfl,by go_num,kf (by have:=HFA.out;have:=HML.out;omega),HRN.out,HC3.out⟩
    case measure=>simp [intOf];omega
  ·obtain rfl:k=len:=by omega
   have HCE:=kf (HC0.out.trans HCW.out (fun _ _ e=>e))
   have HML2:=kf (show m<=fwL l from by have:=HML.out;rwa [List.take_of_length_le (by rw [HL.out];exact Nat.le_refl _)] at this)
   by_cases h6:kk=6
   ·subst h6
    have j1:¬9223372036854775807<1+m+1:=by omega
    have j2:¬9223372036854775807<1+m:=by omega
    go_wp2_with fail
    go_ret
    refine⟨_,rfl,?_,HCE.out⟩
    rw [ByteArray.size_append,ByteArray.size_append,hts]
    have:=HML2.out
    show 1+m+1<=_
    omega
   ·have f6:(kk==6)=false:=by simpa using h6
    have j1:¬9223372036854775807<2+m+2:=by omega
    have j2:¬9223372036854775807<2+m:=by omega
    clear h6
    go_wp2_with fail
    go_ret
    refine⟨_,rfl,?_,HCE.out⟩
    rw [ByteArray.size_append,ByteArray.size_append,hts]
    have:=HML2.out
    show 2+m+2<=_
    omega
theorem wf_in:∀ (N:Nat) (t:VT),sizT t<=N->WF t:=by
 intro N
 induction N using Nat.strongRecOn with
 |_ N ih =>
  intro t hN c w hv hB
  obtain⟨k,n,s,l⟩:=t
  rw [sizT_mk] at hN
  obtain⟨ck,cn,cs,A,len,cap⟩:=c
  obtain⟨e1,e2,e3,hg,hll,hr⟩:=hv.inv
  simp only [] at e1 e2 e3 hll hr
  subst e1 e2 e3
  have hB':=hB
  rw [fwT] at hB'
  have hfw:500+4*cs.size<=fwT (.mk ck cn cs l):=by rw [fwT];omega
  by_cases h0:ck=0
  ·subst h0
   exact(wform_null cn cs A len cap w).mono fun e w' ⟨S,h1,h2,h3⟩=>⟨S,h1,by omega,h3⟩
  by_cases h1:ck=1
  ·subst h1
   exact(wform_bool cn cs A len cap w).mono fun e w' ⟨S,h1,h2,h3⟩=>⟨S,h1,by omega,h3⟩
  by_cases h2:ck=2
  ·subst h2
   exact(wform_int cn cs A len cap w).mono fun e w' ⟨S,h1,h2,h3⟩=>⟨S,h1,by omega,h3⟩
  by_cases h3:ck=3
  ·subst h3
   exact(wform_real cn cs A len cap w).mono fun e w' ⟨S,h1,h2,h3⟩=>⟨S,h1,by omega,h3⟩
  by_cases h4:ck=4
  ·subst h4
   exact(wform_text cn cs A len cap (by omega) w).mono fun e w' ⟨S,h1,h2,h3⟩=>⟨S,h1,by omega,h3⟩
  by_cases h5:ck=5
  ·subst h5
   exact(wform_name cn cs A len cap (by omega) w).mono fun e w' ⟨S,h1,h2,h3⟩=>⟨S,h1,by omega,h3⟩
  by_cases h8:ck=8
  ·subst h8
   exact(wform_ref cn cs A len cap w).mono fun e w' ⟨S,h1,h2,h3⟩=>⟨S,h1,by omega,h3⟩
  refine(wform_row ck cn cs A len cap l (fun x hx=>?_) hll (by have:=hg.len;unfold maxLen at this;exact this) (by omega) w hr ⟨h0,h1,h2,h3,h4,h5,h8⟩).mono fun e w' ⟨S,h1,h2,h3⟩=>⟨S,h1,by rw [fwT];omega,h3⟩
  obtain⟨i,hi,rfl⟩:=List.mem_iff_getElem.1 hx
  have:=sizL_at (List.getElem?_eq_getElem hi)
  exact ih (N-1) (by omega) _ (by omega)
theorem wf_any (t:VT):WF t:=wf_in _ t (Nat.le_refl _)
end Go.Proofs.YthejpkflcgjdoaaGreatDoor
