/- Merged by program. -/
import Derived.Test.YthejpkflcgjdoaaGreatDoorE20
import Derived.Test.YthejpkflcgjdoaaGreatDoorE21
set_option linter.unusedVariables false
set_option linter.unusedSimpArgs false
namespace Go.Proofs.YthejpkflcgjdoaaGreatDoor
open Go.RowKit
def meanO (S:ByteArray):Int × Int × Int:=if S=⟨#[110,117,108,108]⟩ then(0,0,0) else if S=⟨#[102,97,108,115,101]⟩ then(0,1,0) else if S=⟨#[116,114,117,101]⟩ then(0,1,1) else(11,0,0)
theorem mean_word (s:List Nat):(wordO s).1=(meanO (sb s)).1/\(wordO s).2=.mk (meanO (sb s)).2.1 (meanO (sb s)).2.2 ⟨#[]⟩ []:=by
 unfold wordO meanO
 split
 ·exact⟨rfl,rfl⟩
 ·split
  ·exact⟨rfl,rfl⟩
  ·split
   ·exact⟨rfl,rfl⟩
   ·exact⟨rfl,rfl⟩
set_option maxHeartbeats 4000000 in
theorem qmeant_any (S:ByteArray) (w:World):Calls Tryz.prog 114 #[.string S] w fun e w'=>e=.returned (.tuple #[.agg #[.int .i64 (meanO S).2.1,.int .i64 (meanO S).2.2,.string ⟨#[]⟩,.slice none 0 0],.int .i64 (meanO S).1])/\Chg NoS w w':=by
 by_cases h1:S=⟨#[110,117,108,108]⟩
 ·subst h1
  have HE:=kf (show meanO ⟨#[110,117,108,108]⟩=(0,0,0) from rfl)
  rw [HE.out]
  simp only []
  go_enter Tryz.func114,Tryz.ntmps114
  go_wp2_with fail
  refine bodyPost_ret (v:=.tuple #[.agg #[.int .i64 0,.int .i64 0,.string ⟨#[]⟩,.slice none 0 0],.int .i64 0]) (by simp [results,Tryz.results114,go_sem]) rfl ?_
  exact⟨rfl,(Chg.refl NoS w).alloc _⟩
 by_cases h2:S=⟨#[102,97,108,115,101]⟩
 ·subst h2
  have HE:=kf (show meanO ⟨#[102,97,108,115,101]⟩=(0,1,0) from rfl)
  rw [HE.out]
  simp only []
  go_enter Tryz.func114,Tryz.ntmps114
  go_wp2_with fail
  refine bodyPost_ret (v:=.tuple #[.agg #[.int .i64 1,.int .i64 0,.string ⟨#[]⟩,.slice none 0 0],.int .i64 0]) (by simp [results,Tryz.results114,go_sem]) rfl ?_
  exact⟨rfl,(Chg.refl NoS w).alloc _⟩
 by_cases h3:S=⟨#[116,114,117,101]⟩
 ·subst h3
  have HE:=kf (show meanO ⟨#[116,114,117,101]⟩=(0,1,1) from rfl)
  rw [HE.out]
  simp only []
  go_enter Tryz.func114,Tryz.ntmps114
  go_wp2_with fail
  refine bodyPost_ret (v:=.tuple #[.agg #[.int .i64 1,.int .i64 1,.string ⟨#[]⟩,.slice none 0 0],.int .i64 0]) (by simp [results,Tryz.results114,go_sem]) rfl ?_
  exact⟨rfl,(Chg.refl NoS w).alloc _⟩
 have h12:(S.toList==[110,117,108,108])=false:=by have h:=str_ne11 h1;rw [show(ByteArray.mk #[110,117,108,108]).toList=[110,117,108,108] from by kernel_rfl] at h;simpa using h
 have h13:¬S.toList=[110,117,108,108]:=by simpa using h12
 have h22:(S.toList==[102,97,108,115,101])=false:=by have h:=str_ne11 h2;rw [show(ByteArray.mk #[102,97,108,115,101]).toList=[102,97,108,115,101] from by kernel_rfl] at h;simpa using h
 have h23:¬S.toList=[102,97,108,115,101]:=by simpa using h22
 have h32:(S.toList==[116,114,117,101])=false:=by have h:=str_ne11 h3;rw [show(ByteArray.mk #[116,114,117,101]).toList=[116,114,117,101] from by kernel_rfl] at h;simpa using h
 have h33:¬S.toList=[116,114,117,101]:=by simpa using h32
 have HE:=kf (show meanO S=(11,0,0) from by unfold meanO;rw [if_neg h1,if_neg h2,if_neg h3])
 rw [HE.out]
 simp only []
 go_enter Tryz.func114,Tryz.ntmps114
 go_wp2_with fail
 refine bodyPost_ret (v:=.tuple #[.agg #[.int .i64 0,.int .i64 0,.string ⟨#[]⟩,.slice none 0 0],.int .i64 11]) (by simp [results,Tryz.results114,go_sem]) rfl ?_
 exact⟨rfl,(Chg.refl NoS w).alloc _⟩
theorem Stk.top {w0 w:World} {gs b1 b2 c:Nat} {c1 c2:Array Value} {fs:List FrM} {f:FrM} {S:Option Addr} {O:Nat->Prop} (h:Stk w0 w gs b1 b2 c1 c2 (fs++[f]) S c O):∃ g,S=some ⟨g,0,none⟩/\fs.length+1<=c /\
  w.cell? ⟨g,fs.length*4,none⟩=some (.int .i64 f.k)/\w.cell? ⟨g,fs.length*4+1,none⟩=some (.int .i64 0)/\w.cell? ⟨g,fs.length*4+2,none⟩=some (.string ⟨#[]⟩)/\w.cell? ⟨g,fs.length*4+3,none⟩=some (.slice f.A f.ts.length f.c):=by
 obtain⟨g,cap,e,h1,h2⟩:=own_form h.row (by simp)
 simp only [Value.slice.injEq] at e
 obtain⟨rfl,_,rfl⟩:=e
 have hr:=h.row
 rw [List.length_append] at h1
 have hc:∀ i,i<4->w.cell? ⟨g,fs.length*4+i,none⟩=f.vc.cells[i]?:=fun i hi=>by
  have h3:=World.ownsRow.cellAt hr (fs.length*4+i) (by rw [List.length_append];simp only [List.length_singleton];omega)
  rw [h3]
  exact vcells_at (by simp) hi
 exact⟨g,rfl,h1,hc 0 (by decide),hc 1 (by decide),hc 2 (by decide),hc 3 (by decide)⟩
set_option maxHeartbeats 2000000 in
theorem room_none (S:Option Addr) (c:Nat) (kind:Int) (w:World):Calls Tryz.prog 155 #[.slice S 0 c,.int .i64 kind] w fun e w'=>e=.returned (.int .i64 0)/\w'=w:=by
 go_enter Tryz.func155,Tryz.ntmps155
 go_wp2_with fail
 go_ret
 exact⟨rfl,rfl⟩
set_option maxHeartbeats 4000000 in
theorem room_some (g n m c:Nat) (A:Option Addr) (q fc:Nat) (k kind:Int) (w:World) (hn:n=m+1) (hb:n<=1000000) (hc:n<=c) (hq:q<=1000000000) (h0:w.cell? ⟨g,m*4,none⟩=some (.int .i64 k)) (h3:w.cell? ⟨g,m*4+3,none⟩=some (.slice A q fc)) :
  Calls Tryz.prog 155 #[.slice (some ⟨g,0,none⟩) n c,.int .i64 kind] w fun e w'=>e=.returned (.int .i64 (if k=7/\q%2=0/\kind≠5 then 11 else if 64<=n then 15 else 0))/\w'=w:=by
 have e1:(n:Int)-1=(m:Int):=by omega
 have b1:(0:Int)<n:=by omega
 have b2:(m:Int)<n:=by omega
 have b3:decide ((0:Int)<n)=true:=by simp;omega
 have b4:decide (0<n)=true:=by simp;omega
 have HN:=kf hn
 clear hn
 have HE:∀ z:Int,(if k=7/\q%2=0/\kind≠5 then 11 else if 64<=n then 15 else 0)=z->Hid ((if k=7/\q%2=0/\kind≠5 then(11:Int) else if 64<=n then 15 else 0)=z):=fun _ h=>h
 by_cases h64:64<=n
 ·have d1:decide ((64:Int)<=n)=true:=by simp;omega
  have d1':decide (64<=n)=true:=by simp;omega
  by_cases hk:k=7
  ·subst hk
   by_cases hq2:q%2=0
   ·have t1:(q:Int).tmod 2=0:=by rw [Int.tmod_eq_emod_of_nonneg (by omega)];omega
    have t2:(q:Int)%2=0:=by omega
    by_cases hk5:kind=5
    ·subst hk5
     have HZ:=HE 15 (by rw [if_neg (by simp),if_pos h64])
     rw [HZ.out]
     clear HE
     go_enter Tryz.func155,Tryz.ntmps155
     go_wp2_with fail
     go_ret
     exact⟨rfl,rfl⟩
    ·have HZ:=HE 11 (by rw [if_pos ⟨rfl,hq2,hk5⟩])
     rw [HZ.out]
     have d2:(kind != 5)=true:=by simpa using hk5
     have d3:(kind==5)=false:=by simpa using hk5
     clear HE
     go_enter Tryz.func155,Tryz.ntmps155
     go_wp2_with fail
     go_ret
     exact⟨rfl,rfl⟩
   ·have HZ:=HE 15 (by rw [if_neg (fun h=>hq2 h.2.1),if_pos h64])
    rw [HZ.out]
    have t0:q%2=1:=by omega
    have t1:(q:Int).tmod 2=1:=by rw [Int.tmod_eq_emod_of_nonneg (by omega)];omega
    have t2:(q:Int)%2=1:=by omega
    clear HE hq2
    go_enter Tryz.func155,Tryz.ntmps155
    go_wp2_with fail
    go_ret
    exact⟨rfl,rfl⟩
  ·have HZ:=HE 15 (by rw [if_neg (fun h=>hk h.1),if_pos h64])
   rw [HZ.out]
   have d2:(k==7)=false:=by simpa using hk
   clear HE
   go_enter Tryz.func155,Tryz.ntmps155
   go_wp2_with fail
   go_ret
   exact⟨rfl,rfl⟩
 ·have d1:decide ((64:Int)<=n)=false:=by simp;omega
  have d1':decide (64<=n)=false:=by simp;omega
  by_cases hk:k=7
  ·subst hk
   by_cases hq2:q%2=0
   ·have t1:(q:Int).tmod 2=0:=by rw [Int.tmod_eq_emod_of_nonneg (by omega)];omega
    have t2:(q:Int)%2=0:=by omega
    by_cases hk5:kind=5
    ·subst hk5
     have HZ:=HE 0 (by rw [if_neg (by simp),if_neg h64])
     rw [HZ.out]
     clear HE
     go_enter Tryz.func155,Tryz.ntmps155
     go_wp2_with fail
     go_ret
     exact⟨rfl,rfl⟩
    ·have HZ:=HE 11 (by rw [if_pos ⟨rfl,hq2,hk5⟩])
     rw [HZ.out]
     have d2:(kind != 5)=true:=by simpa using hk5
     have d3:(kind==5)=false:=by simpa using hk5
     clear HE
     go_enter Tryz.func155,Tryz.ntmps155
     go_wp2_with fail
     go_ret
     exact⟨rfl,rfl⟩
   ·have HZ:=HE 0 (by rw [if_neg (fun h=>hq2 h.2.1),if_neg h64])
    rw [HZ.out]
    have t0:q%2=1:=by omega
    have t1:(q:Int).tmod 2=1:=by rw [Int.tmod_eq_emod_of_nonneg (by omega)];omega
    have t2:(q:Int)%2=1:=by omega
    clear HE hq2
    go_enter Tryz.func155,Tryz.ntmps155
    go_wp2_with fail
    go_ret
    exact⟨rfl,rfl⟩
  ·have HZ:=HE 0 (by rw [if_neg (fun h=>hk h.1),if_neg h64])
   rw [HZ.out]
   have d2:(k==7)=false:=by simpa using hk
   clear HE
   go_enter Tryz.func155,Tryz.ntmps155
   go_wp2_with fail
   go_ret
   exact⟨rfl,rfl⟩
theorem room_any {w0 w:World} {gs b1 b2 c:Nat} {c1 c2:Array Value} {fs:List FrM} {S:Option Addr} {O:Nat->Prop} (h:Stk w0 w gs b1 b2 c1 c2 fs S c O) (n:Nat) (hn:n=fs.length) (hb:n<=1000000) (hq:∀ f∈fs,f.ts.length<=1000000000) (kind:Int) :
  Calls Tryz.prog 155 #[.slice S n c,.int .i64 kind] w fun e w'=>e=.returned (.int .i64 (roomO (stO fs) kind))/\w'=w:=by
 subst hn
 rcases List.eq_nil_or_concat fs with rfl|⟨fs',f,rfl⟩
 ·exact room_none S c kind w
 ·rw [List.concat_eq_append] at h hq hb ⊢
  obtain⟨g,rfl,hc,h0,_,_,h3⟩:=h.top
  have hl:(fs'++[f]).length=fs'.length+1:=by simp
  rw [hl] at hb ⊢
  have:=room_some g (fs'.length+1) fs'.length c f.A f.ts.length f.c f.k kind w rfl hb hc (hq f (List.mem_append_right _ (List.mem_singleton_self _))) h0 h3
  rw [stO_snoc]
  unfold roomO
  simp only []
  rwa [stO_len]
theorem set4_chg (w:World) (g:Nat) (a b c d:Value):Chg (fun i=>i=g) w ((((w.setCell ⟨g,0,none⟩ a).setCell ⟨g,1,none⟩ b).setCell ⟨g,2,none⟩ c).setCell ⟨g,3,none⟩ d) :=
 Chg.setCell (S:=fun i=>i=g) (Chg.setCell (S:=fun i=>i=g) (Chg.setCell (S:=fun i=>i=g) (Chg.setCell (S:=fun i=>i=g) (Chg.refl _ w) (p:=⟨g,0,none⟩) (fun _=>rfl) a) (p:=⟨g,1,none⟩) (fun _=>rfl) b) (p:=⟨g,2,none⟩) (fun _=>rfl) c) (p:=⟨g,3,none⟩) (fun _=>rfl) d
def DicTo [KD.LVI] (w:World) (l:List VT) (e:Ending) (w':World):Prop:=Chg NoS w w' /\
 (((dicO l).1≠0/\e=.returned (.tuple #[VC.val ⟨0,0,⟨#[]⟩,none,0,0⟩,.int .i64 (dicO l).1])) \/
  ((dicO l).1=0/\∃ (es:List VC) (A:Option Addr) (n c:Nat),e=.returned (.tuple #[VC.val ⟨7,0,⟨#[]⟩,A,n,c⟩,.int .i64 0])/\w'.ownsRow 0 25 4 (.slice A n c) n (vcells es)/\es.length=n/\(dictT l).length=n /\
   (∀ (j:Nat) (t:VT) (e:VC),(dictT l)[j]?=some t->es[j]?=some e->KD.LVI.VI t e)/\∀ a,A=some a->w.heap.size<=a.block))
set_option maxHeartbeats 4000000 in
set_option maxRecDepth 100000 in
theorem qdict_any [KD.LVI] (l:List VT) (es0:List VC) (A:Option Addr) (len cap:Nat) (w:World) (hl:l.length=len) (hel:es0.length=len) (hsr:Src w 4 A len cap (vcells es0)) (hvi:∀ (j:Nat) (t:VT) (e:VC),l[j]?=some t->es0[j]?=some e->KD.LVI.VI t e) (hA:∀ a,A=some a->a.spot=none) (hcap:len<=cap) (h40:len<=500000) (hks:∀ t∈l,t.str.size<=maxLen) :
  Calls Tryz.prog 156 #[.slice A len cap] w (DicTo w l):=by
 have HB0:=kf (Blk.new w 25 #[.int .i64 0,.int .i64 0,.string ⟨#[]⟩,.slice none 0 0])
 have HC0:=kf ((Chg.refl NoS w).alloc (.cells #[.int .i64 0,.int .i64 0,.string ⟨#[]⟩,.slice none 0 0] 25))
 have HD:=kf (KD.dictOf_k l es0 A len cap (w.alloc (.cells #[.int .i64 0,.int .i64 0,.string ⟨#[]⟩,.slice none 0 0] 25)) hl hel (Src.below (w0:=w) hsr HC0.out) hvi hA hcap h40 hks)
 by_cases ho:len%2=1
 ·have t1:(len:Int).tmod 2=1:=by rw [Int.tmod_eq_emod_of_nonneg (by omega)];omega
  have t2:(len:Int)%2=1:=by omega
  have HE:=kf (show dicO l=(11,nilT) from by unfold dicO;rw [if_pos (by omega)])
  clear hl hel hsr hvi hA hks HB0 HC0 HD
  go_enter Tryz.func156,Tryz.ntmps156
  go_wp2_with fail
  refine bodyPost_ret (v:=.tuple #[.agg #[.int .i64 0,.int .i64 0,.string ⟨#[]⟩,.slice none 0 0],.int .i64 11]) (by simp [results,Tryz.results156,go_sem]) rfl ?_
  exact⟨(Chg.refl NoS w).alloc _,.inl ⟨by rw [HE.out];decide,by rw [HE.out];rfl⟩⟩
 ·have t0:len%2=0:=by omega
  have t1:(len:Int).tmod 2=0:=by rw [Int.tmod_eq_emod_of_nonneg (by omega)];omega
  have t2:(len:Int)%2=0:=by omega
  have HL:=kf hl
  clear hl hel hsr hvi hA hks ho
  go_enter Tryz.func156,Tryz.ntmps156
  go_upto_region 4 with(go_at_call 26;refine HD.out.mono ?_;rintro e w3 ⟨es,A2,n2,c2,rfl,hgv,hn2⟩;unfold VC.val;simp only [];have HGV:=kf hgv;clear hgv)
  have HB2:=kf ((HB0.out.chg HGV.out.chg (fun e=>e)).alloc (.cells #[.int .i64 7,.int .i64 0,.string ⟨#[]⟩,.slice A2 n2 c2] 25))
  have HB4:=kf (Blk.new w3 25 #[.int .i64 7,.int .i64 0,.string ⟨#[]⟩,.slice A2 n2 c2])
  have HC4:=kf ((HC0.out.trans HGV.out.chg (fun _ _ e=>e)).alloc (.cells #[.int .i64 7,.int .i64 0,.string ⟨#[]⟩,.slice A2 n2 c2] 25))
  have HOW:=kf (own_chg (S:=NoS) HGV.out.own ((Chg.refl NoS w3).alloc (.cells #[.int .i64 7,.int .i64 0,.string ⟨#[]⟩,.slice A2 n2 c2] 25)) (fun _ _ e=>e))
  have HNW:=kf (show ∀ a,A2=some a->w.heap.size<a.block from fun a ha=>by have:=HGV.out.new a ha;simp only [World.size_alloc] at this;omega)
  obtain⟨W4,hW4⟩:∃ W4,W4=w3.alloc (.cells #[.int .i64 7,.int .i64 0,.string ⟨#[]⟩,.slice A2 n2 c2] 25):=⟨_,rfl⟩
  obtain⟨g4,hg4⟩:∃ g4,g4=w3.heap.size:=⟨_,rfl⟩
  rw [<- hW4] at HB2 HB4 HC4 HOW ⊢
  rw [<- hg4] at HB4 ⊢
  obtain⟨g2,hg2⟩:∃ g2,g2=w.heap.size:=⟨_,rfl⟩
  rw [<- hg2] at HB2 HNW ⊢
  have hge2:w.heap.size<=g2:=by omega
  obtain⟨q0,q1,q2,q3,y0,y1,y2,y3⟩:=HB4.out.cl4
  obtain⟨r0,r1,r2,r3,z0,z1,z2,z3⟩:=HB2.out.cl4
  clear hW4 hg4 hg2 HB0 HC0 HB4 HD
  by_cases hlt:n2<len
  ·have d1:decide ((n2:Int)<len)=true:=by simp;omega
   have d1':decide (n2<len)=true:=by simp;omega
   have HE:=kf (show dicO l=(16,nilT) from by unfold dicO;rw [if_neg (by rw [HL.out];omega),if_pos (by rw [HL.out,HGV.out.tlen];exact hlt)])
   go_wp2_with fail
   refine bodyPost_ret (v:=.tuple #[.agg #[.int .i64 0,.int .i64 0,.string ⟨#[]⟩,.slice none 0 0],.int .i64 16]) (by simp [results,Tryz.results156,go_sem,r0,r1,r2,r3]) rfl ?_
   exact⟨Chg.newc hge2 (Chg.newc hge2 (Chg.newc hge2 (Chg.newc hge2 HC4.out))),.inl ⟨by rw [HE.out];decide,by rw [HE.out];rfl⟩⟩
  ·have d1:decide ((n2:Int)<len)=false:=by simp;omega
   have d1':decide (n2<len)=false:=by simp;omega
   have HE:=kf (show dicO l=(0,.mk 7 0 ⟨#[]⟩ (dictT l)) from by unfold dicO;rw [if_neg (by rw [HL.out];omega),if_neg (by rw [HL.out,HGV.out.tlen];exact hlt)])
   go_wp2_with fail
   refine bodyPost_ret (v:=.tuple #[.agg #[.int .i64 7,.int .i64 0,.string ⟨#[]⟩,.slice A2 n2 c2],.int .i64 0]) (by simp [results,Tryz.results156,go_sem,r0,r1,r2,r3]) rfl ?_
   refine⟨Chg.newc hge2 (Chg.newc hge2 (Chg.newc hge2 (Chg.newc hge2 HC4.out))),.inr ⟨by rw [HE.out],es,A2,n2,c2,rfl,?_,HGV.out.len,HGV.out.tlen,HGV.out.is,fun a ha=>by have:=HNW.out a ha;omega⟩⟩
   refine own_chg (S:=fun i=>i=g2) HOW.out (set4_chg W4 g2 _ _ _ _) (fun g hg e=>?_)
   rw [ob_eq] at hg
   rcases A2 with _|a
   ·cases hg
   ·have h1:a.block=g:=by simpa [ob] using hg
    have:=HNW.out a rfl
    omega
end Go.Proofs.YthejpkflcgjdoaaGreatDoor
namespace Go.Proofs.YthejpkflcgjdoaaGreatDoor.HY
open Go.RowKit
variable {P:Program} {ops:Array Oper} {Q:Exit->Act->World->Prop} {md:Region.Mode} {S:World->Prop} {z:List Nat}
def anyY (P:Program) (md:Region.Mode) (ops:Array Oper) (Q:Exit->Act->World->Prop) (S:World->Prop) (z:List Nat):Nat->Array Bool->Act->World->Prop
 |0,li,a,w=>Region.ready md ops li=[]/\Q .normal a w
 |n+1,li,a,w=>(Region.ready md ops li=[]->Q .normal a w)/\∀ i∈Region.ready md ops li,wpOp P ops Q i (fun b u=>(i ∉ z->S u)/\anyY P md ops Q S z n (li.setIfInBounds i true) b u) a w
theorem any_of_Y:∀ (n:Nat) (li:Array Bool) (a:Act) (w:World),anyY P md ops Q S z n li a w->wpAny P md ops Q n li a w
 |0,_,_,_,h=>h
 |n+1,_,_,_,h=>⟨h.1,fun i hi=>wpOp_mono (fun b u k=>any_of_Y n _ b u k.2) (h.2 i hi)⟩
theorem firstY {i:Nat} {oi:Oper} {v:Value} (hi:ops[i]?=some oi) (hs:Region.noSelect ops=true) (hz:∀ j∈z,Region.waitsFor md ops j i=true) (hQ:∀ c a w,Q (.panic c) (a.put oi.dst v) w->Q (.panic c) a w) :
  ∀ (n:Nat) (li:Array Bool) (a:Act) (w:World),(∀ j oj,ops[j]?=some oj->j≠i->li.getD j true=false->(∀ e∈oj.after,Region.binds md e=true->e.on≠i)->oi.apart ops oj=true) ->
   i∈Region.ready md ops li->YieldsIf P ops S oi v a->S w->anyY P md ops Q S z n (li.setIfInBounds i true) (a.put oi.dst v) w->anyY P md ops Q S z (n+1) li a w:=by
 intro n
 induction n with
 |zero =>
  intro li a w _ hr hy hS H
  refine⟨fun h=>(by rw [h] at hr;cases hr),fun j hj=>?_⟩
  rcases Nat.decEq j i with hne|rfl
  ·have h1:=ready_mono hj hne
   rw [H.1] at h1
   cases h1
  ·exact hy.wpOp hi hS ⟨fun _=>hS,H⟩
 |succ n ih =>
  intro li a w hap hr hy hS H
  refine⟨fun h=>(by rw [h] at hr;cases hr),fun j hj=>?_⟩
  rcases Nat.decEq j i with hne|rfl
  ·have hun:=ready_un hr
   have waits:∀ k ok,k∈Region.ready md ops li->ops[k]?=some ok->∀ e∈ok.after,Region.binds md e=true->e.on≠i:=by
    intro k ok hk hok e he hb heq
    obtain⟨_,o',ho',hall⟩:=mem_ready.1 hk
    rw [hok] at ho'
    cases ho'
    have h2:=hall e he hb
    rw [heq,hun] at h2
    cases h2
   have hjz:j ∉ z:=by
    intro hm
    obtain⟨oz,hoz,e,he,hb,heq⟩:=Region.waitsFor_spec (hz j hm)
    exact waits j oz hj hoz e he hb heq
   obtain⟨hju,oj,hoj,_⟩:=mem_ready.1 hj
   have h3:=wpOp_putIf hoj (hap j oj hoj hne hju (waits j oj hj hoj)) (fun cs b=>Region.noSelect_spec hs i oi cs b hi) (fun cs b=>Region.noSelect_spec hs j oj cs b hoj) hQ hy (H.2 j (ready_mono hj hne))
   refine wpOp_mono (fun b u k=>⟨k.2.1,ih (li.setIfInBounds j true) b u (fun q oq hq hqi hqu hno=>hap q oq hq hqi ?_ hno) (ready_mono hr (Ne.symm hne)) k.1 (k.2.1 hjz) ?_⟩) h3
   ·rcases Nat.decEq j q with hjq|rfl
    ·rwa [getD_set_ne true hjq] at hqu
    ·exact hju
   ·rw [Array.setIfInBounds_comm _ _ hne]
    exact k.2.2
  ·exact hy.wpOp hi hS ⟨fun _=>hS,H⟩
theorem lateY {i:Nat} {oi:Oper} {v:Value} (hi:ops[i]?=some oi) (hs:Region.noSelect ops=true) (hz:i∈z) (hQ:∀ c a w,Q (.panic c) (a.put oi.dst v) w->Q (.panic c) a w) :
  ∀ (n:Nat) (li:Array Bool) (a:Act) (w:World),(∀ j oj,ops[j]?=some oj->j≠i->li.getD j true=false->(∀ e∈oj.after,Region.binds md e=true->e.on≠i)->oi.apart ops oj=true) ->
   i∈Region.ready md ops li->YieldsIf P ops (fun _=>True) oi v a->anyY P md ops Q S z n (li.setIfInBounds i true) (a.put oi.dst v) w->anyY P md ops Q S z (n+1) li a w:=by
 intro n
 induction n with
 |zero =>
  intro li a w _ hr hy H
  refine⟨fun h=>(by rw [h] at hr;cases hr),fun j hj=>?_⟩
  rcases Nat.decEq j i with hne|rfl
  ·have h1:=ready_mono hj hne
   rw [H.1] at h1
   cases h1
  ·exact hy.wpOp hi trivial ⟨fun h=>absurd hz h,H⟩
 |succ n ih =>
  intro li a w hap hr hy H
  refine⟨fun h=>(by rw [h] at hr;cases hr),fun j hj=>?_⟩
  rcases Nat.decEq j i with hne|rfl
  ·have hun:=ready_un hr
   have waits:∀ k ok,k∈Region.ready md ops li->ops[k]?=some ok->∀ e∈ok.after,Region.binds md e=true->e.on≠i:=by
    intro k ok hk hok e he hb heq
    obtain⟨_,o',ho',hall⟩:=mem_ready.1 hk
    rw [hok] at ho'
    cases ho'
    have h2:=hall e he hb
    rw [heq,hun] at h2
    cases h2
   obtain⟨hju,oj,hoj,_⟩:=mem_ready.1 hj
   have h3:=wpOp_putIf hoj (hap j oj hoj hne hju (waits j oj hj hoj)) (fun cs b=>Region.noSelect_spec hs i oi cs b hi) (fun cs b=>Region.noSelect_spec hs j oj cs b hoj) hQ hy (H.2 j (ready_mono hj hne))
   refine wpOp_mono (fun b u k=>⟨k.2.1,ih (li.setIfInBounds j true) b u (fun q oq hq hqi hqu hno=>hap q oq hq hqi ?_ hno) (ready_mono hr (Ne.symm hne)) k.1 ?_⟩) h3
   ·rcases Nat.decEq j q with hjq|rfl
    ·rwa [getD_set_ne true hjq] at hqu
    ·exact hju
   ·rw [Array.setIfInBounds_comm _ _ hne]
    exact k.2.2
  ·exact hy.wpOp hi trivial ⟨fun h=>absurd hz h,H⟩
theorem takeY {i:Nat} {oi:Oper} {v:Value} {n:Nat} {li:Array Bool} {a:Act} {w:World} (hi:ops[i]?=some oi) (hs:Region.noSelect ops=true) (hz:(z.all fun j=>Region.waitsFor md ops j i)=true) (hf:Region.free md ops li i=true) (hr:(Region.ready md ops li).contains i=true)
  (hQ:∀ c a w,Q (.panic c) (a.put oi.dst v) w->Q (.panic c) a w) (hy:YieldsIf P ops S oi v a) (hS:S w) (h:anyY P md ops Q S z n (li.setIfInBounds i true) (a.put oi.dst v) w):anyY P md ops Q S z (n+1) li a w :=
 firstY hi hs (fun j hj=>List.all_eq_true.1 hz j hj) hQ n li a w (Region.free_spec hi hf) (by simpa using hr) hy hS h
theorem soonY {i:Nat} {oi:Oper} {v:Value} {n:Nat} {li:Array Bool} {a:Act} {w:World} (hi:ops[i]?=some oi) (hs:Region.noSelect ops=true) (hz:i∈z) (hf:Region.free md ops li i=true) (hr:(Region.ready md ops li).contains i=true)
  (hQ:∀ c a w,Q (.panic c) (a.put oi.dst v) w->Q (.panic c) a w) (hy:YieldsIf P ops (fun _=>True) oi v a) (h:anyY P md ops Q S z n (li.setIfInBounds i true) (a.put oi.dst v) w):anyY P md ops Q S z (n+1) li a w :=
 lateY hi hs hz hQ n li a w (Region.free_spec hi hf) (by simpa using hr) hy h
theorem oneY {i n:Nat} {o:Oper} {li:Array Bool} {a:Act} {w:World} (hr:Region.ready md ops li=[i]) (ho:ops[i]?=some o)
  (h:∀ K:Act->World->Prop,Hid (∀ a w,S w->(S w->anyY P md ops Q S z n (li.setIfInBounds i true) a w)->K a w)->if Region.wanted o (yielded ops a.tmps)=true then Oper.wp P o a w K Q else K (a.put o.dst undef) w):anyY P md ops Q S z (n+1) li a w:=by
 refine⟨fun h0=>(by rw [hr] at h0;cases h0),fun j hj=>?_⟩
 rw [hr] at hj
 obtain rfl:=List.mem_singleton.1 hj
 exact wpOp_step ho (fun K hK=>h K (fun a w hS hW=>hK a w ⟨fun _=>hS,hW hS⟩))
theorem twoY {i j n:Nat} {o o':Oper} {li:Array Bool} {a:Act} {w:World} (hr:Region.ready md ops li=[i,j]) (ho:ops[i]?=some o) (ho':ops[j]?=some o') (hi:i∈z) (hj:j∈z)
  (h:∀ K:Act->World->Prop,Hid (∀ a w,anyY P md ops Q S z n (li.setIfInBounds i true) a w->K a w)->if Region.wanted o (yielded ops a.tmps)=true then Oper.wp P o a w K Q else K (a.put o.dst undef) w)
  (h':∀ K:Act->World->Prop,Hid (∀ a w,anyY P md ops Q S z n (li.setIfInBounds j true) a w->K a w)->if Region.wanted o' (yielded ops a.tmps)=true then Oper.wp P o' a w K Q else K (a.put o'.dst undef) w):anyY P md ops Q S z (n+1) li a w:=by
 refine⟨fun h0=>(by rw [hr] at h0;cases h0),fun k hk=>?_⟩
 rw [hr] at hk
 simp only [List.mem_cons,List.not_mem_nil,or_false] at hk
 rcases hk with rfl|rfl
 ·exact wpOp_step ho (fun K hK=>h K (fun a w hW=>hK a w ⟨fun hn=>absurd hi hn,hW⟩))
 ·exact wpOp_step ho' (fun K hK=>h' K (fun a w hW=>hK a w ⟨fun hn=>absurd hj hn,hW⟩))
theorem lastY {i n:Nat} {o:Oper} {li:Array Bool} {a:Act} {w:World} (hr:Region.ready md ops li=[i]) (ho:ops[i]?=some o) (hi:i∈z) (hr2:Region.ready md ops (li.setIfInBounds i true)=[])
  (h:∀ K:Act->World->Prop,Hid (∀ a w,Q .normal a w->K a w)->if Region.wanted o (yielded ops a.tmps)=true then Oper.wp P o a w K Q else K (a.put o.dst undef) w):anyY P md ops Q S z (n+1) li a w:=by
 refine⟨fun h0=>(by rw [hr] at h0;cases h0),fun j hj=>?_⟩
 rw [hr] at hj
 obtain rfl:=List.mem_singleton.1 hj
 refine wpOp_step ho (fun K hK=>h K (fun a w hq=>hK a w ⟨fun hn=>absurd hi hn,?_⟩))
 cases n with
 |zero=>exact⟨hr2,hq⟩
 |succ n=>exact⟨fun _=>hq,fun i hi=>(by rw [hr2] at hi;cases hi)⟩
theorem startY {id:Nat} {a:Act} {w:World} (S:World->Prop) (z:List Nat) (hm:P.follows .mixedOrders=true) (hS:S w.drew) (h:S w.drew->anyY P .any ops Q S z ops.size (Array.replicate ops.size false) a w.drew):(Code.region id ops true).wp P Q a w :=
 wp_region_any hm (any_of_Y _ _ _ _ (h hS))
end Go.Proofs.YthejpkflcgjdoaaGreatDoor.HY
namespace Go.Proofs.YthejpkflcgjdoaaGreatDoor
open Go.RowKit
theorem step_one {T:TypeId} {W:World} {ops:Array Oper} {o:Oper} {a:Act} {K:Act->World->Prop} {Q:Exit->Act->World->Prop} {E:Prop} {es:List VC} {e:VC} {n N1 c B:Nat} {A:Option Addr} (hT:Tryz.prog.underlying T=some (.slice 25)) (hgd:o.guard=none) (s x:Operand)
  (ho:o.op=.call { callee:=.builtin .append,args:=#[s,x],argTypes:=#[T,T] }) (hs:a.eval s=.slice A n c) (hx:a.eval x=.slice (some ⟨B,0,none⟩) 1 1)
  (hown:W.ownsRow 0 25 4 (.slice A n c) n (vcells es)) (hn:n<=2000000000) (hN:N1=n+1) (hB:Blk W B 25 #[.int .i64 e.k,.int .i64 e.n,.string e.s,.slice e.A e.len e.cap])
  (k:∀ g c3 w',w'.ownsRow 0 25 4 (.slice (some ⟨g,0,none⟩) N1 c3) N1 (vcells (es++[e]))->W.grownBy w' (Value.slice A n c).ownBlock->(ob A=some g\/g=W.heap.size)->g<w'.heap.size->K (a.put o.dst (.slice (some ⟨g,0,none⟩) N1 c3)) w') :
  if Region.wanted o (yielded ops a.tmps)=true then Oper.wp Tryz.prog o a W K Q else E:=by
 subst hN
 obtain⟨i0,hi,hz0,hz1,hz2⟩:=info_partsV info_VC
 refine step_append_lies W hgd s x T ho 0 25 i0 _ 4 56 hT hi hz0 hz1 hz2 rfl (by decide) (.slice A n c) n (vcells es) hs hown ⟨B,0,none⟩ 1 1 (vcells [e]) hx (by rw [vcells_len];rfl) (fun j u hj=>?_) (vcells_cell _) (by decide) (by unfold maxLen;omega) (by omega) (Nat.zero_le _) W.heap.size rfl ?_
 ·rw [vcells_one] at hj
  have hadd:(⟨B,0,none⟩:Addr).add j=⟨B,j,none⟩:=by unfold Addr.add;split<;>simp_all
  rw [hadd,hB.cell j]
  unfold VC.cells at hj
  simpa using hj
 ·intro g c4 w4 hown4 hgr4 hat4 hlt4
  refine k g c4 w4 (by rw [vcells_app];exact hown4) hgr4 ?_ hlt4
  rwa [ob_eq] at hat4
theorem setk_chg {w X:World} {g:Nat} (k:Nat) (u:Value) (h:Chg (fun i=>i=g) w X):Chg (fun i=>i=g) w (X.setCell ⟨g,k,none⟩ u):=h.setCell (p:=⟨g,k,none⟩) (fun _=>rfl) u
theorem set4j_chg (w:World) (g j:Nat) (a b c d:Value):Chg (fun i=>i=g) w ((((w.setCell ⟨g,j*4,none⟩ a).setCell ⟨g,j*4+1,none⟩ b).setCell ⟨g,j*4+2,none⟩ c).setCell ⟨g,j*4+3,none⟩ d) :=
 setk_chg (j*4+3) d (setk_chg (j*4+2) c (setk_chg (j*4+1) b (setk_chg (j*4) a (Chg.refl (fun i=>i=g) w))))
theorem own_set4 {W:World} {g c N j:Nat} {es:List VC} {e:VC} (h:W.ownsRow 0 25 4 (.slice (some ⟨g,0,none⟩) N c) N (vcells es)) (hj:j<es.length) :
  ((((W.setCell ⟨g,j*4,none⟩ (.int .i64 e.k)).setCell ⟨g,j*4+1,none⟩ (.int .i64 e.n)).setCell ⟨g,j*4+2,none⟩ (.string e.s)).setCell ⟨g,j*4+3,none⟩ (.slice e.A e.len e.cap)).ownsRow 0 25 4 (.slice (some ⟨g,0,none⟩) N c) N (vcells (es.set j e)):=by
 have h4:=((((((h.stored (j*4) (.int .i64 e.k)).1).stored (j*4+1) (.int .i64 e.n)).1).stored (j*4+2) (.string e.s)).1.stored (j*4+3) (.slice e.A e.len e.cap)).1
 have key:∀ (es:List VC) (j:Nat),j<es.length->((((vcells es).set (j*4) (.int .i64 e.k)).set (j*4+1) (.int .i64 e.n)).set (j*4+2) (.string e.s)).set (j*4+3) (.slice e.A e.len e.cap)=vcells (es.set j e):=by
  intro es
  induction es with
  |nil=>intro j hj;simp at hj
  |cons x es ih =>
   intro j hj
   have hx:vcells (x::es)=.int .i64 x.k::.int .i64 x.n::.string x.s::.slice x.A x.len x.cap::vcells es:=rfl
   cases j with
   |zero=>rw [hx];rfl
   |succ j =>
    have:=ih j (by simpa using hj)
    rw [hx,List.set_cons_succ]
    show _=.int .i64 x.k::.int .i64 x.n::.string x.s::.slice x.A x.len x.cap::vcells (es.set j e)
    rw [<- this,show(j+1)*4=j*4+1+1+1+1 from by omega]
    rfl
 rw [key es j hj] at h4
 exact h4
theorem own_set1 {W:World} {g c N j:Nat} {es:List VC} {x:VC} {A:Option Addr} {n cc:Nat} (h:W.ownsRow 0 25 4 (.slice (some ⟨g,0,none⟩) N c) N (vcells es)) (hx:es[j]?=some x) :
  (W.setCell ⟨g,j*4+3,none⟩ (.slice A n cc)).ownsRow 0 25 4 (.slice (some ⟨g,0,none⟩) N c) N (vcells (es.set j ⟨x.k,x.n,x.s,A,n,cc⟩)):=by
 have h4:=(h.stored (j*4+3) (.slice A n cc)).1
 have key:∀ (es:List VC) (j:Nat),es[j]?=some x->(vcells es).set (j*4+3) (.slice A n cc)=vcells (es.set j ⟨x.k,x.n,x.s,A,n,cc⟩):=by
  intro es
  induction es with
  |nil=>intro j hj;simp at hj
  |cons y es ih =>
   intro j hj
   have hy:vcells (y::es)=.int .i64 y.k::.int .i64 y.n::.string y.s::.slice y.A y.len y.cap::vcells es:=rfl
   cases j with
   |zero =>
    simp at hj
    subst hj
    rw [hy];rfl
   |succ j =>
    have:=ih j (by simpa using hj)
    rw [hy,show(j+1)*4+3=j*4+3+1+1+1+1 from by omega]
    show _=.int .i64 y.k::.int .i64 y.n::.string y.s::.slice y.A y.len y.cap::vcells (es.set j ⟨x.k,x.n,x.s,A,n,cc⟩)
    rw [<- this]
    rfl
 rw [key es j hx] at h4
 exact h4
theorem own_cells {W:World} {g c N j:Nat} {es:List VC} {e:VC} (h:W.ownsRow 0 25 4 (.slice (some ⟨g,0,none⟩) N c) N (vcells es)) (he:es[j]?=some e) :
  (W.cell? ⟨g,j*4,none⟩=some (.int .i64 e.k)/\W.cell? ⟨g,j*4+1,none⟩=some (.int .i64 e.n)/\W.cell? ⟨g,j*4+2,none⟩=some (.string e.s)/\W.cell? ⟨g,j*4+3,none⟩=some (.slice e.A e.len e.cap)) /\
  W.frozen? ⟨g,j*4,none⟩=false/\W.frozen? ⟨g,j*4+1,none⟩=false/\W.frozen? ⟨g,j*4+2,none⟩=false/\W.frozen? ⟨g,j*4+3,none⟩=false:=by
 have hl:es.length*4=N*4:=by rw [<- vcells_len];exact h.1
 have hj:j<es.length:=(List.getElem?_eq_some_iff.1 he).1
 have hc:∀ i,i<4->W.cell? ⟨g,j*4+i,none⟩=e.cells[i]?:=fun i hi=>by
  rw [World.ownsRow.cellAt h (j*4+i) (by omega)]
  exact vcells_at he hi
 exact⟨⟨hc 0 (by decide),hc 1 (by decide),hc 2 (by decide),hc 3 (by decide)⟩,h.frozenAt _,h.frozenAt _,h.frozenAt _,h.frozenAt _⟩
end Go.Proofs.YthejpkflcgjdoaaGreatDoor
