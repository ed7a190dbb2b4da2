/- Merged by program. -/
import Derived.Test.YthejpkflcgjdoaaGreatDoorE03
import Derived.Lib.LaidTab
import Derived.Lib.ItoaNum
import Derived.Lib.Repeat
import Derived.Sort.Grow
import Derived.BigRegion
import Derived.OwnWalk
import Derived.Deep.RegionHeld3
import Derived.Test.YthejpkflcgjdoaaGreatDoorRows
import Derived.MakeChecks
set_option linter.unusedVariables false
set_option linter.unusedSimpArgs false
namespace Go.Proofs.YthejpkflcgjdoaaGreatDoor
open Go.RowKit
structure LibOk (w:World):Prop where
 tab:Lib.TabIs Tryz.prog w "internal/strconv.uint64pow10" .u64 Lib.pow10Tab
 most:∃ m,w.cell? ⟨0,0,none⟩=some (.int .i64 m)
theorem cell_in {w:World} {a:Addr} {v:Value} (h:w.cell? a=some v):a.block<w.heap.size:=by
 rcases Nat.lt_or_ge a.block w.heap.size with h'|h'
 ·exact h'
 ·simp [World.cell?,Array.getElem?_eq_none h'] at h
theorem var_chg {P:Program} {w w':World} {n:String} {cs:Array Value} (h:w.var? P n=some cs) (hc:Chg NoS w w'):w'.var? P n=some cs:=by
 unfold World.var? at h ⊢
 cases hg:P.globalNamed n with
 |none=>simp [hg] at h
 |some g =>
  simp only [hg,Option.bind_some] at h ⊢
  have hlt:g<w.heap.size:=by
   rcases Nat.lt_or_ge g w.heap.size with h'|h'
   ·exact h'
   ·simp [Array.getElem?_eq_none h'] at h
  rw [hc.block g hlt (fun h=>h)]
  exact h
theorem LibOk.chg {w w':World} (h:LibOk w) (hc:Chg NoS w w'):LibOk w':=by
 obtain⟨m,hm⟩:=h.most
 exact⟨var_chg h.tab hc,m,(hc.cell (cell_in hm) (fun h=>h)).trans hm⟩
theorem chg_grow {w:World} (k:Nat) (os:Array Obj):Chg NoS w (Go.Sort.grow (w.drewN k) os) :=
 ⟨rfl,rfl,rfl,by rw [Go.Sort.size_grow];exact Nat.le_add_right _ _,fun i hi _=>Go.Sort.heap_grow_old _ _ hi⟩
theorem mk_sb (l:List UInt8):(⟨l.toArray⟩:ByteArray)=sb (l.map UInt8.toNat):=by
 unfold sb
 rw [List.map_map]
 have e:(UInt8.ofNat ∘ UInt8.toNat)=id:=by funext x;simp
 rw [e,List.map_id]
theorem of_dig (d:Nat) (h:d<10):(UInt8.ofNat (48+d)).toNat=48+d:=by
 simp
 omega
theorem dec_txt (u:Nat):(Lib.decDigits u).map UInt8.toNat=txt u 1:=by
 induction u using Nat.strongRecOn with
 |_ u ih =>
  rw [Lib.decDigits]
  by_cases h:u<10
  ·rw [dif_pos h,List.map_cons,List.map_nil,of_dig u h]
   by_cases h0:u=0
   ·subst h0;rw [txt,dn_0];rfl
   ·rw [txt,dn_s h0,show u / 10=0 from by omega,dn_0,show u%10=u from by omega]
    rfl
  ·rw [dif_neg h,List.map_append,ih (u / 10) (by omega),List.map_cons,List.map_nil,of_dig _ (by omega),txt_step u 1 (.inl (by omega))]
   rw [txt,txt]
   congr 1
   have h1:=dn_more (n:=u / 10) (k:=0) (by simp;omega)
   rw [show 1-(dn (u / 10)).length=0 from by omega,show 1-1-(dn (u / 10)).length=0 from by omega]
theorem itoa_pos (n:Int) (h:0<=n):(⟨(Lib.itoa n).toArray⟩:ByteArray)=sb (txt n.toNat 1):=by
 unfold Lib.itoa
 rw [if_neg (by omega),mk_sb,dec_txt]
theorem rep_zero:∀ c,Lib.repeatL [48] c=List.replicate c 48
 |0=>rfl
 |c+1=>by rw [Lib.repeatL,rep_zero c,List.replicate_succ];rfl
theorem rep_sb (c:Nat):(⟨(Lib.repeatL [48] c).toArray⟩:ByteArray)=sb (List.replicate c 48):=by
 rw [mk_sb,rep_zero,List.map_replicate]
 rfl
def cutB (c:Nat):List Nat->List Nat × List Nat × Bool
 |[]=>([],[],false)
 |x::l=>if x=c then([],l,true) else(x::(cutB c l).1,(cutB c l).2.1,(cutB c l).2.2)
theorem cutB_at (c:UInt8):∀ (l:List UInt8),(Lib.indexByte l c=-1/\cutB c.toNat (l.map UInt8.toNat)=(l.map UInt8.toNat,[],false)) \/
  ∃ i:Nat,Lib.indexByte l c=i/\i<l.length/\cutB c.toNat (l.map UInt8.toNat)=((l.map UInt8.toNat).take i,(l.map UInt8.toNat).drop (i+1),true):=by
 intro l
 induction l with
 |nil=>exact .inl ⟨rfl,rfl⟩
 |cons x l ih =>
  rw [List.map_cons,cutB,Lib.indexByte]
  by_cases h:x=c
  ·subst h
   exact .inr ⟨0,by simp,by simp,by simp⟩
  ·have h2:¬x.toNat=c.toNat:=fun h2=>h (UInt8.toNat_inj.1 h2)
   have h3:(x==c)=false:=by simpa using h
   rw [if_neg h2]
   rcases ih with⟨h4,h5⟩|⟨i,h4,h5,h6⟩
   ·refine .inl ⟨?_,by rw [h5]⟩
    simp [h3,h4]
   ·refine .inr ⟨i+1,?_,by simpa using h5,by rw [h6];simp⟩
    simp [h3,h4]
theorem cutB_take {l:List Nat} (n:Nat):(sb l).extract 0 n=sb (l.take n):=by
 unfold sb
 apply ByteArray.ext
 rw [ByteArray.data_extract]
 simp [List.map_take]
theorem cutB_drop {l:List Nat} (n m:Nat) (h:l.length=m):(sb l).extract n m=sb (l.drop n):=by
 unfold sb
 apply ByteArray.ext
 rw [ByteArray.data_extract]
 simp only [List.extract_toArray,List.extract_eq_take_drop,List.map_drop]
 congr 1
 exact List.take_of_length_le (by rw [List.length_drop,List.length_map];omega)
set_option maxHeartbeats 1000000 in
theorem cutI_any (c:UInt8) (m:List Nat) (hb:∀ d∈m,d<256) (hl:m.length<=1000000) (w:World) :
  Calls Tryz.prog 227 #[.string (sb m),.string ⟨#[c]⟩] w fun e w'=>e=.returned (.tuple #[.string (sb (cutB c.toNat m).1),.string (sb (cutB c.toNat m).2.1),.bool (cutB c.toNat m).2.2])/\Chg NoS w w':=by
 have hm:(sb m).data.toList.map UInt8.toNat=m:=sl_sb m hb
 have HC:=kf (cutB_at c (sb m).data.toList)
 have HI:=kf (fun W=>Go.Proofs.Tryz.stringslite_Index_one (sb m) c W)
 rw [hm] at HC
 obtain⟨z,hz⟩:∃ z,Lib.indexByte (sb m).data.toList c=z:=⟨_,rfl⟩
 rw [hz] at HC HI
 have hlen:(sb m).data.toList.length=m.length:=by rw [<- List.length_map (f:=UInt8.toNat),hm]
 rw [hlen] at HC
 obtain⟨n,hn⟩:∃ n,m.length=n:=⟨_,rfl⟩
 have hs:(sb m).size=n:=by rw [sb_size,hn]
 obtain⟨t,ht⟩:∃ t,sb m=t:=⟨_,rfl⟩
 rcases HC.out with⟨rfl,h2⟩|⟨i,rfl,hi,h2⟩
 ·have HE:=kf h2
  rw [ht] at HI ⊢
  have HT:=kf ht
  clear HC h2 hm hz hlen ht
  go_enter Tryz.func227,Tryz.ntmps227
  go_wp2_with (go_at_call 180;refine(HI.out _).mono ?_;rintro e w2 ⟨rfl,rfl⟩)
  go_ret3
  rw [HE.out]
  exact⟨by rw [show(m,([]:List Nat),false).1=m from rfl,HT.out];rfl,Chg.refl _ _⟩
 ·have HE:=kf h2
  have e1:=cutB_take (l:=m) i
  have e2:=cutB_drop (l:=m) (i+1) n hn
  obtain⟨a,ha⟩:∃ a,sb (m.take i)=a:=⟨_,rfl⟩
  obtain⟨b,hb2⟩:∃ b,sb (m.drop (i+1))=b:=⟨_,rfl⟩
  rw [ht] at HI hs e1 e2 ⊢
  rw [ha] at e1
  rw [hb2] at e2
  rw [hn] at hi hl
  have i1:(i:Int)<=n:=by omega
  have i2:(i:Int)+1<=n:=by omega
  have i3:(0:Int)<=(i:Int)+1:=by omega
  have i4:i<=n:=by omega
  have i5:i+1<=n:=by omega
  have i6:((i:Int)+1).toNat=i+1:=by omega
  have d1:decide ((0:Int)<=i)=true:=by simp
  have k1:IntKind.i64.wrap ((i:Int)+1)=(i:Int)+1:=by rw [IntKind.wrap_i64];omega
  have HA:=kf ha
  have HB:=kf hb2
  clear HC h2 hm hz hlen ht hi ha hb2 hn hb
  go_enter Tryz.func227,Tryz.ntmps227
  go_upto_region 3 with(go_at_call 180;refine(HI.out _).mono ?_;rintro e w2 ⟨rfl,rfl⟩)
  go_quiet (fail)
  go_wp2_with fail
  go_ret3
  rw [HE.out]
  exact⟨by rw [show(m.take i,m.drop (i+1),true).1=m.take i from rfl,show(m.take i,m.drop (i+1),true).2.1=m.drop (i+1) from rfl,HA.out,HB.out];rfl,(Chg.refl _ _).drewN nq⟩
theorem cutF_any (c:UInt8) (m:List Nat) (hb:∀ d∈m,d<256) (hl:m.length<=1000000) (w:World) :
  Calls Tryz.prog 210 #[.string (sb m),.string ⟨#[c]⟩] w fun e w'=>e=.returned (.tuple #[.string (sb (cutB c.toNat m).1),.string (sb (cutB c.toNat m).2.1),.bool (cutB c.toNat m).2.2])/\Chg NoS w w':=by
 have H:=kf (fun W=>cutI_any c m hb hl W)
 obtain⟨t,ht⟩:∃ t,sb m=t:=⟨_,rfl⟩
 obtain⟨a,ha⟩:∃ a,sb (cutB c.toNat m).1=a:=⟨_,rfl⟩
 obtain⟨b,hb2⟩:∃ b,sb (cutB c.toNat m).2.1=b:=⟨_,rfl⟩
 obtain⟨f,hf⟩:∃ f,(cutB c.toNat m).2.2=f:=⟨_,rfl⟩
 rw [ht,ha,hb2,hf] at H
 rw [ht,ha,hb2,hf]
 clear ht ha hb2 hf hb hl
 go_enter Tryz.func210,Tryz.ntmps210
 go_wp2_with (go_at_call 227;refine(H.out _).mono ?_;rintro e w2 ⟨rfl,hc2⟩;have HC2:=kf hc2;clear hc2)
 go_ret3
 exact⟨rfl,HC2.out⟩
def prOf (k n:Int) (sz len:Nat):List Nat × Int:=if chkOf k n sz len=0 then(if k=2 then intTxt n else realTxt n,0) else([],2)
theorem sb_at {l:List Nat} (hb:∀ d∈l,d<256) (k:Nat) (h:k<(sb l).size):((sb l)[k]'h).toNat=l.getD k 0:=by
 rw [sl_at,sl_sb l hb]
theorem sb_take (l:List Nat) (m:Nat):(sb l).extract 0 m=sb (l.take m):=by
 unfold sb
 apply ByteArray.ext
 rw [ByteArray.data_extract]
 simp [List.map_take]
theorem last_at {l:List Nat} {n x:Nat} (hn:l.length=n+1) (hx:l.getD n 0=x):l.getLast?=some x:=by
 rw [List.getLast?_eq_getElem?,hn,Nat.add_sub_cancel]
 rw [List.getD_eq_getElem?_getD,List.getElem?_eq_getElem (by omega)] at hx
 rw [List.getElem?_eq_getElem (by omega)]
 exact congrArg some hx
theorem trimZ_yes {k n:Nat} {l:List Nat} (hn:l.length=n+1) (hx:l.getD n 0=48):trimZ (k+1) l=trimZ k (l.take n):=by
 rw [trimZ,if_pos (last_at hn hx),List.dropLast_eq_take,hn,Nat.add_sub_cancel]
theorem trimZ_no {k n:Nat} {l:List Nat} (hn:l.length=n+1) (hx:l.getD n 0≠48):trimZ k l=l:=by
 rcases k with _|k
 ·rfl
 ·rw [trimZ,if_neg]
  intro h
  have h2:=last_at hn rfl
  rw [h] at h2
  injection h2 with h2
  exact hx h2.symm
theorem dig_lt {l:List Nat} (h:∀ d∈l,isD d):∀ d∈l,d<256:=fun d hd=>by
 have:=h d hd
 unfold isD at this
 omega
def PrTo (w:World) (k n:Int) (sz len:Nat) (e:Ending) (w':World):Prop:=e=.returned (.tuple #[.string (sb (prOf k n sz len).1),.int .i64 (prOf k n sz len).2])/\Chg NoS w w'
theorem PrTo.of {w w':World} {k n:Int} {sz len:Nat} {l:List Nat} {z:Int} {t:ByteArray} (h:prOf k n sz len=(l,z)) (ht:t=sb l) (hc:Chg NoS w w'):PrTo w k n sz len (.returned (.tuple #[.string t,.int .i64 z])) w':=by
 unfold PrTo
 rw [h,ht]
 exact⟨rfl,hc⟩
set_option maxHeartbeats 2000000 in
set_option maxRecDepth 100000 in
theorem rprint_any (k n:Int) (s:ByteArray) (A:Option Addr) (len cap:Nat) (w:World) :
  Calls Tryz.prog 48 #[.agg #[.int .i64 k,.int .i64 n,.string s,.slice A len cap]] w (PrTo w k n s.size len):=by
 have HK:=kf (fun W=>rchk_any k n s A len cap W)
 have HB:=kf (Blk.new w 25 #[.int .i64 k,.int .i64 n,.string s,.slice A len cap])
 have HA:=kf ((Chg.refl NoS w).alloc (.cells #[.int .i64 k,.int .i64 n,.string s,.slice A len cap] 25))
 by_cases hc:chkOf k n s.size len=0
 ·have hmay:mayN k n:=by
   unfold chkOf at hc
   split at hc
   ·rename_i h
    exact h.2.2
   ·cases hc
  have HP:Hid (prOf k n s.size len=(if k=2 then intTxt n else realTxt n,0)):=if_pos hc
  rw [hc] at HK
  obtain⟨sz,hsz⟩:∃ sz,sz=s.size:=⟨_,rfl⟩
  rw [<- hsz] at HP ⊢
  obtain⟨q,hq⟩:∃ q,q=n.natAbs:=⟨_,rfl⟩
  have hq2:q<=2147483647000000:=by unfold mayN at hmay;omega
  have HQ:=kf hq
  have HT1:=kf (fun(W:World)=>rtext_any q 1 W (by omega) (by omega) (by decide))
  obtain⟨s1,hs1⟩:∃ s1,s1=sb (txt q 1):=⟨_,rfl⟩
  have hl1:s1.size<=20:=by
   rw [hs1,sb_size,txt_len]
   have:=dn_len (n:=q) (k:=20) (by omega)
   omega
  rw [<- hs1] at HT1
  have HS1:=kf hs1
  obtain⟨l1,hll1⟩:∃ l1,s1.size=l1:=⟨_,rfl⟩
  rw [hll1] at hl1
  -- the whole part,and the millionths
  obtain⟨r,hr⟩:∃ r,r=q / 1000000:=⟨_,rfl⟩
  obtain⟨m,hm⟩:∃ m,m=q%1000000:=⟨_,rfl⟩
  have er:(q:Int) / 1000000=(r:Int):=by omega
  have em:(q:Int)%1000000=(m:Int):=by omega
  have HRM:=kf (⟨hr,hm⟩:r=q / 1000000/\m=q%1000000)
  have hmm:m<1000000:=by omega
  have hrr:r<=2147483647:=by omega
  have HT6:=kf (fun(W:World)=>rtext_any m 6 W (by omega) (by omega) (by decide))
  have HTR:=kf (fun(W:World)=>rtext_any r 1 W (by omega) (by omega) (by decide))
  obtain⟨s2,hs2⟩:∃ s2,s2=sb (txt r 1):=⟨_,rfl⟩
  have hl2:s2.size<=20:=by
   rw [hs2,sb_size,txt_len]
   have:=dn_len (n:=r) (k:=20) (by omega)
   omega
  rw [<- hs2] at HTR
  have HS2:=kf hs2
  obtain⟨l2,hll2⟩:∃ l2,s2.size=l2:=⟨_,rfl⟩
  rw [hll2] at hl2
  obtain⟨s6,hs6⟩:∃ s6,s6=sb (txt m 6):=⟨_,rfl⟩
  rw [<- hs6] at HT6
  have HS6:=kf hs6
  have h66:(txt m 6).length=6:=by
   rw [txt_len]
   have:=dn_len (n:=m) (k:=6) (by omega)
   omega
  have H66:=kf h66
  clear hc hsz hq hs1 hr hm hs2 hs6 h66
  have HMAY:=kf hmay
  by_cases hn:n<0
  ·have d1:decide (n<0)=true:=by simpa using hn
   have en:0-n=(q:Int):=by have:=HQ.out;omega
   have en2:-n=(q:Int):=by have:=HQ.out;omega
   have HSG:Hid (signL n=[45]):=if_pos hn
   clear hmay hn
   by_cases h2:k=2
   ·subst h2
    rw [if_pos rfl] at HP
    have HFIN:Hid ((ByteArray.mk #[45])++s1=sb (intTxt n)):=by
     show _=_
     rw [HS1.out,intTxt,HSG.out,<- HQ.out,<- sb_app]
     rfl
    go_enter Tryz.func48,Tryz.ntmps48
    go_wp2_with (first
     |(go_at_call 84;refine(HK.out _).mono ?_;rintro e w2 ⟨rfl,hc2⟩;have hb:=HB.out.chg hc2 (fun e=>e);have c0:=hb.cell 0;have c1:=hb.cell 1;simp at c0 c1;have HC2:=kf (HA.out.trans hc2 (fun _ _ e=>e));clear hc2 hb)
     |(go_at_call 63;refine(HT1.out _).mono ?_;rintro e w' ⟨rfl,rfl⟩))
    go_ret2
    exact PrTo.of HP.out HFIN.out HC2.out
   ·have u2:(k==2)=false:=by simpa using h2
    rw [if_neg h2] at HP
    clear h2
    have HFIN:=kf (fun(t:ByteArray) (S:List Nat) (h1:t=sb S) (h2:trimZ 5 (txt m 6)=S)=>(show((ByteArray.mk #[45]++s2)++ByteArray.mk #[46])++t=sb (realTxt n) by
     rw [h1,HS2.out,realTxt,HSG.out,<- HQ.out,<- HRM.out.1,<- HRM.out.2,h2]
     rw [show(ByteArray.mk #[46])=sb [46] from rfl,show(ByteArray.mk #[45])=sb [45] from rfl,sb_app,sb_app,sb_app]
     simp))
    go_enter Tryz.func48,Tryz.ntmps48
    go_wp2_with (first
     |(go_at_call 84;refine(HK.out _).mono ?_;rintro e w2 ⟨rfl,hc2⟩;have hb:=HB.out.chg hc2 (fun e=>e);have c0:=hb.cell 0;have c1:=hb.cell 1;simp at c0 c1;have HC2:=kf (HA.out.trans hc2 (fun _ _ e=>e));clear hc2 hb)
     |(go_at_call 63;refine(HT6.out _).mono ?_;rintro e w' ⟨rfl,rfl⟩))
    go_loop [6,7] (fun vs vk=>∃ (j g h:Nat) (t:ByteArray),j<=5/\g<=6/\t.size=g/\vs=.string t/\vk=.int .i64 (j:Nat)/\Hid (g=h+1/\h=5-j/\∃ S:List Nat,t=sb S/\(∀ d∈S,isD d)/\trimZ 5 (txt m 6)=trimZ (5-j) S)) (fun _ vk=>5-(intOf vk).toNat)
    case atStart=>exact⟨0,6,5,s6,by omega,by omega,by rw [HS6.out,sb_size,H66.out],rfl,by go_num,⟨rfl,rfl,txt m 6,HS6.out,txt_dig m 6,rfl⟩⟩
    case round =>
     obtain⟨j,g,h,t,hj,hg6,hg,rfl,rfl,HT⟩:=hrel
     have eg:(g:Int)-1=(h:Int):=by have:=HT.out.1;omega
     have hgh:h<g:=by have:=HT.out.1;omega
     have hih:(h:Int)<g:=by omega
     obtain⟨x,hx⟩:∃ x:Nat,∀ hh:h<t.size,(t[h]'hh).toNat=x:=⟨(t[h]'(by omega)).toNat,fun _=>rfl⟩
     have HX:Hid (∀ S:List Nat,t=sb S->(∀ d∈S,isD d)->S.length=h+1/\S.getD h 0=x):=by
      intro S h1 h3
      subst h1
      have h4:=hx (by omega)
      rw [sb_at (dig_lt h3)] at h4
      rw [sb_size] at hg
      exact⟨by rw [hg];exact HT.out.1,h4⟩
     have HEX:Hid (∀ S:List Nat,t=sb S->t.extract 0 h=sb (S.take h)):=fun S h1=>by rw [h1,sb_take]
     by_cases h5:j<5
     ·by_cases h48:x=48
      ·subst h48
       have HNX:Hid (∃ S:List Nat,t.extract 0 h=sb S/\(∀ d∈S,isD d)/\S.length=h/\trimZ 5 (txt m 6)=trimZ (5-(j+1)) S):=by
        obtain⟨_,_,S,h1,h3,h4⟩:=HT.out
        obtain⟨h6,h7⟩:=HX.out S h1 h3
        refine⟨S.take h,HEX.out S h1,fun d hd=>h3 d (List.mem_of_mem_take hd),by rw [List.length_take];omega,?_⟩
        rw [h4,show 5-j=5-(j+1)+1 from by omega,trimZ_yes h6 h7]
       go_wp2_with fail
       go_round
       case rel =>
        obtain⟨S,h1,h3,h4,h6⟩:=HNX.out
        have h7:=HT.out.2.1
        exact⟨j+1,h,h-1,t.extract 0 h,by omega,by omega,by rw [h1,sb_size,h4],rfl,by go_num,⟨by omega,by omega,S,h1,h3,h6⟩⟩
       case measure=>simp [intOf];omega
      ·have u48:((x:Int)==48)=false:=by simp;omega
       have HEND:Hid (((ByteArray.mk #[45]++s2)++ByteArray.mk #[46])++t=sb (realTxt n)):=by
        obtain⟨_,_,S,h1,h3,h4⟩:=HT.out
        obtain⟨h6,h7⟩:=HX.out S h1 h3
        exact HFIN.out t S h1 (by rw [h4];exact trimZ_no h6 (by rw [h7];exact h48))
       clear h48
       go_wp2_with (go_at_call 63;refine(HTR.out _).mono ?_;rintro e w' ⟨rfl,rfl⟩)
       go_ret2
       exact PrTo.of HP.out HEND.out HC2.out
     ·have HEND:Hid (((ByteArray.mk #[45]++s2)++ByteArray.mk #[46])++t=sb (realTxt n)):=by
       obtain⟨_,_,S,h1,h3,h4⟩:=HT.out
       exact HFIN.out t S h1 (by rw [h4,show 5-j=0 from by omega];rfl)
      have d5:decide ((j:Int)<5)=false:=by simp;omega
      have d5':decide (j<5)=false:=by simp;omega
      go_wp2_with (go_at_call 63;refine(HTR.out _).mono ?_;rintro e w' ⟨rfl,rfl⟩)
      go_ret2
      exact PrTo.of HP.out HEND.out HC2.out
  ·obtain rfl:n=(q:Int):=by have:=HQ.out;omega
   have d1:decide ((q:Int)<0)=false:=by simp
   have HSG:Hid (signL (q:Nat)=[]):=if_neg hn
   clear hmay hn
   by_cases h2:k=2
   ·subst h2
    rw [if_pos rfl] at HP
    have HFIN:Hid ((ByteArray.mk #[])++s1=sb (intTxt (q:Nat))):=by
     show _=_
     rw [HS1.out,intTxt,HSG.out,<- HQ.out,<- sb_app]
     rfl
    go_enter Tryz.func48,Tryz.ntmps48
    go_wp2_with (first
     |(go_at_call 84;refine(HK.out _).mono ?_;rintro e w2 ⟨rfl,hc2⟩;have hb:=HB.out.chg hc2 (fun e=>e);have c0:=hb.cell 0;have c1:=hb.cell 1;simp at c0 c1;have HC2:=kf (HA.out.trans hc2 (fun _ _ e=>e));clear hc2 hb)
     |(go_at_call 63;refine(HT1.out _).mono ?_;rintro e w' ⟨rfl,rfl⟩))
    go_ret2
    exact PrTo.of HP.out HFIN.out HC2.out
   ·have u2:(k==2)=false:=by simpa using h2
    rw [if_neg h2] at HP
    clear h2
    have HFIN:=kf (fun(t:ByteArray) (S:List Nat) (h1:t=sb S) (h2:trimZ 5 (txt m 6)=S)=>(show((ByteArray.mk #[]++s2)++ByteArray.mk #[46])++t=sb (realTxt (q:Nat)) by
     rw [h1,HS2.out,realTxt,HSG.out,<- HQ.out,<- HRM.out.1,<- HRM.out.2,h2]
     rw [show(ByteArray.mk #[46])=sb [46] from rfl,show(ByteArray.mk #[])=sb [] from rfl,sb_app,sb_app,sb_app]
     simp))
    go_enter Tryz.func48,Tryz.ntmps48
    go_wp2_with (first
     |(go_at_call 84;refine(HK.out _).mono ?_;rintro e w2 ⟨rfl,hc2⟩;have hb:=HB.out.chg hc2 (fun e=>e);have c0:=hb.cell 0;have c1:=hb.cell 1;simp at c0 c1;have HC2:=kf (HA.out.trans hc2 (fun _ _ e=>e));clear hc2 hb)
     |(go_at_call 63;refine(HT6.out _).mono ?_;rintro e w' ⟨rfl,rfl⟩))
    go_loop [6,7] (fun vs vk=>∃ (j g h:Nat) (t:ByteArray),j<=5/\g<=6/\t.size=g/\vs=.string t/\vk=.int .i64 (j:Nat)/\Hid (g=h+1/\h=5-j/\∃ S:List Nat,t=sb S/\(∀ d∈S,isD d)/\trimZ 5 (txt m 6)=trimZ (5-j) S)) (fun _ vk=>5-(intOf vk).toNat)
    case atStart=>exact⟨0,6,5,s6,by omega,by omega,by rw [HS6.out,sb_size,H66.out],rfl,by go_num,⟨rfl,rfl,txt m 6,HS6.out,txt_dig m 6,rfl⟩⟩
    case round =>
     obtain⟨j,g,h,t,hj,hg6,hg,rfl,rfl,HT⟩:=hrel
     have eg:(g:Int)-1=(h:Int):=by have:=HT.out.1;omega
     have hgh:h<g:=by have:=HT.out.1;omega
     have hih:(h:Int)<g:=by omega
     obtain⟨x,hx⟩:∃ x:Nat,∀ hh:h<t.size,(t[h]'hh).toNat=x:=⟨(t[h]'(by omega)).toNat,fun _=>rfl⟩
     have HX:Hid (∀ S:List Nat,t=sb S->(∀ d∈S,isD d)->S.length=h+1/\S.getD h 0=x):=by
      intro S h1 h3
      subst h1
      have h4:=hx (by omega)
      rw [sb_at (dig_lt h3)] at h4
      rw [sb_size] at hg
      exact⟨by rw [hg];exact HT.out.1,h4⟩
     have HEX:Hid (∀ S:List Nat,t=sb S->t.extract 0 h=sb (S.take h)):=fun S h1=>by rw [h1,sb_take]
     by_cases h5:j<5
     ·by_cases h48:x=48
      ·subst h48
       have HNX:Hid (∃ S:List Nat,t.extract 0 h=sb S/\(∀ d∈S,isD d)/\S.length=h/\trimZ 5 (txt m 6)=trimZ (5-(j+1)) S):=by
        obtain⟨_,_,S,h1,h3,h4⟩:=HT.out
        obtain⟨h6,h7⟩:=HX.out S h1 h3
        refine⟨S.take h,HEX.out S h1,fun d hd=>h3 d (List.mem_of_mem_take hd),by rw [List.length_take];omega,?_⟩
        rw [h4,show 5-j=5-(j+1)+1 from by omega,trimZ_yes h6 h7]
       go_wp2_with fail
       go_round
       case rel =>
        obtain⟨S,h1,h3,h4,h6⟩:=HNX.out
        have h7:=HT.out.2.1
        exact⟨j+1,h,h-1,t.extract 0 h,by omega,by omega,by rw [h1,sb_size,h4],rfl,by go_num,⟨by omega,by omega,S,h1,h3,h6⟩⟩
       case measure=>simp [intOf];omega
      ·have u48:((x:Int)==48)=false:=by simp;omega
       have HEND:Hid (((ByteArray.mk #[]++s2)++ByteArray.mk #[46])++t=sb (realTxt (q:Nat))):=by
        obtain⟨_,_,S,h1,h3,h4⟩:=HT.out
        obtain⟨h6,h7⟩:=HX.out S h1 h3
        exact HFIN.out t S h1 (by rw [h4];exact trimZ_no h6 (by rw [h7];exact h48))
       clear h48
       go_wp2_with (go_at_call 63;refine(HTR.out _).mono ?_;rintro e w' ⟨rfl,rfl⟩)
       go_ret2
       exact PrTo.of HP.out HEND.out HC2.out
     ·have HEND:Hid (((ByteArray.mk #[]++s2)++ByteArray.mk #[46])++t=sb (realTxt (q:Nat))):=by
       obtain⟨_,_,S,h1,h3,h4⟩:=HT.out
       exact HFIN.out t S h1 (by rw [h4,show 5-j=0 from by omega];rfl)
      have d5:decide ((j:Int)<5)=false:=by simp;omega
      have d5':decide (j<5)=false:=by simp;omega
      go_wp2_with (go_at_call 63;refine(HTR.out _).mono ?_;rintro e w' ⟨rfl,rfl⟩)
      go_ret2
      exact PrTo.of HP.out HEND.out HC2.out
 ·have HP:Hid (prOf k n s.size len=([],2)):=if_neg hc
  obtain⟨z,hz⟩:∃ z,z=chkOf k n s.size len:=⟨_,rfl⟩
  rw [<- hz] at HK hc
  obtain⟨sz,hsz⟩:∃ sz,sz=s.size:=⟨_,rfl⟩
  rw [<- hsz] at HP ⊢
  have v1:(z==0)=false:=by simpa using hc
  have v2:(z != 0)=true:=by simpa using hc
  clear hz hsz hc
  go_enter Tryz.func48,Tryz.ntmps48
  go_wp2_with (go_at_call 84;refine(HK.out _).mono ?_;rintro e w2 ⟨rfl,hc2⟩;have HC2:=kf (HA.out.trans hc2 (fun _ _ e=>e));clear hc2)
  go_ret2
  exact PrTo.of HP.out rfl HC2.out
theorem itoa_any (n:Nat) (hn:n<=9223372036854775807) (w:World) (h:LibOk w) :
  Calls Tryz.prog 100 #[.int .i64 (n:Nat)] w fun e w'=>e=.returned (.string (sb (txt n 1)))/\Chg NoS w w' :=
 (Go.Proofs.Tryz.strconv_Itoa (n:Int) (by omega) (by omega) w h.tab).mono fun e w' hh=>by
  obtain⟨he,k,os,rfl⟩:=hh
  refine⟨?_,chg_grow k os⟩
  rw [he,itoa_pos _ (by omega)]
  rfl
theorem rep_any (c:Nat) (hc:c<=1000) (w:World) :
  Calls Tryz.prog 101 #[.string ⟨#[48]⟩,.int .i64 (c:Nat)] w fun e w'=>e=.returned (.string (sb (List.replicate c 48)))/\Chg NoS w w' :=
 (Go.Proofs.Tryz.strings_Repeat ⟨#[48]⟩ c w (by omega) (by show 1*c<=_;omega)).mono fun e w' hh=>by
  obtain⟨he,hb⟩:=hh
  refine⟨?_,Chg.of_below hb⟩
  rw [he]
  show Ending.returned (Value.string ⟨(Lib.repeatL [48] c).toArray⟩)=_
  rw [rep_sb]
theorem txt_pad (n d:Nat) (h:1<=d):List.replicate (d-(txt n 1).length) 48++txt n 1=txt n d:=by
 by_cases h0:n=0
 ·subst h0
  rw [txt,txt,dn_0]
  simp only [List.length_nil,Nat.sub_zero,List.append_nil,List.length_replicate,List.replicate_append_replicate]
  rw [show d-1+(1-0)=d from by omega]
 ·have h1:=dn_more (n:=n) (k:=0) (by simp;omega)
  rw [txt,txt,show 1-(dn n).length=0 from by omega]
  rfl
set_option maxHeartbeats 1000000 in
theorem padded_any (n d:Nat) (hn:n<=9223372036854775807) (hd:1<=d/\d<=20) (w:World) (hL:LibOk w) :
  Calls Tryz.prog 62 #[.int .i64 (n:Nat),.int .i64 (d:Nat)] w fun e w'=>e=.returned (.string (sb (txt n d)))/\Chg NoS w w':=by
 obtain⟨L,hLn⟩:∃ L,(txt n 1).length=L:=⟨_,rfl⟩
 have hL20:L<=100:=by
  have h1:(dn n).length<=19:=dn_len (by omega)
  rw [<- hLn,txt_len]
  omega
 obtain⟨t,ht⟩:∃ t,sb (txt n 1)=t:=⟨_,rfl⟩
 have hts:t.size=L:=by rw [<- ht,sb_size,hLn]
 obtain⟨c,hc⟩:∃ c:Nat,d-L=c:=⟨_,rfl⟩
 have e1:max (0:Int) ((d:Int)-(L:Int))=(c:Int):=by omega
 obtain⟨r,hr⟩:∃ r,sb (List.replicate c 48)=r:=⟨_,rfl⟩
 have hrs:r.size=c:=by rw [<- hr,sb_size,List.length_replicate]
 have HI:=kf (itoa_any n hn w hL)
 have HR:=kf (fun W=>rep_any c (by omega) W)
 rw [ht] at HI
 rw [hr] at HR
 have HE:Hid (r++t=sb (txt n d)):=by
  show _=_
  rw [<- hr,<- ht,sb_app,<- hc,<- hLn,txt_pad n d hd.1]
 have hc20:c<=20:=by omega
 clear hL hLn ht hr
 have HCD:=kf hc
 clear hc
 go_enter Tryz.func62,Tryz.ntmps62
 go_wp2_with first|(go_at_call 100;refine HI.out.mono ?_;rintro e w2 ⟨rfl,hc2⟩;have HC2:=kf hc2;clear hc2)|(go_at_call 101;refine(HR.out _).mono ?_;rintro e w3 ⟨rfl,hc3⟩;have HC3:=kf (HC2.out.trans hc3 (fun _ _ h=>h));clear hc3)
 go_ret
 rw [<- HE.out]
 exact⟨rfl,HC3.out⟩
set_option maxHeartbeats 1000000 in
theorem pad_any (n d:Int) (w:World) (h0:-9223372036854775808<=n/\n<=9223372036854775807) (h1:-9223372036854775808<=d/\d<=9223372036854775807) (hL:LibOk w) :
  Calls Tryz.prog 30 #[.int .i64 n,.int .i64 d] w fun e w'=>e=.returned (.tuple #[.string (sb (padOf n d).1),.int .i64 (padOf n d).2])/\Chg NoS w w':=by
 by_cases c1:n<0
 ·have HB:Hid (padOf n d=([],2)):=pad_bad (.inl c1)
  have d1:decide (n<0)=true:=by simpa using c1
  clear c1 h0 h1
  go_enter Tryz.func30,Tryz.ntmps30
  go_wp2_with fail
  go_ret2
  rw [HB.out]
  exact⟨rfl,Chg.refl _ _⟩
 ·have d1:decide (n<0)=false:=by simpa using c1
  by_cases c2:d<1
  ·have HB:Hid (padOf n d=([],2)):=pad_bad (.inr (.inl c2))
   have d2:decide (d<1)=true:=by simpa using c2
   clear c1 c2 h0 h1
   go_enter Tryz.func30,Tryz.ntmps30
   go_wp2_with fail
   go_ret2
   rw [HB.out]
   exact⟨rfl,Chg.refl _ _⟩
  ·have d2:decide (d<1)=false:=by simpa using c2
   by_cases c3:20<d
   ·have HB:Hid (padOf n d=([],2)):=pad_bad (.inr (.inr (.inl c3)))
    have d3:decide (20<d)=true:=by simpa using c3
    clear c1 c2 c3 h0 h1
    go_enter Tryz.func30,Tryz.ntmps30
    go_wp2_with fail
    go_ret2
    rw [HB.out]
    exact⟨rfl,Chg.refl _ _⟩
   ·obtain⟨m,rfl⟩:∃ m:Nat,n=m:=⟨n.toNat,by omega⟩
    obtain⟨k,rfl⟩:∃ k:Nat,d=k:=⟨d.toNat,by omega⟩
    have d3:decide ((20:Int)<k)=false:=by simpa using c3
    have d3':decide (20<k)=false:=by simp;omega
    have d2':decide (k<1)=false:=by simp;omega
    have HP:=kf (padded_any m k (by omega) ⟨by omega,by omega⟩ w hL)
    obtain⟨t,ht⟩:∃ t,sb (txt m k)=t:=⟨_,rfl⟩
    obtain⟨L,hLn⟩:∃ L,(txt m k).length=L:=⟨_,rfl⟩
    have hts:t.size=L:=by rw [<- ht,sb_size,hLn]
    rw [ht] at HP
    have hL100:L<=100:=by
     have h1:(dn m).length<=19:=dn_len (by omega)
     rw [<- hLn,txt_len]
     omega
    by_cases c4:k<L
    ·have HB:Hid (padOf (m:Int) (k:Int)=([],2)):=pad_bad (.inr (.inr (.inr (by simp;omega))))
     have d4:decide ((k:Int)<L)=true:=by simp;omega
     have d4':decide (k<L)=true:=by simp;omega
     clear c1 c2 c3 c4 h0 h1 hL ht hLn
     go_enter Tryz.func30,Tryz.ntmps30
     go_wp2_with (go_at_call 62;refine HP.out.mono ?_;rintro e w2 ⟨rfl,hc2⟩;have HC2:=kf hc2;clear hc2)
     go_ret2
     rw [HB.out]
     exact⟨rfl,HC2.out⟩
    ·have HB:Hid (padOf (m:Int) (k:Int)=(txt m k,0)):=by
      show _=_
      unfold padOf
      rw [if_neg (by rintro(h|h|h|h)<;>first|omega|(simp at h;omega))]
      rfl
     have HT:=kf ht
     have d4:decide ((k:Int)<L)=false:=by simp;omega
     have d4':decide (k<L)=false:=by simp;omega
     clear c1 c2 c3 c4 h0 h1 hL ht hLn
     go_enter Tryz.func30,Tryz.ntmps30
     go_wp2_with (go_at_call 62;refine HP.out.mono ?_;rintro e w2 ⟨rfl,hc2⟩;have HC2:=kf hc2;clear hc2)
     go_ret2
     rw [HB.out]
     exact⟨by rw [show(txt m k,(0:Int)).1=txt m k from rfl,HT.out];rfl,HC2.out⟩
set_option maxHeartbeats 1000000 in
theorem chk_any (k n:Int) (s:ByteArray) (A:Option Addr) (len cap:Nat) (w:World) :
  Calls Tryz.prog 103 #[.agg #[.int .i64 k,.int .i64 n,.string s,.slice A len cap]] w fun e w'=>e=.returned (.int .i64 (chkOf k n s.size len))/\Chg NoS w w':=by
 by_cases h3:k=3
 ·subst h3
  by_cases c1:n < -2147483647000000
  ·have d1:decide (n < -2147483647000000)=true:=by simpa using c1
   have HZ:Hid (chkOf 3 n s.size len=2):=if_neg (fun h=>by have h:=h.2.2;unfold mayN at h;omega)
   clear c1
   go_enter Tryz.func103,Tryz.ntmps103
   go_wp2_with fail
   go_ret
   refine⟨?_,(Chg.refl NoS w).alloc _⟩
   rw [HZ.out]
   rfl
  ·have d1:decide (n < -2147483647000000)=false:=by simpa using c1
   by_cases c2:2147483647000000<n
   ·have d2:decide (2147483647000000<n)=true:=by simpa using c2
    have HZ:Hid (chkOf 3 n s.size len=2):=if_neg (fun h=>by have h:=h.2.2;unfold mayN at h;omega)
    clear c1 c2
    go_enter Tryz.func103,Tryz.ntmps103
    go_wp2_with fail
    go_ret
    refine⟨?_,(Chg.refl NoS w).alloc _⟩
    rw [HZ.out]
    rfl
   ·have d2:decide (2147483647000000<n)=false:=by simpa using c2
    by_cases hs:s.size=0
    ·obtain rfl:=str_nil hs
     by_cases hl:0<len
     ·have d3:decide (0<(len:Int))=true:=by simp;omega
      have d3':decide (0<len)=true:=by simp;omega
      have HZ:Hid (chkOf 3 n (ByteArray.mk #[]).size len=2):=if_neg (fun h=>by have h:=h.2.1;omega)
      clear c1 c2 hs hl
      go_enter Tryz.func103,Tryz.ntmps103
      go_wp2_with fail
      go_ret
      refine⟨?_,(Chg.refl NoS w).alloc _⟩
      show _=Ending.returned (Value.int IntKind.i64 (chkOf _ _ (ByteArray.mk #[]).size _))
      rw [HZ.out]
      rfl
     ·obtain rfl:len=0:=by omega
      have HZ:Hid (chkOf 3 n (ByteArray.mk #[]).size 0=0):=if_pos ⟨rfl,rfl,by unfold mayN;omega⟩
      clear c1 c2 hs hl
      go_enter Tryz.func103,Tryz.ntmps103
      go_wp2_with fail
      go_ret
      refine⟨?_,(Chg.refl NoS w).alloc _⟩
      show _=Ending.returned (Value.int IntKind.i64 (chkOf _ _ (ByteArray.mk #[]).size _))
      rw [HZ.out]
      rfl
    ·have u1:=str_ne hs
     have HZ:Hid (chkOf 3 n s.size len=2):=if_neg (fun h=>hs h.1)
     clear c1 c2 hs
     go_enter Tryz.func103,Tryz.ntmps103
     go_wp2_with fail
     go_ret
     refine⟨?_,(Chg.refl NoS w).alloc _⟩
     rw [HZ.out]
     rfl
 ·have u3:(k==3)=false:=by simpa using h3
  by_cases h2:k=2
  ·subst h2
   clear u3 h3
   by_cases c1:n < -2147483647
   ·have d1:decide (n < -2147483647)=true:=by simpa using c1
    have HZ:Hid (chkOf 2 n s.size len=2):=if_neg (fun h=>by have h:=h.2.2;unfold mayN at h;omega)
    clear c1
    go_enter Tryz.func103,Tryz.ntmps103
    go_wp2_with fail
    go_ret
    refine⟨?_,(Chg.refl NoS w).alloc _⟩
    rw [HZ.out]
    rfl
   ·have d1:decide (n < -2147483647)=false:=by simpa using c1
    by_cases c2:2147483647<n
    ·have d2:decide (2147483647<n)=true:=by simpa using c2
     have HZ:Hid (chkOf 2 n s.size len=2):=if_neg (fun h=>by have h:=h.2.2;unfold mayN at h;omega)
     clear c1 c2
     go_enter Tryz.func103,Tryz.ntmps103
     go_wp2_with fail
     go_ret
     refine⟨?_,(Chg.refl NoS w).alloc _⟩
     rw [HZ.out]
     rfl
    ·have d2:decide (2147483647<n)=false:=by simpa using c2
     by_cases hs:s.size=0
     ·obtain rfl:=str_nil hs
      by_cases hl:0<len
      ·have d3:decide (0<(len:Int))=true:=by simp;omega
       have d3':decide (0<len)=true:=by simp;omega
       have HZ:Hid (chkOf 2 n (ByteArray.mk #[]).size len=2):=if_neg (fun h=>by have h:=h.2.1;omega)
       clear c1 c2 hs hl
       go_enter Tryz.func103,Tryz.ntmps103
       go_wp2_with fail
       go_ret
       refine⟨?_,(Chg.refl NoS w).alloc _⟩
       show _=Ending.returned (Value.int IntKind.i64 (chkOf _ _ (ByteArray.mk #[]).size _))
       rw [HZ.out]
       rfl
      ·obtain rfl:len=0:=by omega
       have HZ:Hid (chkOf 2 n (ByteArray.mk #[]).size 0=0):=if_pos ⟨rfl,rfl,by unfold mayN;omega⟩
       clear c1 c2 hs hl
       go_enter Tryz.func103,Tryz.ntmps103
       go_wp2_with fail
       go_ret
       refine⟨?_,(Chg.refl NoS w).alloc _⟩
       show _=Ending.returned (Value.int IntKind.i64 (chkOf _ _ (ByteArray.mk #[]).size _))
       rw [HZ.out]
       rfl
     ·have u1:=str_ne hs
      have HZ:Hid (chkOf 2 n s.size len=2):=if_neg (fun h=>hs h.1)
      clear c1 c2 hs
      go_enter Tryz.func103,Tryz.ntmps103
      go_wp2_with fail
      go_ret
      refine⟨?_,(Chg.refl NoS w).alloc _⟩
      rw [HZ.out]
      rfl
  ·have u2:(k==2)=false:=by simpa using h2
   have u2':(k != 2)=true:=by simpa using h2
   have HZ:Hid (chkOf k n s.size len=2):=if_neg (fun h=>by have h:=h.2.2;unfold mayN at h;omega)
   clear h3 h2
   go_enter Tryz.func103,Tryz.ntmps103
   go_wp2_with fail
   go_ret
   refine⟨?_,(Chg.refl NoS w).alloc _⟩
   rw [HZ.out]
   rfl
open Go.RowKit Go.Lib
theorem tab_of_reads {P:Program} {W:World} {name:String} {k:IntKind} {zs:List Int} {g:Nat} {t e:TypeId} {n:Nat}
  (hg:P.globalNamed name=some g) (hty:(P.globals[g]?).map (·.type)=some t) (ht:P.underlying t=some (.array n e)) (he:P.underlying e=some (.int k)) (hce:P.cellsOf e=1) (hct:P.cellsOf t=n)
  (h:∃ g' t' cs fuel p,P.globalNamed name=some g'/\(P.globals[g']?).map (·.type)=some t'/\W.var? P name=some cs/\DataW.trod (fun _=>()) P W 0 (fun _=>true) false fuel t' cs.toList=some (tabData k zs,p)):TabIs P W name k zs:=by
 obtain⟨g',t',cs,fuel,p,hg',ht',hvar,hd⟩:=h
 obtain rfl:=Option.some.inj (hg.symm.trans hg')
 obtain rfl:=Option.some.inj (hty.symm.trans ht')
 unfold TabIs
 rw [hvar,<- cells_of_tab ht he hce hct hd]
theorem lib_ok {W:World} (hL:laidMetH Tryz.prog Rows.xrefStaysRow.laid W) (hsh:W.ShapedOpen Tryz.prog):LibOk W:=by
 rw [MakeChecks.laidMetH_plain _ _ _ (by kernel_rfl)] at hL
 obtain⟨ps,hv,_⟩:=hL
 obtain⟨_,_,_,_,_,_,_,_,_,_,hv,_⟩:=hv
 obtain⟨_,_,_,_,_,_,_,_,_,_,hv,_⟩:=hv
 obtain⟨g,t,cs,fuel,p,q,h1,h2,h3,h4,_⟩:=hv
 have hr:∃ g' t' cs fuel p,Tryz.prog.globalNamed "internal/strconv.uint64pow10" = some g'/\(Tryz.prog.globals[g']?).map (·.type)=some t'/\W.var? Tryz.prog "internal/strconv.uint64pow10" = some cs/\DataW.trod (fun _=>()) Tryz.prog W 0 (fun _=>true) false fuel t' cs.toList=some (tabData .u64 pow10Tab,p):=⟨g,t,cs,fuel,p,h1,h2,h3,h4⟩
 exact⟨tab_of_reads (g:=2) (t:=255) (e:=219) (n:=20) (by kernel_rfl) (by kernel_rfl) Tryz.underlying255 Tryz.underlying219 (by kernel_rfl) (by kernel_rfl) hr,Go.Proofs.Tryz.laysM145.s1_3 W hsh⟩
end Go.Proofs.YthejpkflcgjdoaaGreatDoor
