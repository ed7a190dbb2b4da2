import Derived.Test.YtmibnkddappgiaaGreatDoorK04
set_option linter.unusedVariables false
set_option maxHeartbeats 64000000
set_option maxRecDepth 100000
set_option linter.unusedSimpArgs false
namespace Go.Proofs.YtmibnkddappgiaaGreatDoor
open Go.RowKit
structure LibOk (w:World):Prop where
 tab:Lib.TabIs Tryz.prog w "internal/strconv.uint64pow10" .u64 Lib.pow10Tab
 most:∃ m,w.cell? ⟨0,0,none⟩=some (.int .i64 m)
theorem v5u {w:World} {a:Addr} {v:Value} (h:w.cell? a=some v):a.block<w.heap.size:=by
 rcases Nat.lt_or_ge a.block w.heap.size with h'|h'
 ·exact h'
 ·simp [World.cell?,Array.getElem?_eq_none h'] at h
theorem v2y {P:Program} {w w':World} {n:String} {cs:Array Value} (h:w.var? P n=some cs) (hc:Chg NoS w w'):w'.var? P n=some cs:=by
 unfold World.var? at h ⊢;cases hg:P.globalNamed n with
 |none=>simp [hg] at h
 |some g =>
  simp only [hg,Option.bind_some] at h ⊢
  have hlt:g<w.heap.size:=by
   rcases Nat.lt_or_ge g w.heap.size with h'|h'
   ·exact h'
   ·simp [Array.getElem?_eq_none h'] at h
  rw [hc.block g hlt (fun h=>h)];exact h
theorem LibOk.chg {w w':World} (h:LibOk w) (hc:Chg NoS w w'):LibOk w':=by
 obtain⟨m,hm⟩:=h.most;exact⟨v2y h.tab hc,m,(hc.cell (v5u hm) (fun h=>h)).trans hm⟩
theorem v1z {w:World} (k:Nat) (os:Array Obj):Chg NoS w (Go.Sort.grow (w.drewN k) os) :=
 ⟨rfl,rfl,rfl,by rw [Go.Sort.size_grow];exact Nat.le_add_right _ _,fun i hi _=>Go.Sort.heap_grow_old _ _ hi⟩
theorem v0f (l:List UInt8):(⟨l.toArray⟩:ByteArray)=sb (l.map UInt8.toNat):=by
 unfold sb;rw [List.map_map];have e:(UInt8.ofNat ∘ UInt8.toNat)=id:=by funext x;simp
 rw [e,List.map_id]
theorem v2l (d:Nat) (h:d<10):(UInt8.ofNat (48+d)).toNat=48+d:=by
 simp;omega
theorem v5j (u:Nat):(Lib.decDigits u).map UInt8.toNat=txt u 1:=by
 induction u using Nat.strongRecOn with
 |_ u ih =>
  rw [Lib.decDigits];by_cases h:u<10
  ·rw [dif_pos h,List.map_cons,List.map_nil,v2l u h];by_cases h0:u=0
   ·subst h0;rw [txt,v1m];rfl
   ·rw [txt,v5g h0,show u / 10=0 from by omega,v1m,show u%10=u from by omega];rfl
  ·rw [dif_neg h,List.map_append,ih (u / 10) (by omega),List.map_cons,List.map_nil,v2l _ (by omega),z8e u 1 (.inl (by omega))];rw [txt,txt];congr 1;have h1:=y80 (n:=u / 10) (k:=0) (by simp;omega);rw [show 1-(dn (u / 10)).length=0 from by omega,show 1-1-(dn (u / 10)).length=0 from by omega]
theorem v0i (n:Int) (h:0<=n):(⟨(Lib.itoa n).toArray⟩:ByteArray)=sb (txt n.toNat 1):=by
 unfold Lib.itoa;rw [if_neg (by omega),v0f,v5j]
theorem y2o:∀ c,Lib.repeatL [48] c=List.replicate c 48
 |0=>rfl
 |c+1=>by rw [Lib.repeatL,y2o c,List.replicate_succ];rfl
theorem v6y (c:Nat):(⟨(Lib.repeatL [48] c).toArray⟩:ByteArray)=sb (List.replicate c 48):=by
 rw [v0f,y2o,List.map_replicate];rfl
def z4c (c:Nat):List Nat->List Nat × List Nat × Bool
 |[]=>([],[],false)
 |x::l=>if x=c then([],l,true) else(x::(z4c c l).1,(z4c c l).2.1,(z4c c l).2.2)
theorem v5o (c:UInt8):∀ (l:List UInt8),(Lib.indexByte l c=-1/\z4c c.toNat (l.map UInt8.toNat)=(l.map UInt8.toNat,[],false)) \/
  ∃ i:Nat,Lib.indexByte l c=i/\i<l.length/\z4c c.toNat (l.map UInt8.toNat)=((l.map UInt8.toNat).take i,(l.map UInt8.toNat).drop (i+1),true):=by
 intro l;induction l with
 |nil=>exact .inl ⟨rfl,rfl⟩
 |cons x l ih =>
  rw [List.map_cons,z4c,Lib.indexByte];by_cases h:x=c
  ·subst h;exact .inr ⟨0,by simp,by simp,by simp⟩
  ·have h2:¬x.toNat=c.toNat:=fun h2=>h (UInt8.toNat_inj.1 h2);have h3:(x==c)=false:=by simpa using h
   rw [if_neg h2];rcases ih with⟨h4,h5⟩|⟨i,h4,h5,h6⟩
   ·refine .inl ⟨?_,by rw [h5]⟩;simp [h3,h4]
   ·refine .inr ⟨i+1,?_,by simpa using h5,by rw [h6];simp⟩;simp [h3,h4]
theorem y82 {l:List Nat} (n:Nat):(sb l).extract 0 n=sb (l.take n):=by
 unfold sb;apply ByteArray.ext;rw [ByteArray.data_extract];simp [List.map_take]
theorem y0u {l:List Nat} (n m:Nat) (h:l.length=m):(sb l).extract n m=sb (l.drop n):=by
 unfold sb;apply ByteArray.ext;rw [ByteArray.data_extract];simp only [List.extract_toArray,List.extract_eq_take_drop,List.map_drop];congr 1;exact List.take_of_length_le (by rw [List.length_drop,List.length_map];omega)
theorem v1u (c:UInt8) (m:List Nat) (hb:∀ d∈m,d<256) (hl:m.length<=1000000) (w:World) :
  Calls Tryz.prog 193 #[.string (sb m),.string ⟨#[c]⟩] w fun e w'=>e=.returned (.tuple #[.string (sb (z4c c.toNat m).1),.string (sb (z4c c.toNat m).2.1),.bool (z4c c.toNat m).2.2])/\Chg NoS w w':=by
 have hm:(sb m).data.toList.map UInt8.toNat=m:=z8j m hb;have HC:=kf (v5o c (sb m).data.toList);have HI:=kf (fun W=>Go.Proofs.Tryz.stringslite_Index_one (sb m) c W);rw [hm] at HC;obtain⟨z,hz⟩:∃ z,Lib.indexByte (sb m).data.toList c=z:=⟨_,rfl⟩
 rw [hz] at HC HI;have hlen:(sb m).data.toList.length=m.length:=by rw [<- List.length_map (f:=UInt8.toNat),hm]
 rw [hlen] at HC;obtain⟨n,hn⟩:∃ n,m.length=n:=⟨_,rfl⟩
 have hs:(sb m).size=n:=by rw [z0k,hn]
 obtain⟨t,ht⟩:∃ t,sb m=t:=⟨_,rfl⟩
 rcases HC.out with⟨rfl,h2⟩|⟨i,rfl,hi,h2⟩
 ·have HE:=kf h2;rw [ht] at HI ⊢;have HT:=kf ht;clear HC h2 hm hz hlen ht;go_enter Tryz.func193,Tryz.ntmps193;go_wp2_with (go_at_call 109;refine(HI.out _).mono ?_;rintro e w2 ⟨rfl,rfl⟩);go_ret3;rw [HE.out];exact⟨by rw [show(m,([]:List Nat),false).1=m from rfl,HT.out];rfl,Chg.refl _ _⟩
 ·have HE:=kf h2;have e1:=y82 (l:=m) i;have e2:=y0u (l:=m) (i+1) n hn;obtain⟨a,ha⟩:∃ a,sb (m.take i)=a:=⟨_,rfl⟩
  obtain⟨b,hb2⟩:∃ b,sb (m.drop (i+1))=b:=⟨_,rfl⟩
  rw [ht] at HI hs e1 e2 ⊢;rw [ha] at e1;rw [hb2] at e2;rw [hn] at hi hl;have i1:(i:Int)<=n:=by omega
  have i2:(i:Int)+1<=n:=by omega
  have i3:(0:Int)<=(i:Int)+1:=by omega
  have i4:i<=n:=by omega
  have i5:i+1<=n:=by omega
  have i6:((i:Int)+1).toNat=i+1:=by omega
  have d1:decide ((0:Int)<=i)=true:=by simp
  have k1:IntKind.i64.wrap ((i:Int)+1)=(i:Int)+1:=by rw [IntKind.wrap_i64];omega
  have HA:=kf ha;have HB:=kf hb2;clear HC h2 hm hz hlen ht hi ha hb2 hn hb;go_enter Tryz.func193,Tryz.ntmps193;go_upto_region 3 with(go_at_call 109;refine(HI.out _).mono ?_;rintro e w2 ⟨rfl,rfl⟩);go_quiet (fail);go_wp2_with fail;go_ret3;rw [HE.out];exact⟨by rw [show(m.take i,m.drop (i+1),true).1=m.take i from rfl,show(m.take i,m.drop (i+1),true).2.1=m.drop (i+1) from rfl,HA.out,HB.out];rfl,(Chg.refl _ _).drewN nq⟩
theorem y3i (c:UInt8) (m:List Nat) (hb:∀ d∈m,d<256) (hl:m.length<=1000000) (w:World) :
  Calls Tryz.prog 171 #[.string (sb m),.string ⟨#[c]⟩] w fun e w'=>e=.returned (.tuple #[.string (sb (z4c c.toNat m).1),.string (sb (z4c c.toNat m).2.1),.bool (z4c c.toNat m).2.2])/\Chg NoS w w':=by
 have H:=kf (fun W=>v1u c m hb hl W);obtain⟨t,ht⟩:∃ t,sb m=t:=⟨_,rfl⟩
 obtain⟨a,ha⟩:∃ a,sb (z4c c.toNat m).1=a:=⟨_,rfl⟩
 obtain⟨b,hb2⟩:∃ b,sb (z4c c.toNat m).2.1=b:=⟨_,rfl⟩
 obtain⟨f,hf⟩:∃ f,(z4c c.toNat m).2.2=f:=⟨_,rfl⟩
 rw [ht,ha,hb2,hf] at H;rw [ht,ha,hb2,hf];clear ht ha hb2 hf hb hl;go_enter Tryz.func171,Tryz.ntmps171;go_wp2_with (go_at_call 193;refine(H.out _).mono ?_;rintro e w2 ⟨rfl,hc2⟩;have HC2:=kf hc2;clear hc2);go_ret3;exact⟨rfl,HC2.out⟩
def v2k (k n:Int) (sz len:Nat):List Nat × Int:=if z0h k n sz len=0 then(if k=2 then z1g n else z2h n,0) else([],2)
theorem v3n (l:List Nat) (m:Nat):(sb l).extract 0 m=sb (l.take m):=by
 unfold sb;apply ByteArray.ext;rw [ByteArray.data_extract];simp [List.map_take]
theorem v89 {l:List Nat} (h:∀ d∈l,isD d):∀ d∈l,d<256:=fun d hd=>by
 have:=h d hd;unfold isD at this;omega
def PrTo (w:World) (k n:Int) (sz len:Nat) (e:Ending) (w':World):Prop:=e=.returned (.tuple #[.string (sb (v2k k n sz len).1),.int .i64 (v2k k n sz len).2])/\Chg NoS w w'
theorem PrTo.of {w w':World} {k n:Int} {sz len:Nat} {l:List Nat} {z:Int} {t:ByteArray} (h:v2k k n sz len=(l,z)) (ht:t=sb l) (hc:Chg NoS w w'):PrTo w k n sz len (.returned (.tuple #[.string t,.int .i64 z])) w':=by
 unfold PrTo;rw [h,ht];exact⟨rfl,hc⟩
def PaTo (w:World) (l:List Nat) (e:Ending) (w':World):Prop:=e=.returned (.tuple #[.agg #[.int .i64 (z0o l).2.1,.int .i64 (z0o l).2.2,.string ⟨#[]⟩,.slice none 0 0],.int .i64 (z0o l).1])/\Chg NoS w w'
section
variable {l:List Nat} {a k c:Nat} {st t:Ns} {pt:Int}
end
theorem PaTo.of {w w':World} {l:List Nat} {e x:Int} {k:Nat} (h:z0o l=(e,k,x)) (hc:Chg NoS w w'):PaTo w l (.returned (.tuple #[.agg #[.int .i64 (k:Nat),.int .i64 x,.string ⟨#[]⟩,.slice none 0 0],.int .i64 e])) w':=by
 unfold PaTo;rw [h];exact⟨rfl,hc⟩
theorem z6y (x:Nat) (h:isD x) (w:World):Calls Tryz.prog 226 #[.int .i32 (x:Nat)] w fun e w'=>e=.returned (.tuple #[.int .i64 ((x-48:Nat):Int),.bool true])/\w'=w:=by
 unfold isD at h;have d1:decide ((48:Int)<=x)=true:=by simp;omega
 have d1':decide (48<=x)=true:=by simp;omega
 have d2:decide ((x:Int)<=57)=true:=by simp;omega
 have d2':decide (x<=57)=true:=by simp;omega
 have e1:(x:Int)-48=((x-48:Nat):Int):=by omega
 go_enter Tryz.func226,Tryz.ntmps226;go_wp2_with fail;go_ret2;exact⟨by rw [<- e1];rfl,rfl⟩
theorem v1n (r:Nat) (h1:r<=2147483647) (h:¬isD r) (w:World):Calls Tryz.prog 226 #[.int .i32 (r:Nat)] w fun e w'=>(∃ d,e=.returned (.tuple #[.int .i64 d,.bool false]))/\w'=w:=by
 unfold isD at h;by_cases c:48<=r
 ·have d1:decide ((48:Int)<=r)=true:=by simp;omega
  have d1':decide (48<=r)=true:=by simp;omega
  have d2:decide ((r:Int)<=57)=false:=by simp;omega
  have d2':decide (r<=57)=false:=by simp;omega
  go_enter Tryz.func226,Tryz.ntmps226;go_wp2_with fail;go_ret2;exact⟨⟨_,rfl⟩,rfl⟩
 ·have d1:decide ((48:Int)<=r)=false:=by simp;omega
  have d1':decide (48<=r)=false:=by simp;omega
  go_enter Tryz.func226,Tryz.ntmps226;go_wp2_with fail;go_ret2;exact⟨⟨_,rfl⟩,rfl⟩
def z89 (l:List Nat):Prop:=∀ d∈l,isD d
instance (l:List Nat):Decidable (z89 l):=inferInstanceAs (Decidable (∀ d∈l,isD d))
theorem z6a {w:World} {s:ByteArray} (p:Nat):Chg NoS w (w.iter s p):=(Chg.refl NoS w).alloc _
theorem y3r (s:ByteArray) (w:World) (hl:s.size<=1000000) :
  Calls Tryz.prog 196 #[.string s] w fun e w'=>e=.returned (.bool (decide (z89 (sl s))))/\Chg NoS w w':=by
 have HAT:=kf (fun k (h2:k<s.size)=>z9x s k h2);have HGT:=kf (fun k (h2:k<s.size)=>z9w (s:=s) (k:=k) h2);have HY:=kf (fun x h W=>z6y x h W);have HN:=kf (fun x h1 h W=>v1n x h1 h W);go_enter Tryz.func196,Tryz.ntmps196;go_wp2_with fail;go_loopw [4] (fun _ w'=>∃ k:Nat,k<=s.size/\w'=w.iter s k/\Hid (∀ d∈(sl s).take k,isD d)) (fun _ w'=>s.size-w'.iterPos w.heap.size)
 case atStart=>exact⟨0,Nat.zero_le _,rfl,fun d hd=>by simp at hd⟩
 case round =>
  obtain⟨k,hk,rfl,HD⟩:=hrel;by_cases hp:k<s.size
  ·have hxa:=HAT.out k hp;have HG:=HGT.out k hp;obtain⟨x,hx⟩:∃ x,(sl s).getD k 0=x:=⟨_,rfl⟩
   rw [hx] at hxa HG;have HGX:=kf HG;clear hx HG;by_cases hd:isD x
   ·have hnx:∀ ty,(Instr.next (.pointer (some ⟨w.heap.size,0,none⟩)) true ty).run Tryz.prog (w.iter s k)=.ok (.tuple #[.bool true,.int .i64 k,.int .i32 (x:Nat)]) (w.iter s (k+1)):=fun ty=>by
     rw [run_next_ascii w s k ty hp (by unfold isD at hd;omega),hxa]
    clear hxa;have HDX:=kf hd;clear hd;go_wp2_with (go_at_call 226;refine(HY.out _ HDX.out _).mono ?_;rintro e w' ⟨rfl,rfl⟩);go_roundw
    case rel =>
     refine⟨k+1,by omega,rfl,?_⟩;show ∀ d∈(sl s).take (k+1),isD d;rw [z27 HGX.out];intro d hd;rcases List.mem_append.1 hd with h|h
     ·exact HD.out d h
     ·rw [List.mem_singleton] at h;subst h;exact HDX.out
    case measure=>simp;omega
   ·have HB:Hid (decide (z89 (sl s))=false):=by
     show _=_;rw [decide_eq_false_iff_not];exact fun h=>hd (h x (List.mem_of_getElem? HGX.out))
    obtain⟨r,p,hr1,hr2,hnx⟩:∃ r p:Nat,r<=2147483647/\¬isD r/\∀ ty,(Instr.next (.pointer (some ⟨w.heap.size,0,none⟩)) true ty).run Tryz.prog (w.iter s k)=.ok (.tuple #[.bool true,.int .i64 k,.int .i32 (r:Nat)]) (w.iter s p):=by
     by_cases ha:x<128
     ·exact⟨x,k+1,by omega,hd,fun ty=>by rw [run_next_ascii w s k ty hp (by omega),hxa]⟩
     ·refine⟨(Utf8.decode s k).1,k+(Utf8.decode s k).2,decode_le s k,?_,fun ty=>run_next_any w s k ty hp⟩;have:=(decode_high s k hp (by omega)).1;unfold isD;omega
    clear hxa hd;have HR:=kf hr2;clear hr2;go_wp2_with (go_at_call 226;refine(HN.out _ hr1 HR.out _).mono ?_;rintro e w' ⟨⟨d,rfl⟩,rfl⟩);go_ret;rw [HB.out];exact⟨rfl,z6a _⟩
  ·obtain rfl:s.size=k:=by omega
   have HB:Hid (decide (z89 (sl s))=true):=by
    show _=_;rw [decide_eq_true_iff];have h:=HD.out;rwa [List.take_of_length_le (by rw [z3c];exact Nat.le_refl _)] at h
   have hnx:∀ ty,(Instr.next (.pointer (some ⟨w.heap.size,0,none⟩)) true ty).run Tryz.prog (w.iter s s.size)=_:=fun ty=>run_next_end w s s.size ty hp;go_wp2_with fail;go_ret;rw [HB.out];exact⟨rfl,z6a _⟩
theorem y84 (s:ByteArray) (w:World) (hl:s.size<=1000000) (hD:z89 (sl s)) :
  Calls Tryz.prog 197 #[.string s] w fun e w'=>e=.returned (.int .i64 ((min (z62 0 (sl s)) 2147483648:Nat):Int))/\Chg NoS w w':=by
 have HDD:=kf hD;clear hD;have HAT:=kf (fun k (h2:k<s.size)=>z9x s k h2);have HGT:=kf (fun k (h2:k<s.size)=>z9w (s:=s) (k:=k) h2);have HY:=kf (fun x h W=>z6y x h W);go_enter Tryz.func197,Tryz.ntmps197;go_wp2_with fail;go_loopw [3] (fun vn w'=>∃ k n:Nat,k<=s.size/\w'=w.iter s k/\vn=.int .i64 (n:Nat)/\Hid (n=min (z62 0 ((sl s).take k)) 2147483648)/\n<=2147483648) (fun _ w'=>s.size-w'.iterPos w.heap.size)
 case atStart=>exact⟨0,0,Nat.zero_le _,rfl,rfl,by show 0=_;simp [z62],by omega⟩
 case round =>
  obtain⟨k,n,hk,rfl,rfl,HN,hn⟩:=hrel;by_cases hp:k<s.size
  ·have hxa:=HAT.out k hp;have HG:=HGT.out k hp;obtain⟨x,hx⟩:∃ x,(sl s).getD k 0=x:=⟨_,rfl⟩
   rw [hx] at hxa HG;have HGX:=kf HG;have hd:isD x:=HDD.out x (List.mem_of_getElem? HG);clear hx HG
   have hnx:∀ ty,(Instr.next (.pointer (some ⟨w.heap.size,0,none⟩)) true ty).run Tryz.prog (w.iter s k)=.ok (.tuple #[.bool true,.int .i64 k,.int .i32 (x:Nat)]) (w.iter s (k+1)):=fun ty=>by
    rw [run_next_ascii w s k ty hp (by unfold isD at hd;omega),hxa]
   have HDX:=kf hd;obtain⟨y,hy⟩:∃ y,x-48=y:=⟨_,rfl⟩
   have hy9:y<=9:=by unfold isD at hd;omega
   have HYY:=kf (show ∀ W,Calls Tryz.prog 226 #[.int .i32 (x:Nat)] W fun e w'=>e=.returned (.tuple #[.int .i64 (y:Int),.bool true])/\w'=W from fun W=>by rw [<- hy];exact HY.out x hd W)
   have HV:Hid (z62 0 ((sl s).take (k+1))=10*z62 0 ((sl s).take k)+y):=by
    show _=_;rw [z27 HGX.out,y28,<- hy];rfl
   clear hxa hd hy;obtain⟨m,hm⟩:∃ m:Nat,m=min (10*n+y) 2147483648:=⟨_,rfl⟩
   have e1:min ((10:Int)*(n:Int)+(y:Int)) 2147483648=(m:Int):=by omega
   have hm2:m<=2147483648:=by omega
   have HM:=kf hm;clear hm;go_wp2_with (go_at_call 226;refine(HYY.out _).mono ?_;rintro e w' ⟨rfl,rfl⟩);go_roundw
   case rel=>exact⟨k+1,m,by omega,rfl,by have h:=HM.out;first|(simp;done)|(simp;split<;>omega),by show m=_;have h1:=HV.out;have h2:=HM.out;have h3:=HN.out;omega,hm2⟩
   case measure=>simp;omega
  ·obtain rfl:s.size=k:=by omega
   have hnx:∀ ty,(Instr.next (.pointer (some ⟨w.heap.size,0,none⟩)) true ty).run Tryz.prog (w.iter s s.size)=_:=fun ty=>run_next_end w s s.size ty hp;go_wp2_with fail;go_ret;refine⟨?_,z6a _⟩;have h:=HN.out;rw [List.take_of_length_le (by rw [z3c];exact Nat.le_refl _)] at h;rw [<- h];rfl
theorem y6s:∀ (l:List Nat) (j c:Nat),z68 j (l++[c])=z68 j l+100000 / 10 ^ min (j+l.length) 6*(c-48):=by
 intro l;induction l with
 |nil=>intro j c;simp [z68]
 |cons x l ih =>
  intro j c;rw [List.cons_append,z68,z68,ih,List.length_cons,show j+1+l.length=j+(l.length+1) from by omega];omega
theorem z82:∀ (l:List Nat) (j:Nat),(∀ d∈l,isD d)->z68 j l+10 ^ (6-min (j+l.length) 6)<=10 ^ (6-min j 6):=by
 intro l;induction l with
 |nil=>intro j _;simp [z68]
 |cons x l ih =>
  intro j h;have h1:=ih (j+1) (fun d hd=>h d (List.mem_cons_of_mem _ hd));have hx:=h x (List.mem_cons_self ..);unfold isD at hx;rw [z68,List.length_cons,show j+(l.length+1)=j+1+l.length from by omega];by_cases hj:j<=5
  ·have h2:=y6r j hj;have h3:100000 / 10 ^ min j 6*(x-48)<=100000 / 10 ^ min j 6*9:=Nat.mul_le_mul_left _ (by omega);omega
  ·have e1:min j 6=6:=by omega
   have e2:min (j+1) 6=6:=by omega
   have e3:100000 / 10 ^ 6=0:=by decide
   rw [e2] at h1;rw [e1,e3];omega
theorem y56 (k:Nat):100000 / 10 ^ min k 6 / 10=100000 / 10 ^ min (k+1) 6:=by
 by_cases h:k<6
 ·rcases k with _|_|_|_|_|_|k;all_goals first|decide|omega
 ·rw [show min k 6=6 from by omega,show min (k+1) 6=6 from by omega]
theorem v4o (s:ByteArray) (w:World) (hl:s.size<=1000000) (hD:z89 (sl s)) :
  Calls Tryz.prog 198 #[.string s] w fun e w'=>e=.returned (.int .i64 ((z68 0 (sl s):Nat):Int))/\Chg NoS w w':=by
 have HDD:=kf hD;clear hD;have HAT:=kf (fun k (h2:k<s.size)=>z9x s k h2);have HGT:=kf (fun k (h2:k<s.size)=>z9w (s:=s) (k:=k) h2);have HY:=kf (fun x h W=>z6y x h W);have HSZ:=kf (z3c s);go_enter Tryz.func198,Tryz.ntmps198;go_wp2_with fail;go_loopw [3,4] (fun vn vu w'=>∃ k n u:Nat,k<=s.size/\w'=w.iter s k/\vn=.int .i64 (n:Nat)/\vu=.int .i64 (u:Nat)/\Hid (n=z68 0 ((sl s).take k))/\n<=1000000/\u<=1000000/\Hid (u / 10=100000 / 10 ^ min k 6)) (fun _ _ w'=>s.size-w'.iterPos w.heap.size)
 case atStart=>exact⟨0,0,1000000,Nat.zero_le _,rfl,rfl,rfl,by show 0=_;simp [z68],by omega,by omega,by show _=_;decide⟩
 case round =>
  obtain⟨k,n,u,hk,rfl,rfl,rfl,HN,hn,hu,HU⟩:=hrel;by_cases hp:k<s.size
  ·have hxa:=HAT.out k hp;have HG:=HGT.out k hp;obtain⟨x,hx⟩:∃ x,(sl s).getD k 0=x:=⟨_,rfl⟩
   rw [hx] at hxa HG;have HGX:=kf HG;have hd:isD x:=HDD.out x (List.mem_of_getElem? HG);clear hx HG
   have hnx:∀ ty,(Instr.next (.pointer (some ⟨w.heap.size,0,none⟩)) true ty).run Tryz.prog (w.iter s k)=.ok (.tuple #[.bool true,.int .i64 k,.int .i32 (x:Nat)]) (w.iter s (k+1)):=fun ty=>by
    rw [run_next_ascii w s k ty hp (by unfold isD at hd;omega),hxa]
   have HDX:=kf hd;obtain⟨y,hy⟩:∃ y,x-48=y:=⟨_,rfl⟩
   have hy9:y<=9:=by unfold isD at hd;omega
   have HYY:=kf (show ∀ W,Calls Tryz.prog 226 #[.int .i32 (x:Nat)] W fun e w'=>e=.returned (.tuple #[.int .i64 (y:Int),.bool true])/\w'=W from fun W=>by rw [<- hy];exact HY.out x hd W);obtain⟨v,hv⟩:∃ v:Nat,u / 10=v:=⟨_,rfl⟩
   have HV:Hid (z68 0 ((sl s).take (k+1))=z68 0 ((sl s).take k)+v*y):=by
    show _=_;rw [z27 HGX.out,y6s,List.length_take,show 0+min k (sl s).length=k from by rw [HSZ.out];omega,<- HU.out,hv,hy]
   have HVN:Hid (v / 10=100000 / 10 ^ min (k+1) 6):=by
    show _=_;rw [<- y56,<- HU.out,hv]
   have HVB:Hid (z68 0 ((sl s).take (k+1))<=1000000):=by
    have h:=z82 ((sl s).take (k+1)) 0 (fun d hd=>HDD.out d (List.take_subset _ _ hd));have e:(10:Nat) ^ (6-min 0 6)=1000000:=by decide
    rw [e] at h;exact Nat.le_trans (Nat.le_add_right _ _) h
   have hv6:v<=100000:=by omega
   have ed:(u:Int).tdiv 10=(v:Int):=by rw [Int.tdiv_eq_ediv_of_nonneg (by omega)];omega
   have ed2:(u:Int) / 10=(v:Int):=by omega
   clear hxa hd hy hv;obtain⟨z,hz⟩:∃ z:Nat,z=v*y:=⟨_,rfl⟩
   have hz9:z<=900000:=by rw [hz];exact Nat.le_trans (Nat.mul_le_mul hv6 hy9) (by omega)
   have ez:(y:Int)*(v:Int)=(z:Int):=by rw [hz,Int.natCast_mul,Int.mul_comm]
   have HZ:=kf hz;clear hz;go_wp2_with (go_at_call 226;refine(HYY.out _).mono ?_;rintro e w' ⟨rfl,rfl⟩);go_roundw
   case rel=>exact⟨k+1,n+z,v,by omega,rfl,by go_num,by go_num,by show n+z=_;have h1:=HV.out;have h2:=HZ.out;have h3:=HN.out;omega,by have h1:=HV.out;have h2:=HZ.out;have h3:=HN.out;have h4:=HVB.out;omega,by omega,HVN⟩
   case measure=>simp;omega
  ·obtain rfl:s.size=k:=by omega
   have hnx:∀ ty,(Instr.next (.pointer (some ⟨w.heap.size,0,none⟩)) true ty).run Tryz.prog (w.iter s s.size)=_:=fun ty=>run_next_end w s s.size ty hp;go_wp2_with fail;go_ret;refine⟨?_,z6a _⟩;have h:=HN.out;rw [List.take_of_length_le (by rw [z3c];exact Nat.le_refl _)] at h;rw [<- h];rfl
theorem z4t (n:Nat) (hn:n<=9223372036854775807) (w:World) (h:LibOk w) :
  Calls Tryz.prog 183 #[.int .i64 (n:Nat)] w fun e w'=>e=.returned (.string (sb (txt n 1)))/\Chg NoS w w' :=
 (Go.Proofs.Tryz.strconv_Itoa (n:Int) (by omega) (by omega) w h.tab).mono fun e w' hh=>by
  obtain⟨he,k,os,rfl⟩:=hh;refine⟨?_,v1z k os⟩;rw [he,v0i _ (by omega)];rfl
theorem v3t (c:Nat) (hc:c<=1000) (w:World) :
  Calls Tryz.prog 207 #[.string ⟨#[48]⟩,.int .i64 (c:Nat)] w fun e w'=>e=.returned (.string (sb (List.replicate c 48)))/\Chg NoS w w' :=
 (Go.Proofs.Tryz.strings_Repeat ⟨#[48]⟩ c w (by omega) (by show 1*c<=_;omega)).mono fun e w' hh=>by
  obtain⟨he,hb⟩:=hh;refine⟨?_,Chg.of_below hb⟩;rw [he];show Ending.returned (Value.string ⟨(Lib.repeatL [48] c).toArray⟩)=_;rw [v6y]
theorem v31 (n d:Nat) (h:1<=d):List.replicate (d-(txt n 1).length) 48++txt n 1=txt n d:=by
 by_cases h0:n=0
 ·subst h0;rw [txt,txt,v1m];simp only [List.length_nil,Nat.sub_zero,List.append_nil,List.length_replicate,List.replicate_append_replicate];rw [show d-1+(1-0)=d from by omega]
 ·have h1:=y80 (n:=n) (k:=0) (by simp;omega);rw [txt,txt,show 1-(dn n).length=0 from by omega];rfl
theorem z7z (n d:Nat) (hn:n<=9223372036854775807) (hd:1<=d/\d<=20) (w:World) (hL:LibOk w) :
  Calls Tryz.prog 185 #[.int .i64 (n:Nat),.int .i64 (d:Nat)] w fun e w'=>e=.returned (.string (sb (txt n d)))/\Chg NoS w w':=by
 obtain⟨L,hLn⟩:∃ L,(txt n 1).length=L:=⟨_,rfl⟩
 have hL20:L<=100:=by
  have h1:(dn n).length<=19:=z85 (by omega);rw [<- hLn,z56];omega
 obtain⟨t,ht⟩:∃ t,sb (txt n 1)=t:=⟨_,rfl⟩
 have hts:t.size=L:=by rw [<- ht,z0k,hLn]
 obtain⟨c,hc⟩:∃ c:Nat,d-L=c:=⟨_,rfl⟩
 have e1:max (0:Int) ((d:Int)-(L:Int))=(c:Int):=by omega
 obtain⟨r,hr⟩:∃ r,sb (List.replicate c 48)=r:=⟨_,rfl⟩
 have hrs:r.size=c:=by rw [<- hr,z0k,List.length_replicate]
 have HI:=kf (z4t n hn w hL);have HR:=kf (fun W=>v3t c (by omega) W);rw [ht] at HI;rw [hr] at HR
 have HE:Hid (r++t=sb (txt n d)):=by
  show _=_;rw [<- hr,<- ht,z5s,<- hc,<- hLn,v31 n d hd.1]
 have hc20:c<=20:=by omega
 clear hL hLn ht hr;have HCD:=kf hc;clear hc;go_enter Tryz.func185,Tryz.ntmps185;go_wp2_with first|(go_at_call 183;refine HI.out.mono ?_;rintro e w2 ⟨rfl,hc2⟩;have HC2:=kf hc2;clear hc2)|(go_at_call 207;refine(HR.out _).mono ?_;rintro e w3 ⟨rfl,hc3⟩;have HC3:=kf (HC2.out.trans hc3 (fun _ _ h=>h));clear hc3)
 go_ret;rw [<- HE.out];exact⟨rfl,HC3.out⟩
def z5y (l:List Nat):List Nat:=(l.reverse.dropWhile (·== 48)).reverse
theorem y3v (m:List Nat) (x:Nat):z5y (m++[x])=if x=48 then z5y m else m++[x]:=by
 unfold z5y;rw [List.reverse_append,List.reverse_singleton,List.singleton_append,List.dropWhile_cons];by_cases h:x=48
 ·rw [if_pos h,if_pos (by simp [h])]
 ·rw [if_neg h,if_neg (by simp [h]),List.reverse_cons,List.reverse_reverse]
theorem y59 (c:Nat):∀ (k:Nat) (m:List Nat),m.length=k->z5x k (c::m)=c::z5y m:=by
 intro k;induction k with
 |zero=>intro m h;rw [List.eq_nil_of_length_eq_zero h];rfl
 |succ k ih =>
  intro m h;rcases List.eq_nil_or_concat m with rfl|⟨m',x,rfl⟩
  ·simp at h
  ·rw [List.concat_eq_append] at h ⊢;rw [List.length_append,List.length_singleton] at h;rw [z5x,y3v,<- List.cons_append,List.getLast?_append,List.getLast?_singleton,List.dropLast_concat,ih m' (by omega)];by_cases hx:x=48
   ·rw [if_pos (by rw [hx];rfl),if_pos hx]
   ·rw [if_neg (by simpa using hx),if_neg hx,List.cons_append]
theorem z7l (l:List UInt8):(l.dropWhile (·== 48)).map UInt8.toNat=(l.map UInt8.toNat).dropWhile (·== 48):=by
 induction l with
 |nil=>rfl
 |cons x l ih =>
  rw [List.dropWhile_cons,List.map_cons,List.dropWhile_cons];by_cases h:x=48
  ·subst h;rw [if_pos (by rfl),if_pos (by rfl),ih]
  ·have h2:¬x.toNat=48:=fun h2=>h (UInt8.toNat_inj.1 h2);rw [if_neg (by simpa using h),if_neg (by simpa using h2),List.map_cons]
theorem v38 (l:List UInt8):(Lib.trimRightB l 48).map UInt8.toNat=z5y (l.map UInt8.toNat):=by
 unfold Lib.trimRightB z5y;rw [List.map_reverse,z7l,List.map_reverse]
theorem y3w (l:List Nat) (hb:∀ d∈l,d<256) (hl:l.length<=1000) (w:World) :
  Calls Tryz.prog 206 #[.string (sb l),.string ⟨#[48]⟩] w fun e w'=>e=.returned (.string (sb (z5y l)))/\w=w' :=
 (Go.Proofs.Tryz.strings_TrimRight_one (sb l) 48 (by decide) w (by rw [z0k];omega)).mono fun e w' hh=>by
  obtain⟨he,hw⟩:=hh;refine⟨?_,hw.symm⟩;rw [he,v0f,v38];show Ending.returned (Value.string (sb (z5y (sl (sb l)))))=_;rw [z8j l hb]
theorem v1k (l:List Nat) (p:Nat->Bool):(l.dropWhile p).length<=l.length:=by
 induction l with
 |nil=>exact Nat.le_refl _
 |cons x l ih =>
  rw [List.dropWhile_cons];split
  ·rw [List.length_cons];omega
  ·exact Nat.le_refl _
theorem z9k (l:List Nat):(z5y l).length<=l.length:=by
 unfold z5y;rw [List.length_reverse];exact Nat.le_trans (v1k _ _) (by rw [List.length_reverse];exact Nat.le_refl _)
theorem y01 (c:Nat) (m:List Nat) (hb:∀ d∈c::m,d<256) (hm:m.length=5) (w:World) :
  Calls Tryz.prog 184 #[.string (sb (c::m))] w fun e w'=>e=.returned (.string (sb (z5x 5 (c::m))))/\Chg NoS w w':=by
 have HR:=kf (fun W=>y3w m (fun d hd=>hb d (List.mem_cons_of_mem _ hd)) (by omega) W);obtain⟨s,hs⟩:∃ s,sb (c::m)=s:=⟨_,rfl⟩
 obtain⟨a,ha⟩:∃ a,sb [c]=a:=⟨_,rfl⟩
 obtain⟨b,hb2⟩:∃ b,sb m=b:=⟨_,rfl⟩
 obtain⟨t,ht⟩:∃ t,sb (z5y m)=t:=⟨_,rfl⟩
 have hz:s.size=6:=by rw [<- hs,z0k,List.length_cons,hm]
 obtain⟨y,hy1,hy9⟩:∃ y,a.size=y/\y<=5:=⟨1,by rw [<- ha,z0k];rfl,by omega⟩
 obtain⟨z,hz5⟩:∃ z,(z5y m).length=z:=⟨_,rfl⟩
 have hts:t.size=z:=by rw [<- ht,z0k,hz5]
 have hz9:z<=5:=by
  have h:=z9k m;omega
 have ex1:s.extract 0 1=a:=by rw [<- hs,v3n,<- ha];rfl
 have ex2:s.extract 1 6=b:=by
  rw [<- hs,<- hb2];unfold sb;apply ByteArray.ext;rw [ByteArray.data_extract];have e:(m.map UInt8.ofNat).length=5:=by rw [List.length_map,hm]
  simp;exact List.take_of_length_le (by omega)
 have HE:Hid (a++t=sb (z5x 5 (c::m))):=by
  show _=_;rw [<- ha,<- ht,z5s,y59 c 5 m hm];rfl
 rw [hb2,ht] at HR;rw [hs];have i1:¬9223372036854775807<y+z:=by omega
 have i2:y+z<=9223372036854775807:=by omega
 clear hs ha hb2 ht hb hm hz5;go_enter Tryz.func184,Tryz.ntmps184;go_upto_region 1 with fail;go_region_held3 (fun _=>True) (trivial) ((go_at_call 206;refine(HR.out _).mono ?_;rintro e w2 ⟨rfl,rfl⟩))
 go_wp2_with fail;go_ret;rw [<- HE.out];exact⟨rfl,(Chg.refl _ _).drew⟩
theorem z9p {s:ByteArray} (h:s.size≠0):s.toList.isEmpty=false:=by
 have h:=z7r h;cases hl:s.toList with
 |nil=>exact absurd hl h
 |cons x l=>rfl
theorem y1e (c:UInt8) (l:List UInt8):Lib.hasPrefix l [c]=decide ((l.map UInt8.toNat).head?=some c.toNat):=by
 rcases l with _|⟨x,l⟩
 ·rfl
 ·show(c==x&&true)=_;rw [List.map_cons,List.head?_cons,Bool.and_true];by_cases h:c=x
  ·subst h;simp
  ·have h2:¬x.toNat=c.toNat:=fun h2=>h (UInt8.toNat_inj.1 h2).symm;simp [h,h2]
theorem y2s (c:UInt8) (l:List UInt8):(⟨(Lib.trimPrefix l [c]).toArray⟩:ByteArray)=sb (if (l.map UInt8.toNat).head?=some c.toNat then(l.map UInt8.toNat).tail else l.map UInt8.toNat):=by
 rw [v0f];unfold Lib.trimPrefix;rw [y1e];by_cases h:(l.map UInt8.toNat).head?=some c.toNat
 ·rw [if_pos h,if_pos (by simpa using h)];rcases l with _|⟨x,l⟩
  ·rfl
  ·rfl
 ·rw [if_neg h,if_neg (by simpa using h)]
theorem z40 {l:List Nat} (h:l.head?=some 45):signed l=(true,l.tail):=by
 rcases l with _|⟨x,l⟩
 ·cases h
 ·simp at h;subst h;rfl
theorem z41 {l:List Nat} (h:¬l.head?=some 45):signed l=(false,if l.head?=some 43 then l.tail else l):=by
 rcases l with _|⟨x,l⟩
 ·rfl
 ·simp at h;rw [signed];by_cases h2:x=43
  ·subst h2;rfl
  ·rw [if_neg h2,if_neg h,if_neg (by simpa using h2)]
theorem y5m {l:List Nat} (h:∀ d∈l,d<256):∀ d∈(signed l).2,d<256:=by
 by_cases h1:l.head?=some 45
 ·rw [z40 h1];exact fun d hd=>h d (List.mem_of_mem_tail hd)
 ·rw [z41 h1];intro d hd;simp only at hd;split at hd
  ·exact h d (List.mem_of_mem_tail hd)
  ·exact h d hd
theorem y44 (l:List Nat):(signed l).2.length<=l.length:=by
 by_cases h1:l.head?=some 45
 ·rw [z40 h1];simp
 ·rw [z41 h1];simp only;split<;>simp
theorem z9j (s:ByteArray) (w:World) :
  Calls Tryz.prog 195 #[.string s] w fun e w'=>e=.returned (.tuple #[.string (sb (signed (sl s)).2),.bool (signed (sl s)).1])/\w'=w:=by
 have HP:=kf (fun W=>Go.Proofs.Tryz.strings_CutPrefix s ⟨#[45]⟩ W);have HT:=kf (fun W=>Go.Proofs.Tryz.strings_TrimPrefix s ⟨#[43]⟩ W);by_cases h:(sl s).head?=some 45
 ·have HP2:Hid (∀ W,Calls Tryz.prog 224 #[.string s,.string ⟨#[45]⟩] W fun e w'=>e=.returned (.tuple #[.string (sb (sl s).tail),.bool true])/\w'=W):=fun W =>
   (HP.out W).mono fun e w' hh=>by
    obtain⟨he,hw⟩:=hh;refine⟨?_,hw⟩;rw [he,y2s,y1e,decide_eq_true (show(s.data.toList.map UInt8.toNat).head?=some (45:UInt8).toNat from h),if_pos (show(s.data.toList.map UInt8.toNat).head?=some (45:UInt8).toNat from h)];rfl
  have HS:=kf (z40 h);clear h HP HT;go_enter Tryz.func195,Tryz.ntmps195;go_wp2_with (go_at_call 224;refine(HP2.out _).mono ?_;rintro e w2 ⟨rfl,rfl⟩);go_ret2;rw [HS.out];exact⟨rfl,rfl⟩
 ·obtain⟨t,HP2⟩:∃ t,Hid (∀ W,Calls Tryz.prog 224 #[.string s,.string ⟨#[45]⟩] W fun e w'=>e=.returned (.tuple #[.string t,.bool false])/\w'=W):=⟨_,fun W =>
   (HP.out W).mono fun e w' hh=>by
    obtain⟨he,hw⟩:=hh;refine⟨?_,hw⟩;rw [he,y1e,decide_eq_false (show ¬(s.data.toList.map UInt8.toNat).head?=some (45:UInt8).toNat from h)]⟩
  have HT2:Hid (∀ W,Calls Tryz.prog 225 #[.string s,.string ⟨#[43]⟩] W fun e w'=>e=.returned (.string (sb (if (sl s).head?=some 43 then(sl s).tail else sl s)))/\w'=W):=fun W =>
   (HT.out W).mono fun e w' hh=>by
    obtain⟨he,hw⟩:=hh;refine⟨?_,hw⟩;rw [he,y2s];rfl
  have HS:=kf (z41 h);obtain⟨u,hu⟩:∃ u,sb (if (sl s).head?=some 43 then(sl s).tail else sl s)=u:=⟨_,rfl⟩
  rw [hu] at HT2;have HU:=kf hu;clear h HP HT hu;go_enter Tryz.func195,Tryz.ntmps195;go_wp2_with first|(go_at_call 224;refine(HP2.out _).mono ?_;rintro e w2 ⟨rfl,rfl⟩)|(go_at_call 225;refine(HT2.out _).mono ?_;rintro e w2 ⟨rfl,rfl⟩)
  go_ret2;rw [HS.out,<- HU.out];exact⟨rfl,rfl⟩
def z4a:List Nat->List Nat × List Nat × Bool
 |[]=>([],[],false)
 |c::l=>if c=46 then([],l,true) else(c::(z4a l).1,(z4a l).2.1,(z4a l).2.2)
theorem v8b (l:List Nat):z4c 46 l=z4a l:=by
 induction l with
 |nil=>rfl
 |cons c l ih=>rw [z4c,z4a,ih]
theorem z6e (l:List Nat):(z4a l).2.2=false/\l=(z4a l).1/\(z4a l).2.1=[]\/(z4a l).2.2=true/\l=(z4a l).1++46::(z4a l).2.1:=by
 induction l with
 |nil=>exact .inl ⟨rfl,rfl,rfl⟩
 |cons c l ih =>
  rw [z4a];by_cases h:c=46
  ·subst h;rw [if_pos rfl];exact .inr ⟨rfl,rfl⟩
  ·rw [if_neg h];rcases ih with⟨h1,h2,h3⟩|⟨h1,h2⟩
   ·exact .inl ⟨h1,by simp only;rw [<- h2],h3⟩
   ·refine .inr ⟨h1,?_⟩;simp only [List.cons_append];rw [<- h2]
theorem v5l (l:List Nat):∀ d∈(z4a l).1,d≠46:=by
 induction l with
 |nil=>intro d hd;cases hd
 |cons c l ih =>
  rw [z4a];by_cases h:c=46
  ·rw [if_pos h];intro d hd;cases hd
  ·rw [if_neg h];intro d hd;rcases List.mem_cons.1 hd with rfl|hd
   ·exact h
   ·exact ih d hd
theorem v1t (l:List Nat):(z4a l).1.length<=l.length/\(z4a l).2.1.length<=l.length:=by
 rcases z6e l with⟨_,h2,h3⟩|⟨_,h2⟩
 ·rw [h3];exact⟨by rw [<- h2];exact Nat.le_refl _,Nat.zero_le _⟩
 ·have h:=congrArg List.length h2;rw [List.length_append,List.length_cons] at h;omega
theorem v5m {l:List Nat} (h:∀ d∈l,d<256):(∀ d∈(z4a l).1,d<256)/\∀ d∈(z4a l).2.1,d<256:=by
 rcases z6e l with⟨_,h2,h3⟩|⟨_,h2⟩
 ·rw [h3];exact⟨by rw [<- h2];exact h,fun d hd=>by cases hd⟩
 ·exact⟨fun d hd=>h d (by rw [h2];exact List.mem_append_left _ hd),fun d hd=>h d (by rw [h2];exact List.mem_append_right _ (List.mem_cons_of_mem _ hd))⟩
theorem v5k (m:List Nat) (hb:∀ d∈m,d<256) (hl:m.length<=1000000) (w:World) :
  Calls Tryz.prog 171 #[.string (sb m),.string ⟨#[46]⟩] w fun e w'=>e=.returned (.tuple #[.string (sb (z4a m).1),.string (sb (z4a m).2.1),.bool (z4a m).2.2])/\Chg NoS w w':=by
 have h:=y3i 46 m hb hl w;rw [show(46:UInt8).toNat=46 from rfl,v8b] at h;exact h
theorem v4d:∀ (l:List Nat) (s:Ns),(∃ d∈l,¬isD d/\d≠46)->z19 s l=none:=by
 intro l;induction l with
 |nil=>rintro s ⟨d,hd,_⟩;cases hd
 |cons c l ih =>
  rintro s ⟨d,hd,h1,h2⟩;rw [z19];rcases List.mem_cons.1 hd with rfl|hd
  ·unfold z18;rw [if_neg (fun h=>h2 h.1),if_neg h1]
  ·cases z18 s c with
   |none=>rfl
   |some t=>exact ih t ⟨d,hd,h1,h2⟩
theorem v06:∀ (l:List Nat) (s:Ns) (j:Nat),s.fr=some j->(∃ d∈l,¬isD d)->z19 s l=none:=by
 intro l;induction l with
 |nil=>rintro s j _ ⟨d,hd,_⟩;cases hd
 |cons c l ih =>
  rintro s j hf ⟨d,hd,h1⟩;rw [z19];rcases List.mem_cons.1 hd with rfl|hd
  ·unfold z18;rw [if_neg (fun h=>by rw [hf] at h;cases h.2),if_neg h1]
  ·unfold z18;rw [if_neg (fun h=>by rw [hf] at h;cases h.2)];by_cases hc:isD c
   ·rw [if_pos hc,hf];exact ih _ (j+1) rfl ⟨d,hd,h1⟩
   ·rw [if_neg hc]
theorem v4c:∀ (l:List Nat) (s:Ns),z89 l->s.fr=none->s.over=true->z19 s l=some { s with digits:=s.digits+l.length }:=by
 intro l;induction l with
 |nil=>intro s _ _ _;rfl
 |cons c l ih =>
  intro s h hf ho;have hc:=h c (List.mem_cons_self ..)
  have hst:z18 s c=some { s with digits:=s.digits+1 }:=by
   unfold z18;rw [if_neg (by unfold isD at hc;omega),if_pos hc,hf];simp only [ho,if_true,Bool.true_or]
  rw [z19,hst];simp only;rw [ih { s with digits:=s.digits+1 } (fun d hd=>h d (List.mem_cons_of_mem _ hd)) hf ho];simp only [List.length_cons];first|done|(congr 2;done)|(congr 2;omega)
theorem v78:∀ (l:List Nat) (s:Ns),z89 l->s.fr=none->s.over=false->2147483647<z62 s.n l->∃ n,z19 s l=some { s with n:=n,digits:=s.digits+l.length,over:=true }\/s.n > 2147483647:=by
 intro l;induction l with
 |nil=>intro s _ _ _ h;exact⟨0,.inr h⟩
 |cons c l ih =>
  intro s h hf ho hv;have hc:=h c (List.mem_cons_self ..);by_cases hb:2147483647<10*s.n+(c-48)
  ·have hst:z18 s c=some { s with n:=10*s.n+(c-48),digits:=s.digits+1,over:=true }:=by
    unfold z18;rw [if_neg (by unfold isD at hc;omega),if_pos hc,hf];simp only [ho,Bool.false_eq_true,if_false,Bool.false_or];rw [decide_eq_true hb]
   refine⟨10*s.n+(c-48),.inl ?_⟩;rw [z19,hst];simp only;rw [v4c l { s with n:=10*s.n+(c-48),digits:=s.digits+1,over:=true } (fun d hd=>h d (List.mem_cons_of_mem _ hd)) hf rfl];simp only [List.length_cons];first|done|(congr 2;done)|(congr 2;omega)
  ·have hst:z18 s c=some { s with n:=10*s.n+(c-48),digits:=s.digits+1,over:=false }:=by
    unfold z18;rw [if_neg (by unfold isD at hc;omega),if_pos hc,hf];simp only [ho,Bool.false_eq_true,if_false,Bool.false_or];rw [decide_eq_false hb]
   obtain⟨n,h1|h1⟩:=ih { s with n:=10*s.n+(c-48),digits:=s.digits+1,over:=false } (fun d hd=>h d (List.mem_cons_of_mem _ hd)) hf rfl hv
   ·refine⟨n,.inl ?_⟩;rw [z19,hst];simp only;rw [h1];simp only [List.length_cons];first|done|(congr 2;done)|(congr 2;omega)
   ·exact absurd h1 hb
def xP (a b:List Nat) (f:Bool):Nat:=if f then min (z62 0 a) 2147483648*1000000+z68 0 b else min (z62 0 a) 2147483648
def mP (f:Bool):Nat:=if f then 2147483647000000 else 2147483647
def v9w (a b:List Nat):Prop:=(a=[]/\b=[])\/¬z89 a\/¬z89 b
def z7e (sg:Bool) (a b:List Nat) (f:Bool):Int × Nat × Int :=
 if xP a b f<=mP f then(0,if f then 3 else 2,if sg then -(xP a b f:Int) else(xP a b f:Int)) else(5,0,0)
theorem v2o {b:List Nat} (h:z89 b):z68 0 b<1000000:=by
 have h1:=z82 b 0 h;have h2:0<10 ^ (6-min (0+b.length) 6):=Nat.pow_pos (by omega);have e:(10:Nat) ^ (6-min 0 6)=1000000:=by decide
 rw [e] at h1;exact Nat.lt_of_lt_of_le (Nat.lt_add_of_pos_right h2) h1
theorem z81 {l:List Nat} (h:z19 ns0 (signed l).2=none):z0o l=(11,0,0):=by
 unfold z0o;rw [h]
theorem y0e {l:List Nat} {t:Ns} (h:z19 ns0 (signed l).2=some t) (hd:t.digits=0):z0o l=(11,0,0):=by
 unfold z0o;rw [h];simp only;rw [if_pos hd]
theorem z5j {l:List Nat} {t:Ns} (h:z19 ns0 (signed l).2=some t) (hd:t.digits≠0) (ho:t.over=true\/(t.fr≠none/\t.n=2147483647/\0<t.parts)):z0o l=(5,0,0):=by
 unfold z0o;rw [h];simp only;rw [if_neg hd,if_pos ho]
theorem y6k {l:List Nat} {t:Ns} (h:z19 ns0 (signed l).2=some t) (hd:t.digits≠0) (ho:t.over=false) (hf:t.fr=none):z0o l=(0,2,if (signed l).1 then 0-(t.n:Int) else(t.n:Int)):=by
 unfold z0o;rw [h];simp only;rw [if_neg hd,if_neg (by rintro(h|h);rw [ho] at h;cases h;exact h.1 hf),if_pos hf,if_pos hf]
theorem y4d {l:List Nat} {t:Ns} (h:z19 ns0 (signed l).2=some t) (hd:t.digits≠0) (ho:¬(t.over=true\/(t.fr≠none/\t.n=2147483647/\0<t.parts))) (hf:t.fr≠none):z0o l=(0,3,if (signed l).1 then 0-((1000000*t.n+t.parts:Nat):Int) else((1000000*t.n+t.parts:Nat):Int)):=by
 unfold z0o;rw [h];simp only;rw [if_neg hd,if_neg ho,if_neg hf,if_neg hf]
theorem v4a (l:List Nat) (h:v9w (z4a (signed l).2).1 (z4a (signed l).2).2.1):z0o l=(11,0,0):=by
 have hno:=v5l (signed l).2;have happ:=z6e (signed l).2;generalize hc:z4a (signed l).2=t at h hno happ;obtain⟨a,b,f⟩:=t;simp only at hno happ h;by_cases hA:z89 a
 ·rcases h with⟨rfl,rfl⟩|h|hB
  ·rcases happ with⟨_,h2,_⟩|⟨_,h2⟩
   ·exact y0e (t:=ns0) (by rw [h2];rfl) rfl
   ·exact y0e (t:={ ns0 with fr:=some 0 }) (by rw [h2];rfl) rfl
  ·exact absurd hA h
  ·have hB':∃ d∈b,¬isD d:=by unfold z89 at hB;simpa using hB
   rcases happ with⟨_,h2,rfl⟩|⟨_,h2⟩
   ·exact absurd (fun d hd=>by cases hd) hB
   ·refine z81 ?_;rw [h2,z6t];cases hn:z19 ns0 a with
    |none=>rfl
    |some t =>
     simp only [Option.bind_some];rw [z19];unfold z18;by_cases hf:t.fr=none
     ·rw [if_pos ⟨rfl,hf⟩];simp only;rw [v06 b _ 0 rfl hB']
     ·rw [if_neg (fun h=>hf h.2),if_neg (by decide)]
 ·have hA':∃ d∈a,¬isD d/\d≠46:=by
   have:∃ d∈a,¬isD d:=by unfold z89 at hA;simpa using hA
   obtain⟨d,hd,h⟩:=this;exact⟨d,hd,h,hno d hd⟩
  refine z81 (v4d _ ns0 ?_);obtain⟨d,hd,h⟩:=hA';rcases happ with⟨_,h2,_⟩|⟨_,h2⟩
  ·rw [h2];exact⟨d,hd,h⟩
  ·rw [h2];exact⟨d,List.mem_append_left _ hd,h⟩
theorem v9b (l:List Nat) (h:¬v9w (z4a (signed l).2).1 (z4a (signed l).2).2.1):z0o l=z7e (signed l).1 (z4a (signed l).2).1 (z4a (signed l).2).2.1 (z4a (signed l).2).2.2:=by
 have happ:=z6e (signed l).2;generalize hc:z4a (signed l).2=t at h happ;obtain⟨a,b,f⟩:=t;simp only at happ h ⊢;have hE:¬(a=[]/\b=[]):=fun h2=>h (.inl h2);have hA:z89 a:=Decidable.byContradiction fun h2=>h (.inr (.inl h2));have hB:z89 b:=Decidable.byContradiction fun h2=>h (.inr (.inr h2));have hml:=v2o hB;have hne:¬(a.length=0/\b.length=0):=fun h2=>hE ⟨List.eq_nil_of_length_eq_zero h2.1,List.eq_nil_of_length_eq_zero h2.2⟩;have hn0:ns0.digits=0:=rfl;obtain⟨v,hv0⟩:∃ v,z62 0 a=v:=⟨_,rfl⟩
 obtain⟨p,hp0⟩:∃ p,z68 0 b=p:=⟨_,rfl⟩
 rw [hp0] at hml
 have hstep:∀ t:Ns,t.fr=none->z18 t 46=some { t with fr:=some 0 }:=fun t ht=>by
  unfold z18;rw [if_pos ⟨rfl,ht⟩]
 by_cases hv:v<=2147483647
 ·have ha:=y6l a ns0 hA rfl rfl (by show z62 0 a<=_;rw [hv0];exact hv);rw [show z62 ns0.n a=v from hv0] at ha;rcases happ with⟨rfl,h2,rfl⟩|⟨rfl,h2⟩
  ·have hx:xP a [] false=v:=by
    show min (z62 0 a) 2147483648=v;rw [hv0];omega
   have hle:xP a [] false<=mP false:=by rw [hx];exact hv
   rw [z7e,if_pos hle,hx,y6k (l:=l) (by rw [h2];exact ha) (by show ns0.digits+a.length≠0;intro h3;exact hne ⟨by omega,rfl⟩) rfl rfl];cases (signed l).1
   ·rfl
   ·show((0:Int),(2:Nat),(0:Int)-(v:Int))=(0,2,-(v:Int));rw [Int.zero_sub]
  ·have hall:z19 ns0 (signed l).2=some { ns0 with n:=v,digits:=ns0.digits+a.length+b.length,fr:=some (0+b.length),parts:=ns0.parts+p }:=by
    rw [h2,z6t,ha];simp only [Option.bind_some];rw [z19,hstep _ rfl];simp only;rw [y33 b _ 0 hB rfl,hp0]
   have hx:xP a b true=v*1000000+p:=by
    show min (z62 0 a) 2147483648*1000000+z68 0 b=_;rw [hv0,hp0,show min v 2147483648=v from by omega]
   by_cases hg:v=2147483647/\0<p
   ·have hle:¬xP a b true<=mP true:=by rw [hx];show ¬_<=2147483647000000;omega
    rw [z7e,if_neg hle];exact z5j hall (by show ns0.digits+a.length+b.length≠0;omega) (.inr ⟨by simp,hg.1,by show 0<ns0.parts+p;omega⟩)
   ·have hle:xP a b true<=mP true:=by rw [hx];show _<=2147483647000000;omega
    rw [z7e,if_pos hle,hx,y4d hall (by show ns0.digits+a.length+b.length≠0;omega) (by
     rintro(h|⟨_,h3,h4⟩)
     ·cases h
     ·refine hg ⟨h3,?_⟩;have h4:0<ns0.parts+p:=h4;have h5:ns0.parts=0:=rfl;omega) (by simp)]
    have e:1000000*v+(ns0.parts+p)=v*1000000+p:=by
     have h5:ns0.parts=0:=rfl;omega
    show((0:Int),(3:Nat),if (signed l).1 then(0:Int)-((1000000*v+(ns0.parts+p):Nat):Int) else((1000000*v+(ns0.parts+p):Nat):Int))=_;rw [e];cases (signed l).1
    ·rfl
    ·show((0:Int),(3:Nat),(0:Int)-((v*1000000+p:Nat):Int))=(0,3,-((v*1000000+p:Nat):Int));rw [Int.zero_sub]
 ·have hle:¬xP a b f<=mP f:=by
   unfold xP mP;rw [hv0,hp0,show min v 2147483648=2147483648 from by omega];cases f
   ·simp
   ·simp only [if_true];omega
  rw [z7e,if_neg hle]
  have hal:a.length≠0:=fun h2=>by
   rw [List.eq_nil_of_length_eq_zero h2] at hv0;simp [z62] at hv0;omega
  obtain⟨n,h1|h1⟩:=v78 a ns0 hA rfl rfl (by show 2147483647<z62 0 a;omega)
  ·rcases happ with⟨_,h2,_⟩|⟨_,h2⟩
   ·exact z5j (by rw [h2];exact h1) (by show ns0.digits+a.length≠0;omega) (.inl rfl)
   ·refine z5j (t:={ ns0 with n:=n,digits:=ns0.digits+a.length+b.length,over:=true,fr:=some (0+b.length),parts:=ns0.parts+z68 0 b }) ?_ (by show ns0.digits+a.length+b.length≠0;omega) (.inl rfl);rw [h2,z6t,h1];simp only [Option.bind_some];rw [z19,hstep _ rfl];simp only;rw [y33 b _ 0 hB rfl]
  ·exact absurd h1 (by decide)
theorem z2j (k n:Int) (s:ByteArray) (A:Option Addr) (len cap:Nat) (w:World) :
  Calls Tryz.prog 58 #[.agg #[.int .i64 k,.int .i64 n,.string s,.slice A len cap]] w fun e w'=>e=.returned (.int .i64 (z0h k n s.size len))/\Chg NoS w w':=by
 by_cases h3:k=3
 ·subst h3;by_cases c1:n < -2147483647000000
  ·have d1:decide (n < -2147483647000000)=true:=by simpa using c1
   have HZ:Hid (z0h 3 n s.size len=2):=if_neg (fun h=>by have h:=h.2.2;unfold z3v at h;omega);clear c1;go_enter Tryz.func58,Tryz.ntmps58;go_wp2_with fail;go_ret;refine⟨?_,(Chg.refl NoS w).alloc _⟩;rw [HZ.out];rfl
  ·have d1:decide (n < -2147483647000000)=false:=by simpa using c1
   by_cases c2:2147483647000000<n
   ·have d2:decide (2147483647000000<n)=true:=by simpa using c2
    have HZ:Hid (z0h 3 n s.size len=2):=if_neg (fun h=>by have h:=h.2.2;unfold z3v at h;omega);clear c1 c2;go_enter Tryz.func58,Tryz.ntmps58;go_wp2_with fail;go_ret;refine⟨?_,(Chg.refl NoS w).alloc _⟩;rw [HZ.out];rfl
   ·have d2:decide (2147483647000000<n)=false:=by simpa using c2
    by_cases hs:s.size=0
    ·obtain rfl:=z0y hs;by_cases hl:0<len
     ·have d3:decide (0<(len:Int))=true:=by simp;omega
      have d3':decide (0<len)=true:=by simp;omega
      have HZ:Hid (z0h 3 n (ByteArray.mk #[]).size len=2):=if_neg (fun h=>by have h:=h.2.1;omega);clear c1 c2 hs hl;go_enter Tryz.func58,Tryz.ntmps58;go_wp2_with fail;go_ret;refine⟨?_,(Chg.refl NoS w).alloc _⟩;show _=Ending.returned (Value.int IntKind.i64 (z0h _ _ (ByteArray.mk #[]).size _));rw [HZ.out];rfl
     ·obtain rfl:len=0:=by omega
      have HZ:Hid (z0h 3 n (ByteArray.mk #[]).size 0=0):=if_pos ⟨rfl,rfl,by unfold z3v;omega⟩;clear c1 c2 hs hl;go_enter Tryz.func58,Tryz.ntmps58;go_wp2_with fail;go_ret;refine⟨?_,(Chg.refl NoS w).alloc _⟩;show _=Ending.returned (Value.int IntKind.i64 (z0h _ _ (ByteArray.mk #[]).size _));rw [HZ.out];rfl
    ·have u1:=z7r hs;have HZ:Hid (z0h 3 n s.size len=2):=if_neg (fun h=>hs h.1);clear c1 c2 hs;go_enter Tryz.func58,Tryz.ntmps58;go_wp2_with fail;go_ret;refine⟨?_,(Chg.refl NoS w).alloc _⟩;rw [HZ.out];rfl
 ·have u3:(k==3)=false:=by simpa using h3
  by_cases h2:k=2
  ·subst h2;clear u3 h3;by_cases c1:n < -2147483647
   ·have d1:decide (n < -2147483647)=true:=by simpa using c1
    have HZ:Hid (z0h 2 n s.size len=2):=if_neg (fun h=>by have h:=h.2.2;unfold z3v at h;omega);clear c1;go_enter Tryz.func58,Tryz.ntmps58;go_wp2_with fail;go_ret;refine⟨?_,(Chg.refl NoS w).alloc _⟩;rw [HZ.out];rfl
   ·have d1:decide (n < -2147483647)=false:=by simpa using c1
    by_cases c2:2147483647<n
    ·have d2:decide (2147483647<n)=true:=by simpa using c2
     have HZ:Hid (z0h 2 n s.size len=2):=if_neg (fun h=>by have h:=h.2.2;unfold z3v at h;omega);clear c1 c2;go_enter Tryz.func58,Tryz.ntmps58;go_wp2_with fail;go_ret;refine⟨?_,(Chg.refl NoS w).alloc _⟩;rw [HZ.out];rfl
    ·have d2:decide (2147483647<n)=false:=by simpa using c2
     by_cases hs:s.size=0
     ·obtain rfl:=z0y hs;by_cases hl:0<len
      ·have d3:decide (0<(len:Int))=true:=by simp;omega
       have d3':decide (0<len)=true:=by simp;omega
       have HZ:Hid (z0h 2 n (ByteArray.mk #[]).size len=2):=if_neg (fun h=>by have h:=h.2.1;omega);clear c1 c2 hs hl;go_enter Tryz.func58,Tryz.ntmps58;go_wp2_with fail;go_ret;refine⟨?_,(Chg.refl NoS w).alloc _⟩;show _=Ending.returned (Value.int IntKind.i64 (z0h _ _ (ByteArray.mk #[]).size _));rw [HZ.out];rfl
      ·obtain rfl:len=0:=by omega
       have HZ:Hid (z0h 2 n (ByteArray.mk #[]).size 0=0):=if_pos ⟨rfl,rfl,by unfold z3v;omega⟩;clear c1 c2 hs hl;go_enter Tryz.func58,Tryz.ntmps58;go_wp2_with fail;go_ret;refine⟨?_,(Chg.refl NoS w).alloc _⟩;show _=Ending.returned (Value.int IntKind.i64 (z0h _ _ (ByteArray.mk #[]).size _));rw [HZ.out];rfl
     ·have u1:=z7r hs;have HZ:Hid (z0h 2 n s.size len=2):=if_neg (fun h=>hs h.1);clear c1 c2 hs;go_enter Tryz.func58,Tryz.ntmps58;go_wp2_with fail;go_ret;refine⟨?_,(Chg.refl NoS w).alloc _⟩;rw [HZ.out];rfl
  ·have u2:(k==2)=false:=by simpa using h2
   have u2':(k != 2)=true:=by simpa using h2
   have HZ:Hid (z0h k n s.size len=2):=if_neg (fun h=>by have h:=h.2.2;unfold z3v at h;omega);clear h3 h2;go_enter Tryz.func58,Tryz.ntmps58;go_wp2_with fail;go_ret;refine⟨?_,(Chg.refl NoS w).alloc _⟩;rw [HZ.out];rfl
theorem v9r (p:Nat) (h:p<1000000):∃ c m,txt p 6=c::m/\m.length=5:=by
 have h1:=z85 (n:=p) (k:=6) (by omega);have hl:(txt p 6).length=6:=by rw [z56];omega
 rcases hx:txt p 6 with _|⟨c,m⟩
 ·rw [hx] at hl;simp at hl
 ·rw [hx] at hl;exact⟨c,m,rfl,by simpa using hl⟩
theorem y2a (p:Nat) (h:p<1000000):(z5x 5 (txt p 6)).length<=6:=by
 obtain⟨c,m,e,hm⟩:=v9r p h;have:=z9k m;rw [e,y59 c 5 m hm,List.length_cons];omega
theorem y02 (p:Nat) (h:p<1000000) (w:World) :
  Calls Tryz.prog 184 #[.string (sb (txt p 6))] w fun e w'=>e=.returned (.string (sb (z5x 5 (txt p 6))))/\Chg NoS w w':=by
 have hd:=v89 (z8f p 6);obtain⟨c,m,e,hm⟩:=v9r p h;rw [e] at hd ⊢;exact y01 c m hd hm w
theorem y66 (k n:Int) (s:ByteArray) (A:Option Addr) (len cap:Nat) (w:World) (hL:LibOk w) :
  Calls Tryz.prog 151 #[.agg #[.int .i64 k,.int .i64 n,.string s,.slice A len cap]] w (PrTo w k n s.size len):=by
 have HL:=kf hL;have HCH:=kf (fun W=>z2j k n s A len cap W);have HB:=kf (Blk.new w 24 #[.int .i64 k,.int .i64 n,.string s,.slice A len cap]);have HA:=kf ((Chg.refl NoS w).alloc (.cells #[.int .i64 k,.int .i64 n,.string s,.slice A len cap] 24));obtain⟨W,hW⟩:∃ W,W=w.alloc (.cells #[.int .i64 k,.int .i64 n,.string s,.slice A len cap] 24):=⟨_,rfl⟩
 obtain⟨g,hg⟩:∃ g,g=w.heap.size:=⟨_,rfl⟩
 rw [<- hW] at HB HA;rw [<- hg] at HB;by_cases hc:z0h k n s.size len=0
 ·have hm:=hc;unfold z0h at hm;split at hm
  ·rename_i h;obtain⟨h1,h2,h3⟩:=h;obtain rfl:=z0y h1;subst h2
   have HC:Hid (∀ W,Calls Tryz.prog 58 #[.agg #[.int .i64 k,.int .i64 n,.string ⟨#[]⟩,.slice A 0 cap]] W fun e w'=>e=.returned (.int .i64 0)/\Chg NoS W w'):=fun W=>by
    have h:=HCH.out W;rw [hc] at h;exact h
   have HP:Hid (∀ l:List Nat,(if k=2 then z1g n else z2h n)=l->v2k k n (ByteArray.mk #[]).size 0=(l,0)):=fun l hl=>by
    unfold v2k;rw [if_pos hc,hl]
   clear hc hm h1 HCH hL;rcases h3 with⟨hk,b1,b2⟩|⟨hk,b1,b2⟩
   ·obtain rfl:k=2:=hk;by_cases hn:n<0
    ·obtain⟨m,rfl⟩:∃ m:Nat,n=-(m:Int):=⟨n.natAbs,by omega⟩
     have d1:decide (-(m:Int)<0)=true:=by simpa using hn
     have d2:decide (0<(m:Int))=true:=by simp;omega
     have d3:decide (0<m)=true:=by simp;omega
     have hm9:m<=2147483647000000:=by omega
     have HI:=kf (fun W h=>z4t m (by omega) W h);obtain⟨t,ht⟩:∃ t,sb (txt m 1)=t:=⟨_,rfl⟩
     obtain⟨L,hLn⟩:∃ L,t.size=L:=⟨_,rfl⟩
     have hL20:L<=100:=by
      have h1:(dn m).length<=19:=z85 (by omega);rw [<- hLn,<- ht,z0k,z56];omega
     rw [ht] at HI;have i1:¬9223372036854775807<1+L:=by omega
     have i2:1+L<=9223372036854775807:=by omega
     have i3:¬9223372036854775807<L:=by omega
     have i4:L<=9223372036854775807:=by omega
     have HE:Hid (ByteArray.mk #[45]++t=sb (z1g (-(m:Int)))):=by
      show _=_;rw [<- ht,show ByteArray.mk #[45]=sb [45] from rfl,z5s,z1g,y00,if_pos (by omega),show(-(m:Int)).natAbs=m from by omega]
     have HPP:=kf (HP.out _ rfl);rw [if_pos rfl] at HPP;clear ht HP b1 b2 hn;go_enter Tryz.func151,Tryz.ntmps151;go_upto_region 1 with fail;rw [<- hW,<- hg];clear hW hg;have q0:=HB.out.cell 0;have q1:=HB.out.cell 1;have q2:=HB.out.cell 2;have q3:=HB.out.cell 3;simp at q0 q1 q2 q3;go_upto_region 2 with(go_at_call 58;refine(HC.out _).mono ?_;rintro e w2 ⟨rfl,hc2⟩;have HB2:=kf (HB.out.chg hc2 (fun h=>h));have HC2:=kf (HA.out.trans hc2 (fun _ _ h=>h));clear hc2);clear q0 q1 q2 q3;have q0:=HB2.out.cell 0;have q1:=HB2.out.cell 1;simp at q0 q1;go_upto_region 4 with fail;go_quiet (fail);have HL2:=kf ((HL.out.chg HC2.out).chg ((Chg.refl NoS _).drewN nq));have HC3:=kf (HC2.out.drewN nq);go_wp2_with (go_at_call 183;refine(HI.out _ HL2.out).mono ?_;rintro e w5 ⟨rfl,hc5⟩;have HC5:=kf (HC3.out.trans hc5 (fun _ _ h=>h));clear hc5);go_ret2;refine PrTo.of HPP.out ?_ HC5.out;rw [<- HE.out];first|done|rfl|exact sb_ne _
    ·obtain⟨m,rfl⟩:∃ m:Nat,n=(m:Int):=⟨n.natAbs,by omega⟩
     have d1:decide ((m:Int)<0)=false:=by simp
     clear hn;have HI:=kf (fun W h=>z4t m (by omega) W h);obtain⟨t,ht⟩:∃ t,sb (txt m 1)=t:=⟨_,rfl⟩
     obtain⟨L,hLn⟩:∃ L,t.size=L:=⟨_,rfl⟩
     have hL20:L<=100:=by
      have h1:(dn m).length<=19:=z85 (by omega);rw [<- hLn,<- ht,z0k,z56];omega
     rw [ht] at HI;have i1:¬9223372036854775807<1+L:=by omega
     have i2:1+L<=9223372036854775807:=by omega
     have i3:¬9223372036854775807<L:=by omega
     have i4:L<=9223372036854775807:=by omega
     have HE:Hid (t=sb (z1g ((m:Int)))):=by
      show _=_;rw [<- ht,z1g,y00,if_neg (by omega),show(m:Int).natAbs=m from by omega];rfl
     have HPP:=kf (HP.out _ rfl);rw [if_pos rfl] at HPP;clear ht HP b1 b2;go_enter Tryz.func151,Tryz.ntmps151;go_upto_region 1 with fail;rw [<- hW,<- hg];clear hW hg;have q0:=HB.out.cell 0;have q1:=HB.out.cell 1;have q2:=HB.out.cell 2;have q3:=HB.out.cell 3;simp at q0 q1 q2 q3;go_upto_region 2 with(go_at_call 58;refine(HC.out _).mono ?_;rintro e w2 ⟨rfl,hc2⟩;have HB2:=kf (HB.out.chg hc2 (fun h=>h));have HC2:=kf (HA.out.trans hc2 (fun _ _ h=>h));clear hc2);clear q0 q1 q2 q3;have q0:=HB2.out.cell 0;have q1:=HB2.out.cell 1;simp at q0 q1;go_upto_region 4 with fail;go_quiet (fail);have HL2:=kf ((HL.out.chg HC2.out).chg ((Chg.refl NoS _).drewN nq));have HC3:=kf (HC2.out.drewN nq);go_wp2_with (go_at_call 183;refine(HI.out _ HL2.out).mono ?_;rintro e w5 ⟨rfl,hc5⟩;have HC5:=kf (HC3.out.trans hc5 (fun _ _ h=>h));clear hc5);go_ret2;refine PrTo.of HPP.out ?_ HC5.out;rw [<- HE.out];first|done|rfl|exact sb_ne _
   ·obtain rfl:k=3:=hk;by_cases hn:n<0
    ·obtain⟨m,rfl⟩:∃ m:Nat,n=-(m:Int):=⟨n.natAbs,by omega⟩
     have d1:decide (-(m:Int)<0)=true:=by simpa using hn
     have d2:decide (0<(m:Int))=true:=by simp;omega
     have d3:decide (0<m)=true:=by simp;omega
     have hm9:m<=2147483647000000:=by omega
     obtain⟨q,hq⟩:∃ q:Nat,m / 1000000=q:=⟨_,rfl⟩
     obtain⟨p,hp⟩:∃ p:Nat,m%1000000=p:=⟨_,rfl⟩
     have hp6:p<1000000:=by omega
     have hq9:q<=2147483647:=by omega
     have HI:=kf (fun W h=>z4t q (by omega) W h);have HD:=kf (fun W h=>z7z p 6 (by omega) ⟨by omega,by omega⟩ W h);have HS:=kf (fun W=>y02 p hp6 W);obtain⟨t,ht⟩:∃ t,sb (txt q 1)=t:=⟨_,rfl⟩
     obtain⟨L,hLn⟩:∃ L,t.size=L:=⟨_,rfl⟩
     have hL20:L<=100:=by
      have h1:(dn q).length<=19:=z85 (by omega);rw [<- hLn,<- ht,z0k,z56];omega
     obtain⟨u,hu⟩:∃ u,sb (z5x 5 (txt p 6))=u:=⟨_,rfl⟩
     obtain⟨M,hMn⟩:∃ M,u.size=M:=⟨_,rfl⟩
     have hM20:M<=100:=by
      have h1:=y2a p hp6;rw [<- hMn,<- hu,z0k];omega
     obtain⟨v,hv⟩:∃ v,sb (txt p 6)=v:=⟨_,rfl⟩
     rw [ht] at HI;rw [hu,hv] at HS;rw [hv] at HD;have i1:¬9223372036854775807<1+L:=by omega
     have i2:1+L<=9223372036854775807:=by omega
     have i3:¬9223372036854775807<L:=by omega
     have i4:L<=9223372036854775807:=by omega
     have i5:¬9223372036854775807<1+L+1:=by omega
     have i6:1+L+1<=9223372036854775807:=by omega
     have i7:¬9223372036854775807<L+1:=by omega
     have i8:L+1<=9223372036854775807:=by omega
     have i9:¬9223372036854775807<1+L+1+M:=by omega
     have i10:1+L+1+M<=9223372036854775807:=by omega
     have i11:¬9223372036854775807<L+1+M:=by omega
     have i12:L+1+M<=9223372036854775807:=by omega
     have t1:(m:Int).tdiv 1000000=(q:Int):=by rw [Int.tdiv_eq_ediv_of_nonneg (by omega)];omega
     have t2:(m:Int).tmod 1000000=(p:Int):=by rw [Int.tmod_eq_emod_of_nonneg (by omega)];omega
     have t3:(m:Int) / 1000000=(q:Int):=by omega
     have t4:(m:Int)%1000000=(p:Int):=by omega
     have HE:Hid (ByteArray.mk #[45]++t++ByteArray.mk #[46]++u=sb (z2h (-(m:Int)))):=by
      show _=_;rw [<- ht,<- hu,show ByteArray.mk #[45]=sb [45] from rfl,show ByteArray.mk #[46]=sb [46] from rfl,z5s,z5s,z5s,z2h,y00,if_pos (by omega),show(-(m:Int)).natAbs=m from by omega,hq,hp];simp
     have HPP:=kf (HP.out _ rfl);rw [if_neg (by decide)] at HPP;clear ht hu hv hq hp HP b1 b2 hn;go_enter Tryz.func151,Tryz.ntmps151;go_upto_region 1 with fail;rw [<- hW,<- hg];clear hW hg;have q0:=HB.out.cell 0;have q1:=HB.out.cell 1;have q2:=HB.out.cell 2;have q3:=HB.out.cell 3;simp at q0 q1 q2 q3;go_upto_region 2 with(go_at_call 58;refine(HC.out _).mono ?_;rintro e w2 ⟨rfl,hc2⟩;have HB2:=kf (HB.out.chg hc2 (fun h=>h));have HC2:=kf (HA.out.trans hc2 (fun _ _ h=>h));clear hc2);clear q0 q1 q2 q3;have q0:=HB2.out.cell 0;have q1:=HB2.out.cell 1;simp at q0 q1;go_upto_region 4 with fail;go_quiet (fail);have HL2:=kf ((HL.out.chg HC2.out).chg ((Chg.refl NoS _).drewN nq));have HC3:=kf (HC2.out.drewN nq);go_wp2_with first|(go_at_call 183;refine(HI.out _ HL2.out).mono ?_;rintro e w5 ⟨rfl,hc5⟩;have HL5:=kf (HL2.out.chg hc5);have HC5:=kf (HC3.out.trans hc5 (fun _ _ h=>h));clear hc5)|(go_at_call 185;refine(HD.out _ HL5.out).mono ?_;rintro e w6 ⟨rfl,hc6⟩;have HC6:=kf (HC5.out.trans hc6 (fun _ _ h=>h));clear hc6)|(go_at_call 184;refine(HS.out _).mono ?_;rintro e w7 ⟨rfl,hc7⟩;have HC7:=kf (HC6.out.trans hc7 (fun _ _ h=>h));clear hc7)
     go_ret2;refine PrTo.of HPP.out ?_ HC7.out;rw [<- HE.out];first|done|rfl|(rw [sb_ne];rfl)|simp [sb_ne]
    ·obtain⟨m,rfl⟩:∃ m:Nat,n=(m:Int):=⟨n.natAbs,by omega⟩
     have d1:decide ((m:Int)<0)=false:=by simp
     clear hn;obtain⟨q,hq⟩:∃ q:Nat,m / 1000000=q:=⟨_,rfl⟩
     obtain⟨p,hp⟩:∃ p:Nat,m%1000000=p:=⟨_,rfl⟩
     have hp6:p<1000000:=by omega
     have hq9:q<=2147483647:=by omega
     have HI:=kf (fun W h=>z4t q (by omega) W h);have HD:=kf (fun W h=>z7z p 6 (by omega) ⟨by omega,by omega⟩ W h);have HS:=kf (fun W=>y02 p hp6 W);obtain⟨t,ht⟩:∃ t,sb (txt q 1)=t:=⟨_,rfl⟩
     obtain⟨L,hLn⟩:∃ L,t.size=L:=⟨_,rfl⟩
     have hL20:L<=100:=by
      have h1:(dn q).length<=19:=z85 (by omega);rw [<- hLn,<- ht,z0k,z56];omega
     obtain⟨u,hu⟩:∃ u,sb (z5x 5 (txt p 6))=u:=⟨_,rfl⟩
     obtain⟨M,hMn⟩:∃ M,u.size=M:=⟨_,rfl⟩
     have hM20:M<=100:=by
      have h1:=y2a p hp6;rw [<- hMn,<- hu,z0k];omega
     obtain⟨v,hv⟩:∃ v,sb (txt p 6)=v:=⟨_,rfl⟩
     rw [ht] at HI;rw [hu,hv] at HS;rw [hv] at HD;have i1:¬9223372036854775807<1+L:=by omega
     have i2:1+L<=9223372036854775807:=by omega
     have i3:¬9223372036854775807<L:=by omega
     have i4:L<=9223372036854775807:=by omega
     have i5:¬9223372036854775807<1+L+1:=by omega
     have i6:1+L+1<=9223372036854775807:=by omega
     have i7:¬9223372036854775807<L+1:=by omega
     have i8:L+1<=9223372036854775807:=by omega
     have i9:¬9223372036854775807<1+L+1+M:=by omega
     have i10:1+L+1+M<=9223372036854775807:=by omega
     have i11:¬9223372036854775807<L+1+M:=by omega
     have i12:L+1+M<=9223372036854775807:=by omega
     have t1:(m:Int).tdiv 1000000=(q:Int):=by rw [Int.tdiv_eq_ediv_of_nonneg (by omega)];omega
     have t2:(m:Int).tmod 1000000=(p:Int):=by rw [Int.tmod_eq_emod_of_nonneg (by omega)];omega
     have t3:(m:Int) / 1000000=(q:Int):=by omega
     have t4:(m:Int)%1000000=(p:Int):=by omega
     have HE:Hid (t++ByteArray.mk #[46]++u=sb (z2h ((m:Int)))):=by
      show _=_;rw [<- ht,<- hu,show ByteArray.mk #[46]=sb [46] from rfl,z5s,z5s,z2h,y00,if_neg (by omega),show(m:Int).natAbs=m from by omega,hq,hp];simp
     have HPP:=kf (HP.out _ rfl);rw [if_neg (by decide)] at HPP;clear ht hu hv hq hp HP b1 b2;go_enter Tryz.func151,Tryz.ntmps151;go_upto_region 1 with fail;rw [<- hW,<- hg];clear hW hg;have q0:=HB.out.cell 0;have q1:=HB.out.cell 1;have q2:=HB.out.cell 2;have q3:=HB.out.cell 3;simp at q0 q1 q2 q3;go_upto_region 2 with(go_at_call 58;refine(HC.out _).mono ?_;rintro e w2 ⟨rfl,hc2⟩;have HB2:=kf (HB.out.chg hc2 (fun h=>h));have HC2:=kf (HA.out.trans hc2 (fun _ _ h=>h));clear hc2);clear q0 q1 q2 q3;have q0:=HB2.out.cell 0;have q1:=HB2.out.cell 1;simp at q0 q1;go_upto_region 4 with fail;go_quiet (fail);have HL2:=kf ((HL.out.chg HC2.out).chg ((Chg.refl NoS _).drewN nq));have HC3:=kf (HC2.out.drewN nq);go_wp2_with first|(go_at_call 183;refine(HI.out _ HL2.out).mono ?_;rintro e w5 ⟨rfl,hc5⟩;have HL5:=kf (HL2.out.chg hc5);have HC5:=kf (HC3.out.trans hc5 (fun _ _ h=>h));clear hc5)|(go_at_call 185;refine(HD.out _ HL5.out).mono ?_;rintro e w6 ⟨rfl,hc6⟩;have HC6:=kf (HC5.out.trans hc6 (fun _ _ h=>h));clear hc6)|(go_at_call 184;refine(HS.out _).mono ?_;rintro e w7 ⟨rfl,hc7⟩;have HC7:=kf (HC6.out.trans hc7 (fun _ _ h=>h));clear hc7)
     go_ret2;refine PrTo.of HPP.out ?_ HC7.out;rw [<- HE.out];first|done|rfl|(rw [sb_ne];rfl)|simp [sb_ne]
  ·cases hm
 ·have h2:z0h k n s.size len=2:=by
   unfold z0h at hc ⊢;split
   ·rename_i h;rw [if_pos h] at hc;exact absurd rfl hc
   ·rfl
  have HPP:Hid (v2k k n s.size len=([],2)):=if_neg hc
  have HC:Hid (∀ W,Calls Tryz.prog 58 #[.agg #[.int .i64 k,.int .i64 n,.string s,.slice A len cap]] W fun e w'=>e=.returned (.int .i64 2)/\Chg NoS W w'):=fun W=>by
   have h:=HCH.out W;rw [h2] at h;exact h
  clear hc h2 HCH hL HL;go_enter Tryz.func151,Tryz.ntmps151;go_upto_region 1 with fail;rw [<- hW,<- hg];clear hW hg;have q0:=HB.out.cell 0;have q1:=HB.out.cell 1;have q2:=HB.out.cell 2;have q3:=HB.out.cell 3;simp at q0 q1 q2 q3;go_wp2_with (go_at_call 58;refine(HC.out _).mono ?_;rintro e w2 ⟨rfl,hc2⟩;have HC2:=kf (HA.out.trans hc2 (fun _ _ h=>h));clear hc2);go_ret2;exact PrTo.of HPP.out rfl HC2.out
end Go.Proofs.YtmibnkddappgiaaGreatDoor
