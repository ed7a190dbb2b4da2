/- Merged by program. -/
import Derived.Test.YthejpkflcgjdoaaGreatDoorD36
import Derived.Test.YthejpkflcgjdoaaGreatDoorD37
set_option linter.unusedVariables false
set_option linter.unusedSimpArgs false
namespace Go.Proofs.YthejpkflcgjdoaaGreatDoor
open Go.RowKit
def wxB:List Nat:=[120,114,101,102,10,51,32,49,10,48,48,48,48,48,48,48,48,49,55,32,48,48,48,48,48,32,110,32,10,116,114,97,105,108,101,114,60,60,62,62,32]
def wxG:XGr:=⟨3,[⟨17,0,true⟩]⟩
set_option maxRecDepth 100000 in
theorem wx_wrd:wrdS wxB false sXref (0,0)=(4,0):=by rfl
set_option maxRecDepth 100000 in
theorem wx_tok1:tokX wxB false (4,0)=(⟨1,5,6,2,3,[],[]⟩,(6,0)):=by rfl
set_option maxRecDepth 100000 in
theorem wx_two:twoX wxB false 0 ⟨1,5,6,2,3,[],[]⟩ (6,0)=(1,(8,0)):=by rfl
set_option maxRecDepth 100000 in
theorem wx_line:lineX ((wxB.drop 9).take 19)=⟨17,0,true⟩/\lineE ((wxB.drop 9).take 19)=0:=⟨by rfl,by rfl⟩
theorem wx_ents:entsX wxB false 1 (8,0) []=([⟨17,0,true⟩],(28,0)):=by
 rw [entsX,if_neg (by simp)]
 have h1:(8:Int).toNat+spcX wxB (8:Int).toNat=9:=by rfl
 simp only [h1]
 have h2:entX wxB false 9=(⟨17,0,true⟩,(28,0)):=by
  unfold entX
  rw [if_neg (by decide),wx_line.1,wx_line.2]
  rfl
 rw [h2]
 rfl
set_option maxRecDepth 100000 in
theorem wx_tok2:tokX wxB false (28,0)=(⟨6,29,36,0,0,[],[116,114,97,105,108,101,114]⟩,(36,0)):=by rfl
theorem wx_grp:grpX wxB false 66 (4,0) []=([wxG],(36,0)):=by
 rw [grpX_go (by rw [wx_tok1];exact fun h=>absurd h.1 (by decide)),wx_tok1]
 simp only [List.length_nil]
 rw [wx_two]
 simp only []
 rw [show(1:Int).toNat=1 from rfl,wx_ents]
 simp only []
 rw [grpX_tr (by rw [wx_tok2];exact⟨rfl,rfl⟩),wx_tok2]
 rfl
set_option maxRecDepth 100000 in
theorem wx_run:runI wxB false (36:Int) []=(0,.mk 7 0 ⟨#[]⟩ [],40):=by
 have s1:actO wxB false (nextA wxB 36 false) []=.next 38 [(7,[])]:=by rfl
 have n2:nextA wxB ((38:Nat):Int) false=(0,⟨5,38,40,0,0,[],[]⟩):=by rfl
 have s2:actO wxB false (nextA wxB ((38:Nat):Int) false) [(7,[])]=.done 0 (.mk 7 0 ⟨#[]⟩ []) 40:=by
  rw [n2]
  have hp:popO [((7:Int),[])] 7=(0,.mk 7 0 ⟨#[]⟩ []):=by
   unfold popO
   simp only [ne_eq,not_true_eq_false,if_false,if_true]
   unfold dicO
   rw [if_neg (by decide)]
   first|rfl|(rw [if_neg (by omega)];rfl)
  unfold actO
  simp only [hp]
  rfl
 rw [(runI_next s1).1,runI_done s2]
theorem wx_dic:dicX wxB false (36,0)=(.mk 7 0 ⟨#[]⟩ [],(40,0)):=by
 unfold dicX
 rw [if_neg (by simp),wx_run]
 rfl
theorem wx_xrf:xrfO wxB 0 false=⟨[wxG],.mk 7 0 ⟨#[]⟩ [],40,0⟩:=by
 unfold xrfO
 rw [wx_wrd,wx_grp]
 simp only []
 rw [wx_dic]
 rfl
theorem wx_may:mayX ⟨17,0,true⟩=true:=by rfl
theorem wx_txt:lineT ⟨17,0,true⟩=[48,48,48,48,48,48,48,48,49,55,32,48,48,48,48,48,32,110,32,10]:=by
 unfold lineT
 have h1:dn 17=[49,55]:=by rw [dn_s (by decide),show 17 / 10=1 from rfl,dn_s (by decide),show 1 / 10=0 from rfl,dn_0];rfl
 have h2:txt 17 10=[48,48,48,48,48,48,48,48,49,55]:=by unfold txt;rw [h1];rfl
 have h3:txt 0 5=[48,48,48,48,48]:=by unfold txt;rw [dn_0];rfl
 show txt 17 10++[32]++txt 0 5++[32]++[kindX true]++[32,10]=_
 rw [h2,h3]
 rfl
theorem ev_nos {O:Nat->Prop} {w:World} {P:World->Prop} (h:Ev O w P):Ev NoS w P:=fun V hV=>h V (hV.mono (fun _ _ e=>e.elim))
theorem two_new (w:World) (o:Obj) (T:TypeId) (cs:Array Value):Blk ((w.alloc o).alloc (.cells cs T)) (w.heap.size+1) T cs:=by
 have h:=Blk.new (w.alloc o) T cs
 rwa [World.size_alloc] at h
set_option maxHeartbeats 16000000 in
set_option maxRecDepth 100000 in
theorem r15same_self (xs ys:List GC) (heq:xs.map GC.g=ys.map GC.g) (B:Option Addr) (d:Nat) (B':Option Addr) (d':Nat) (t:VT) (vk vn:Int) (vs:ByteArray) (vA:Option Addr) (vl vc:Nat) (uk un:Int) (us:ByteArray) (uA:Option Addr) (ul uc:Nat) (w:World)
  (hG:Ev NoS w (GsIs xs B d)) (hG':Ev NoS w (GsIs ys B' d')) (hv:ValIs w t ⟨vk,vn,vs,vA,vl,vc⟩) (hv':ValIs w t ⟨uk,un,us,uA,ul,uc⟩) (hl:xs.length<=1000000) (hes:∀ x∈xs,x.g.es.length<=1000000) :
  Calls Tryz.prog 17 #[.agg #[.slice B xs.length d,.int .i64 vk,.int .i64 vn,.string vs,.slice vA vl vc],.agg #[.slice B' ys.length d',.int .i64 uk,.int .i64 un,.string us,.slice uA ul uc]] w fun e w'=>e=.returned (.bool true)/\Chg NoS w w':=by
 have HS:=kf (fun W (h:Chg NoS w W)=>(show Calls Tryz.prog 39 #[.agg #[.int .i64 vk,.int .i64 vn,.string vs,.slice vA vl vc],.agg #[.int .i64 uk,.int .i64 un,.string us,.slice uA ul uc]] W fun e w'=>e=.returned (.bool true)/\Chg NoS W w' from by
  have h1:=rsame11_any t t ⟨vk,vn,vs,vA,vl,vc⟩ ⟨uk,un,us,uA,ul,uc⟩ W (hv.chg h) (hv'.chg h)
  rw [decide_eq_true (cmpT_self t)] at h1
  exact h1))
 have HG:=kf hG
 have HG':=kf hG'
 have HES:=kf hes
 have HEQ:=kf heq
 have hyl:ys.length=xs.length:=by have:=congrArg List.length heq;rw [List.length_map,List.length_map] at this;exact this.symm
 rw [hyl]
 obtain⟨m,hm⟩:∃ m,m=xs.length:=⟨_,rfl⟩
 rw [<- hm] at hl hyl ⊢
 have HM:=kf hm
 have HY:=kf hyl
 have HB:=kf ((Blk.new w 27 #[.slice B m d,.int .i64 vk,.int .i64 vn,.string vs,.slice vA vl vc]).alloc (.cells #[.slice B' m d',.int .i64 uk,.int .i64 un,.string us,.slice uA ul uc] 27))
 have hb2:=Blk.new (w.alloc (.cells #[.slice B m d,.int .i64 vk,.int .i64 vn,.string vs,.slice vA vl vc] 27)) 27 #[.slice B' m d',.int .i64 uk,.int .i64 un,.string us,.slice uA ul uc]
 rw [World.size_alloc] at hb2
 have HC:=kf (((Chg.refl NoS w).alloc (.cells #[.slice B m d,.int .i64 vk,.int .i64 vn,.string vs,.slice vA vl vc] 27)).alloc (.cells #[.slice B' m d',.int .i64 uk,.int .i64 un,.string us,.slice uA ul uc] 27))
 obtain⟨g3,hg3⟩:∃ g,g=w.heap.size+1:=⟨_,rfl⟩
 obtain⟨g2,hg2⟩:∃ g,g=w.heap.size:=⟨_,rfl⟩
 rw [<- hg3] at hb2
 rw [<- hg2] at HB
 have HB2:=kf hb2
 clear hG hG' hv hv' hes heq hyl hm hb2
 go_enter Tryz.func17,Tryz.ntmps17
 go_upto_region 1 with fail
 rw [<- hg2]
 rw [show g2+1=g3 from by omega]
 obtain⟨W1,hW1⟩:∃ W1,W1=(w.alloc (.cells #[.slice B m d,.int .i64 vk,.int .i64 vn,.string vs,.slice vA vl vc] 27)).alloc (.cells #[.slice B' m d',.int .i64 uk,.int .i64 un,.string us,.slice uA ul uc] 27):=⟨_,rfl⟩
 rw [<- hW1] at HB HB2 HC ⊢
 clear hW1 hg2 hg3
 obtain⟨q0,q1,q2,q3,q4,-⟩:=HB.out.cl5
 obtain⟨p0,p1,p2,p3,p4,-⟩:=HB2.out.cl5
 go_wp2_with (go_at_call 39;refine(HS.out _ HC.out).mono ?_;rintro e w3 ⟨rfl,h3⟩;have HC3:=kf h3;clear q0 q1 q2 q3 q4 p0 p1 p2 p3 p4)
 go_loopw [5] (fun vi wr=>∃ k:Nat,k<=m/\vi=.int .i64 (k:Nat)/\Hid (Chg NoS W1 wr)) (fun vi _=>m-(intOf vi).toNat)
 case atStart=>exact⟨0,Nat.zero_le _,rfl,HC3⟩
 case round =>
  obtain⟨k,hk,rfl,HCk⟩:=hrel
  have q0:wr.cell? ⟨g2,0,none⟩=some (.slice B m d):=(HB.out.chg HCk.out (fun e=>e)).cell 0
  have p0:wr.cell? ⟨g3,0,none⟩=some (.slice B' m d'):=(HB2.out.chg HCk.out (fun e=>e)).cell 0
  by_cases hlt:k<m
  ·obtain⟨x,hx⟩:∃ x,xs[k]?=some x:=⟨_,List.getElem?_eq_getElem (by have:=HM.out;omega)⟩
   obtain⟨y,hy⟩:∃ y,ys[k]?=some y:=⟨_,List.getElem?_eq_getElem (by have:=HM.out;have:=HY.out;omega)⟩
   have hxy:x.g=y.g:=by
    have h1:=congrArg (fun l=>l[k]?) HEQ.out
    simp only [List.getElem?_map,hx,hy,Option.map_some] at h1
    exact Option.some.inj h1
   have hcw:=HC.out.trans HCk.out (fun _ _ e=>e)
   have hGr:=HG.out wr hcw
   have hGr':=HG'.out wr hcw
   obtain⟨b,off,rfl,hcell⟩:=gs_at hGr (by have:=HM.out;omega)
   obtain⟨b',off',rfl,hcell'⟩:=gs_at hGr' (by have:=HM.out;have:=HY.out;omega)
   obtain⟨c0,c1⟩:=hcell k x hx
   obtain⟨e0,e1⟩:=hcell' k y hy
   have HEx:=kf (hGr.2 x (List.mem_of_getElem? hx))
   have HEy:=kf (hGr'.2 y (List.mem_of_getElem? hy))
   have hb1:=HES.out x (List.mem_of_getElem? hx)
   obtain⟨⟨first,es⟩,xA,xc⟩:=x
   obtain⟨yg,yA,yc⟩:=y
   simp only [] at hxy
   subst hxy
   simp only [] at c0 c1 e0 e1 HEx HEy hb1
   obtain⟨ln,hln⟩:∃ ln,ln=es.length:=⟨_,rfl⟩
   have HLN:=kf hln
   rw [<- hln] at c1 e1 hb1
   clear hcell hcell' hGr hGr' hx hy hln hcw
   have d1:decide ((k:Int)<m)=true:=by simp;omega
   have key:∀ V,Chg NoS wr V->∀ g i v,wr.cell? ⟨g,i,none⟩=some v->V.cell? ⟨g,i,none⟩=some v:=fun V hV g i v h=>(hV.cell (p:=⟨g,i,none⟩) (cell_lt h) (fun e=>e)).trans h
   have q0a:=fun o=>key _ ((Chg.refl NoS wr).alloc o) _ _ _ q0
   have q0b:=fun o o'=>key _ (((Chg.refl NoS wr).alloc o).alloc o') _ _ _ q0
   have p0a:=fun o=>key _ ((Chg.refl NoS wr).alloc o) _ _ _ p0
   have p0b:=fun o o'=>key _ (((Chg.refl NoS wr).alloc o).alloc o') _ _ _ p0
   have c0a:=fun o=>key _ ((Chg.refl NoS wr).alloc o) _ _ _ c0
   have c0b:=fun o o'=>key _ (((Chg.refl NoS wr).alloc o).alloc o') _ _ _ c0
   have c1a:=fun o=>key _ ((Chg.refl NoS wr).alloc o) _ _ _ c1
   have c1b:=fun o o'=>key _ (((Chg.refl NoS wr).alloc o).alloc o') _ _ _ c1
   have e0a:=fun o=>key _ ((Chg.refl NoS wr).alloc o) _ _ _ e0
   have e0b:=fun o o'=>key _ (((Chg.refl NoS wr).alloc o).alloc o') _ _ _ e0
   have e1a:=fun o=>key _ ((Chg.refl NoS wr).alloc o) _ _ _ e1
   have e1b:=fun o o'=>key _ (((Chg.refl NoS wr).alloc o).alloc o') _ _ _ e1
   clear key
   go_upto_region 6 with fail
   go_cut [6,7] from 24 to 104 (fun s6 s7 wx=>∃ g6 g7,s6=.pointer (some ⟨g6,0,none⟩)/\s7=.pointer (some ⟨g7,0,none⟩)/\Hid (Blk wx g6 56 #[.int .i64 first,.slice xA ln xc]/\Blk wx g7 56 #[.int .i64 first,.slice yA ln yc]/\Chg NoS wr wx))
   case first =>
    go_region
    all_goals
     go_wp2_with fail
     go_meet
     first
      |exact⟨wr.heap.size,wr.heap.size+1,rfl,rfl,kf ⟨((Blk.new wr 56 #[.int .i64 first,.slice xA ln xc]).alloc _).drew,(two_new wr _ 56 #[.int .i64 first,.slice yA ln yc]).drew,(((Chg.refl NoS wr).alloc _).alloc _).drew⟩⟩
      |exact⟨wr.heap.size+1,wr.heap.size,rfl,rfl,kf ⟨(two_new wr _ 56 #[.int .i64 first,.slice xA ln xc]).drew,((Blk.new wr 56 #[.int .i64 first,.slice yA ln yc]).alloc _).drew,(((Chg.refl NoS wr).alloc _).alloc _).drew⟩⟩
   case rest =>
    obtain⟨g6,g7,rfl,rfl,hcx⟩:=hcut
    have HB6:=kf hcx.out.1
    have HB7:=kf hcx.out.2.1
    have HCx:=kf (HCk.out.trans hcx.out.2.2 (fun _ _ e=>e))
    have HEX:=kf (fun V (hV:Chg NoS wc V)=>(show EnS es xA xc V from⟨Src.below (w0:=wr) HEx.out.1 (hcx.out.2.2.trans hV (fun _ _ e=>e)),HEx.out.2⟩))
    have HEY:=kf (fun V (hV:Chg NoS wc V)=>(show EnS es yA yc V from⟨Src.below (w0:=wr) HEy.out.1 (hcx.out.2.2.trans hV (fun _ _ e=>e)),HEy.out.2⟩))
    clear hcx q0 p0 c0 c1 e0 e1 q0a q0b p0a p0b c0a c0b c1a c1b e0a e0b e1a e1b HEx HEy
    obtain⟨W6,hW6⟩:∃ W6,W6=wc:=⟨_,rfl⟩
    subst hW6
    have x0:W6.cell? ⟨g6,0,none⟩=some (.int .i64 first):=HB6.out.cell 0
    have x1:W6.cell? ⟨g6,1,none⟩=some (.slice xA ln xc):=HB6.out.cell 1
    have y0:W6.cell? ⟨g7,0,none⟩=some (.int .i64 first):=HB7.out.cell 0
    have y1:W6.cell? ⟨g7,1,none⟩=some (.slice yA ln yc):=HB7.out.cell 1
    go_wp2_with fail
    clear x0 x1 y0 y1
    obtain⟨wo,hwo⟩:∃ wo:World,wo=wr:=⟨_,rfl⟩
    clear hwo
    go_loopw [8] (fun vj wr2=>∃ j:Nat,j<=ln/\vj=.int .i64 (j:Nat)/\Hid (Chg NoS W6 wr2)) (fun vj _=>ln-(intOf vj).toNat)
    case atStart=>exact⟨0,Nat.zero_le _,rfl,kf (Chg.refl _ _)⟩
    case round =>
     obtain⟨j,hj,rfl,HCj⟩:=hrel
     have x1:=(HB6.out.chg HCj.out (fun e=>e)).cell 1
     have y1:=(HB7.out.chg HCj.out (fun e=>e)).cell 1
     simp only [List.getElem?_toArray] at x1 y1
     by_cases hjl:j<ln
     ·obtain⟨e,he⟩:∃ e,es[j]?=some e:=⟨_,List.getElem?_eq_getElem (by have:=HLN.out;omega)⟩
      obtain⟨b2,off2,rfl,hc2⟩:=es_at (HEX.out _ HCj.out) (by have:=HLN.out;omega)
      obtain⟨b3,off3,rfl,hc3⟩:=es_at (HEY.out _ HCj.out) (by have:=HLN.out;omega)
      obtain⟨f0,f1,f2⟩:=hc2 j e he
      obtain⟨h0,h1,h2⟩:=hc3 j e he
      obtain⟨ep,eg,eu⟩:=e
      simp only [] at f0 f1 f2 h0 h1 h2
      have s1:(ep != ep)=false:=by simp
      have s2:(eg != eg)=false:=by simp
      have s3:(eu != eu)=false:=by simp
      have d2:decide ((j:Int)<ln)=true:=by simp;omega
      clear hc2 hc3 he
      go_upto_region 12 with fail
      go_quiet (fail)
      go_wp2_with fail
      go_roundw
      case rel=>exact⟨j+1,by omega,by go_num,kf (HCj.out.drewN _)⟩
      case measure=>simp [intOf];omega
     ·have d2:decide ((j:Int)<ln)=false:=by simp;omega
      have d3:decide (j<ln)=false:=by simp;omega
      go_wp2_with fail
      go_roundw
      case rel=>exact⟨k+1,by omega,by go_num,kf (HCx.out.trans HCj.out (fun _ _ e=>e))⟩
      case measure=>simp [intOf];omega
  ·have d1:decide ((k:Int)<m)=false:=by simp;omega
   have d2:decide (k<m)=false:=by simp;omega
   go_wp2_with fail
   go_ret
   exact⟨rfl,HC.out.trans HCk.out (fun _ _ e=>e)⟩
theorem src_mark12 {w:World} (cs:Array Value) (t:TypeId) (fr:Nat × Nat) {n m size:Nat} (h:n=w.heap.size) (hs:cs.size=m*size):Src (w.alloc (.cells cs t fr)) size (some ⟨n,0,none⟩) m m cs.toList:=by
 subst h
 refine⟨by simpa using hs,fun h=>(by cases h),fun ad hA j u hu=>?_⟩
 cases hA
 have hb:=heap_alloc_new w (.cells cs t fr)
 have hc:=cell_of_row (w.alloc (.cells cs t fr)) w.heap.size j cs t fr hb
 rw [<- Array.getElem?_toList,hu] at hc
 by_cases hj:j=0
 ·subst hj;simpa [Addr.add] using hc
 ·simpa [Addr.add,hj] using hc
theorem wx_parse (w:World):Calls Tryz.prog 18 #[.slice (some ⟨w.heap.size,0,none⟩) 41 41,.int .i64 0,.bool false] (w.alloc (.cells #[.int .u8 120,.int .u8 114,.int .u8 101,.int .u8 102,.int .u8 10,.int .u8 51,.int .u8 32,.int .u8 49,.int .u8 10,.int .u8 48,.int .u8 48,.int .u8 48,.int .u8 48,.int .u8 48,.int .u8 48,.int .u8 48,.int .u8 48,.int .u8 49,.int .u8 55,.int .u8 32,.int .u8 48,.int .u8 48,.int .u8 48,.int .u8 48,.int .u8 48,.int .u8 32,.int .u8 110,.int .u8 32,.int .u8 10,.int .u8 116,.int .u8 114,.int .u8 97,.int .u8 105,.int .u8 108,.int .u8 101,.int .u8 114,.int .u8 60,.int .u8 60,.int .u8 62,.int .u8 62,.int .u8 32] 5 (41,42))) (XPTo (w.alloc (.cells #[.int .u8 120,.int .u8 114,.int .u8 101,.int .u8 102,.int .u8 10,.int .u8 51,.int .u8 32,.int .u8 49,.int .u8 10,.int .u8 48,.int .u8 48,.int .u8 48,.int .u8 48,.int .u8 48,.int .u8 48,.int .u8 48,.int .u8 48,.int .u8 49,.int .u8 55,.int .u8 32,.int .u8 48,.int .u8 48,.int .u8 48,.int .u8 48,.int .u8 48,.int .u8 32,.int .u8 110,.int .u8 32,.int .u8 10,.int .u8 116,.int .u8 114,.int .u8 97,.int .u8 105,.int .u8 108,.int .u8 101,.int .u8 114,.int .u8 60,.int .u8 60,.int .u8 62,.int .u8 62,.int .u8 32] 5 (41,42))) ⟨[wxG],.mk 7 0 ⟨#[]⟩ [],40,0⟩):=by
 have h:=xparse_any wxB (some ⟨w.heap.size,0,none⟩) 41 0 false _ ⟨src_mark12 #[.int .u8 120,.int .u8 114,.int .u8 101,.int .u8 102,.int .u8 10,.int .u8 51,.int .u8 32,.int .u8 49,.int .u8 10,.int .u8 48,.int .u8 48,.int .u8 48,.int .u8 48,.int .u8 48,.int .u8 48,.int .u8 48,.int .u8 48,.int .u8 49,.int .u8 55,.int .u8 32,.int .u8 48,.int .u8 48,.int .u8 48,.int .u8 48,.int .u8 48,.int .u8 32,.int .u8 110,.int .u8 32,.int .u8 10,.int .u8 116,.int .u8 114,.int .u8 97,.int .u8 105,.int .u8 108,.int .u8 101,.int .u8 114,.int .u8 60,.int .u8 60,.int .u8 62,.int .u8 62,.int .u8 32] 5 (41,42) rfl rfl,by decide,by decide,by decide⟩
 rw [wx_xrf] at h
 exact h
theorem wx_find:fndX 3 [wxG]=some ⟨17,0,true⟩:=by rfl
set_option maxHeartbeats 16000000 in
set_option maxRecDepth 100000 in
theorem works_any15 (w:World) (hL:LibOk w):Calls Tryz.prog 8 #[] w fun e w'=>e=.returned (.bool true)/\Chg NoS w w':=by
 have HPA:=kf (fun W=>wx_parse W)
 have hcv:∀ W:World,(convert 32 32 (.slice (some ⟨W.heap.size,0,none⟩) 41 41)).run Tryz.prog (W.alloc (.cells #[.int .u8 120,.int .u8 114,.int .u8 101,.int .u8 102,.int .u8 10,.int .u8 51,.int .u8 32,.int .u8 49,.int .u8 10,.int .u8 48,.int .u8 48,.int .u8 48,.int .u8 48,.int .u8 48,.int .u8 48,.int .u8 48,.int .u8 48,.int .u8 49,.int .u8 55,.int .u8 32,.int .u8 48,.int .u8 48,.int .u8 48,.int .u8 48,.int .u8 48,.int .u8 32,.int .u8 110,.int .u8 32,.int .u8 10,.int .u8 116,.int .u8 114,.int .u8 97,.int .u8 105,.int .u8 108,.int .u8 101,.int .u8 114,.int .u8 60,.int .u8 60,.int .u8 62,.int .u8 62,.int .u8 32] 5))=.ok (.slice (some ⟨W.heap.size,0,none⟩) 41 41) (W.alloc (.cells #[.int .u8 120,.int .u8 114,.int .u8 101,.int .u8 102,.int .u8 10,.int .u8 51,.int .u8 32,.int .u8 49,.int .u8 10,.int .u8 48,.int .u8 48,.int .u8 48,.int .u8 48,.int .u8 48,.int .u8 48,.int .u8 48,.int .u8 48,.int .u8 49,.int .u8 55,.int .u8 32,.int .u8 48,.int .u8 48,.int .u8 48,.int .u8 48,.int .u8 48,.int .u8 32,.int .u8 110,.int .u8 32,.int .u8 10,.int .u8 116,.int .u8 114,.int .u8 97,.int .u8 105,.int .u8 108,.int .u8 101,.int .u8 114,.int .u8 60,.int .u8 60,.int .u8 62,.int .u8 62,.int .u8 32] 5 (41,42))):=fun W=>Lib.run_convert_bytes_const W 32 5 _ 41 41 Tryz.underlying32 Tryz.underlying5
 have HEN:=kf (fun W (h:Chg NoS w W)=>(show Calls Tryz.prog 12 #[.agg #[.int .i64 17,.int .i64 0,.bool true]] W fun r w'=>r=.returned (.tuple #[.string (sb [48,48,48,48,48,48,48,48,49,55,32,48,48,48,48,48,32,110,32,10]),.int .i64 0])/\Chg NoS W w' from by
  have h1:=xentry_any ⟨17,0,true⟩ W (hL.chg h) (by decide) (by decide)
  rw [wx_may,wx_txt] at h1
  exact h1))
 clear hL
 go_enter Tryz.func8,Tryz.ntmps8
 go_upto_region 2 with(go_at_call 18;refine(HPA.out _).mono ?_;rintro e w5 ⟨xs,B,d,⟨vk,vn,vs,vA,vl,vc⟩,rfl,hxs,hev,hin,hc5⟩;have HXS:Hid (xs.map GC.g=[wxG]):=hxs;have HEV:=kf (ev_nos hev);have HIN:=kf hin.now;have HC5:=kf (((Chg.refl NoS w).alloc (.cells #[.int .u8 120,.int .u8 114,.int .u8 101,.int .u8 102,.int .u8 10,.int .u8 51,.int .u8 32,.int .u8 49,.int .u8 10,.int .u8 48,.int .u8 48,.int .u8 48,.int .u8 48,.int .u8 48,.int .u8 48,.int .u8 48,.int .u8 48,.int .u8 49,.int .u8 55,.int .u8 32,.int .u8 48,.int .u8 48,.int .u8 48,.int .u8 48,.int .u8 48,.int .u8 32,.int .u8 110,.int .u8 32,.int .u8 10,.int .u8 116,.int .u8 114,.int .u8 97,.int .u8 105,.int .u8 108,.int .u8 101,.int .u8 114,.int .u8 60,.int .u8 60,.int .u8 62,.int .u8 62,.int .u8 32] 5 (41,42))).trans hc5 (fun _ _ e=>e));clear hxs hev hin hc5;unfold secA;simp only [])
 have hxl:xs.length=1:=by have:=congrArg List.length HXS.out;rw [List.length_map] at this;exact this
 rw [hxl]
 have HFI:=kf (fun W (hW:Chg NoS w5 W)=>(show Calls Tryz.prog 21 #[.agg #[.slice B 1 d,.int .i64 vk,.int .i64 vn,.string vs,.slice vA vl vc],.int .i64 3] W fun r w'=>r=.returned (.tuple #[.agg #[.int .i64 17,.int .i64 0,.bool true],.bool true])/\Chg NoS W w' from by
  have h1:=xfind_any xs B d vk vn vs vA vl vc 3 W (HEV.out.chg hW) (by omega) (fun x hx=>by
   have h2:x.g∈[wxG]:=by rw [<- HXS.out];exact List.mem_map_of_mem hx
   rw [List.mem_singleton] at h2
   rw [h2]
   decide) (by decide)
  rw [HXS.out,wx_find,hxl] at h1
  exact h1))
 have HA6:=kf ((Chg.refl NoS w5).alloc (.cells #[.slice B 1 d,.int .i64 vk,.int .i64 vn,.string vs,.slice vA vl vc] 36))
 have HB1:=kf (Blk.new w5 36 #[.slice B 1 d,.int .i64 vk,.int .i64 vn,.string vs,.slice vA vl vc])
 obtain⟨W1,hW1⟩:∃ W1,W1=w5.alloc (.cells #[.slice B 1 d,.int .i64 vk,.int .i64 vn,.string vs,.slice vA vl vc] 36):=⟨_,rfl⟩
 obtain⟨g1,hg1⟩:∃ g,g=w5.heap.size:=⟨_,rfl⟩
 rw [<- hW1] at HA6 HB1 ⊢
 rw [<- hg1] at HB1 ⊢
 clear hW1 hg1 hcv hxl
 obtain⟨q0,q1,q2,q3,q4,-⟩:=HB1.out.cl5
 go_upto_region 3 with(go_at_call 21;refine(HFI.out _ HA6.out).mono ?_;rintro e w6 ⟨rfl,hc6⟩;have HC66:=kf (HA6.out.trans hc6 (fun _ _ e=>e));have HB2:=kf (HB1.out.chg hc6 (fun e=>e));clear hc6)
 have HA7:=kf (HC66.out.alloc (.cells #[.int .i64 17,.int .i64 0,.bool true] 29))
 have HB3:=kf (HB2.out.alloc (.cells #[.int .i64 17,.int .i64 0,.bool true] 29))
 have HB4:=kf (Blk.new w6 29 #[.int .i64 17,.int .i64 0,.bool true])
 obtain⟨W2,hW2⟩:∃ W2,W2=w6.alloc (.cells #[.int .i64 17,.int .i64 0,.bool true] 29):=⟨_,rfl⟩
 obtain⟨g4,hg4⟩:∃ g,g=w6.heap.size:=⟨_,rfl⟩
 rw [<- hW2] at HA7 HB3 HB4 ⊢
 rw [<- hg4] at HB4 ⊢
 clear hW2 hg4 q0 q1 q2 q3 q4
 obtain⟨S1,hS1⟩:∃ S,S=sb [48,48,48,48,48,48,48,48,49,55,32,48,48,48,48,48,32,110,32,10]:=⟨_,rfl⟩
 rw [<- hS1] at HEN
 have hS3:S1.toList=[48,48,48,48,48,48,48,48,49,55,32,48,48,48,48,48,32,110,32,10]:=by rw [hS1];kernel_rfl
 have hS4:(S1.toList==[48,48,48,48,48,48,48,48,49,55,32,48,48,48,48,48,32,110,32,10])=true:=by rw [hS3];rfl
 clear hS1
 go_upto_region 4 with(go_at_call 12;refine(HEN.out _ (HC5.out.trans HA7.out (fun _ _ e=>e))).mono ?_;rintro e W6 ⟨rfl,hc7⟩;have HC7:=kf (HA7.out.trans hc7 (fun _ _ e=>e));have HB5:=kf (HB3.out.chg hc7 (fun e=>e));have HB6:=kf (HB4.out.chg hc7 (fun e=>e));clear hc7)
 have HC6:=kf (HC5.out.trans HC7.out (fun _ _ e=>e))
 have HV6:=kf (HIN.out.chg HC7.out)
 have HHE:=kf (fun W (hW:Chg NoS W6 W)=>(show W.cell? ⟨g1,1,none⟩=some (.int .i64 vk)/\W.cell? ⟨g1,2,none⟩=some (.int .i64 vn)/\W.cell? ⟨g1,3,none⟩=some (.string vs)/\W.cell? ⟨g1,4,none⟩=some (.slice vA vl vc)/\W.cell? ⟨g4,0,none⟩=some (.int .i64 17)/\W.cell? ⟨g4,2,none⟩=some (.bool true) from
  ⟨(HB5.out.chg hW (fun e=>e)).cell 1,(HB5.out.chg hW (fun e=>e)).cell 2,(HB5.out.chg hW (fun e=>e)).cell 3,(HB5.out.chg hW (fun e=>e)).cell 4,(HB6.out.chg hW (fun e=>e)).cell 0,(HB6.out.chg hW (fun e=>e)).cell 2⟩))
 have HDO:=kf (fun W=>dictOf_none none 0 0 W (fun _=>⟨rfl,rfl⟩) (by decide))
 have HSA:=kf (fun W (k' n':Int) (S':ByteArray) (A':Option Addr) (l' c':Nat) (h:Chg NoS W6 W) (h2:ValIs W (.mk 7 0 ⟨#[]⟩ []) ⟨k',n',S',A',l',c'⟩)=>(show Calls Tryz.prog 25 #[.agg #[.int .i64 vk,.int .i64 vn,.string vs,.slice vA vl vc],.agg #[.int .i64 k',.int .i64 n',.string S',.slice A' l' c']] W fun r w'=>r=.returned (.bool true)/\Chg NoS W w' from by
  have h1:=same_any (.mk 7 0 ⟨#[]⟩ []) (.mk 7 0 ⟨#[]⟩ []) ⟨vk,vn,vs,vA,vl,vc⟩ ⟨k',n',S',A',l',c'⟩ W (HV6.out.chg h) h2
  rw [decide_eq_true (cmpT_self _)] at h1
  exact h1))
 refine startZ (fun W=>W.cell? ⟨g1,1,none⟩=some (.int .i64 vk)/\W.cell? ⟨g1,2,none⟩=some (.int .i64 vn)/\W.cell? ⟨g1,3,none⟩=some (.string vs)/\W.cell? ⟨g1,4,none⟩=some (.slice vA vl vc)/\W.cell? ⟨g4,0,none⟩=some (.int .i64 17)/\W.cell? ⟨g4,2,none⟩=some (.bool true)) 32 (by kernel_rfl) (HHE.out _ ((Chg.refl NoS W6).drew)) (fun hHeld=>?_)
 refine takeZ (i:=0) (oi:={ dst:=some 25,op:=Go.Op.move (Go.Operand.tmp 3),type:=33,pos:=_,after:=_,guard:=none }) (v:=?_) rfl (by kernel_rfl) (by kernel_rfl) (by kernel_rfl) (by kernel_rfl) (fun _ _ _ h=>h) (Or.inl ⟨by rfl,?_⟩) (by assumption) ?_
 rotate_left
 ·intro w hSw;(try dsimp only at hSw);(try obtain⟨s0,s1,s2,s3,s4,s5⟩:=hSw);(first|(go_simp;done)|(go_simp;with_reducible rfl))
 try simp only [Act.put,List.setIfInBounds_toArray,List.set_cons_zero,List.set_cons_succ]
 refine takeZ (i:=1) (oi:={ dst:=some 26,op:=Go.Op.binOp Go.BinOp.eql 33 (Go.Operand.tmp 25) (Go.Operand.const (Go.Value.int Go.IntKind.i64 0)) 33,type:=4,pos:=_,after:=_,guard:=none }) (v:=?_) rfl (by kernel_rfl) (by kernel_rfl) (by kernel_rfl) (by kernel_rfl) (fun _ _ _ h=>h) (Or.inl ⟨by rfl,?_⟩) (by assumption) ?_
 rotate_left
 ·intro w hSw;(try dsimp only at hSw);(try obtain⟨s0,s1,s2,s3,s4,s5⟩:=hSw);(first|(go_simp;done)|(go_simp;with_reducible rfl))
 try simp only [Act.put,List.setIfInBounds_toArray,List.set_cons_zero,List.set_cons_succ]
 refine takeZ (i:=2) (oi:={ dst:=some 27,op:=Go.Op.move (Go.Operand.tmp 26),type:=4,pos:=_,after:=_,guard:=none }) (v:=?_) rfl (by kernel_rfl) (by kernel_rfl) (by kernel_rfl) (by kernel_rfl) (fun _ _ _ h=>h) (Or.inl ⟨by rfl,?_⟩) (by assumption) ?_
 rotate_left
 ·intro w hSw;(try dsimp only at hSw);(try obtain⟨s0,s1,s2,s3,s4,s5⟩:=hSw);(first|(go_simp;done)|(go_simp;with_reducible rfl))
 try simp only [Act.put,List.setIfInBounds_toArray,List.set_cons_zero,List.set_cons_succ]
 refine takeZ (i:=3) (oi:={ dst:=some 28,op:=Go.Op.move (Go.Operand.tmp 2),type:=3,pos:=_,after:=_,guard:=some (2,true) }) (v:=?_) rfl (by kernel_rfl) (by kernel_rfl) (by kernel_rfl) (by kernel_rfl) (fun _ _ _ h=>h) (Or.inl ⟨by rfl,?_⟩) (by assumption) ?_
 rotate_left
 ·intro w hSw;(try dsimp only at hSw);(try obtain⟨s0,s1,s2,s3,s4,s5⟩:=hSw);(first|(go_simp;done)|(go_simp;with_reducible rfl))
 try simp only [Act.put,List.setIfInBounds_toArray,List.set_cons_zero,List.set_cons_succ]
 refine takeZ (i:=4) (oi:={ dst:=some 29,op:=Go.Op.binOp Go.BinOp.eql 3 (Go.Operand.tmp 28) (Go.Operand.const (Go.Value.int Go.IntKind.i64 40)) 3,type:=4,pos:=_,after:=_,guard:=some (2,true) }) (v:=?_) rfl (by kernel_rfl) (by kernel_rfl) (by kernel_rfl) (by kernel_rfl) (fun _ _ _ h=>h) (Or.inl ⟨by rfl,?_⟩) (by assumption) ?_
 rotate_left
 ·intro w hSw;(try dsimp only at hSw);(try obtain⟨s0,s1,s2,s3,s4,s5⟩:=hSw);(first|(go_simp;done)|(go_simp;with_reducible rfl))
 try simp only [Act.put,List.setIfInBounds_toArray,List.set_cons_zero,List.set_cons_succ]
 refine takeZ (i:=5) (oi:={ dst:=some 30,op:=Go.Op.pick (Go.Operand.tmp 27) (Go.Operand.tmp 29) (Go.Operand.const (Go.Value.bool false)),type:=4,pos:=_,after:=_,guard:=none }) (v:=?_) rfl (by kernel_rfl) (by kernel_rfl) (by kernel_rfl) (by kernel_rfl) (fun _ _ _ h=>h) (Or.inl ⟨by rfl,?_⟩) (by assumption) ?_
 rotate_left
 ·intro w hSw;(try dsimp only at hSw);(try obtain⟨s0,s1,s2,s3,s4,s5⟩:=hSw);(first|(go_simp;done)|(go_simp;with_reducible rfl))
 try simp only [Act.put,List.setIfInBounds_toArray,List.set_cons_zero,List.set_cons_succ]
 refine takeZ (i:=6) (oi:={ dst:=some 31,op:=Go.Op.move (Go.Operand.tmp 30),type:=4,pos:=_,after:=_,guard:=none }) (v:=?_) rfl (by kernel_rfl) (by kernel_rfl) (by kernel_rfl) (by kernel_rfl) (fun _ _ _ h=>h) (Or.inl ⟨by rfl,?_⟩) (by assumption) ?_
 rotate_left
 ·intro w hSw;(try dsimp only at hSw);(try obtain⟨s0,s1,s2,s3,s4,s5⟩:=hSw);(first|(go_simp;done)|(go_simp;with_reducible rfl))
 try simp only [Act.put,List.setIfInBounds_toArray,List.set_cons_zero,List.set_cons_succ]
 refine takeZ (i:=7) (oi:={ dst:=some 32,op:=Go.Op.move (Go.Operand.tmp 5),type:=4,pos:=_,after:=_,guard:=some (6,true) }) (v:=?_) rfl (by kernel_rfl) (by kernel_rfl) (by kernel_rfl) (by kernel_rfl) (fun _ _ _ h=>h) (Or.inl ⟨by rfl,?_⟩) (by assumption) ?_
 rotate_left
 ·intro w hSw;(try dsimp only at hSw);(try obtain⟨s0,s1,s2,s3,s4,s5⟩:=hSw);(first|(go_simp;done)|(go_simp;with_reducible rfl))
 try simp only [Act.put,List.setIfInBounds_toArray,List.set_cons_zero,List.set_cons_succ]
 refine takeZ (i:=8) (oi:={ dst:=some 33,op:=Go.Op.pick (Go.Operand.tmp 31) (Go.Operand.tmp 32) (Go.Operand.const (Go.Value.bool false)),type:=4,pos:=_,after:=_,guard:=none }) (v:=?_) rfl (by kernel_rfl) (by kernel_rfl) (by kernel_rfl) (by kernel_rfl) (fun _ _ _ h=>h) (Or.inl ⟨by rfl,?_⟩) (by assumption) ?_
 rotate_left
 ·intro w hSw;(try dsimp only at hSw);(try obtain⟨s0,s1,s2,s3,s4,s5⟩:=hSw);(first|(go_simp;done)|(go_simp;with_reducible rfl))
 try simp only [Act.put,List.setIfInBounds_toArray,List.set_cons_zero,List.set_cons_succ]
 refine takeZ (i:=9) (oi:={ dst:=some 34,op:=Go.Op.move (Go.Operand.tmp 33),type:=4,pos:=_,after:=_,guard:=none }) (v:=?_) rfl (by kernel_rfl) (by kernel_rfl) (by kernel_rfl) (by kernel_rfl) (fun _ _ _ h=>h) (Or.inl ⟨by rfl,?_⟩) (by assumption) ?_
 rotate_left
 ·intro w hSw;(try dsimp only at hSw);(try obtain⟨s0,s1,s2,s3,s4,s5⟩:=hSw);(first|(go_simp;done)|(go_simp;with_reducible rfl))
 try simp only [Act.put,List.setIfInBounds_toArray,List.set_cons_zero,List.set_cons_succ]
 refine takeZ (i:=10) (oi:={ dst:=some 35,op:=Go.Op.fieldAddr 29 (Go.Operand.tmp 4) 0,type:=0,pos:=_,after:=_,guard:=some (9,true) }) (v:=?_) rfl (by kernel_rfl) (by kernel_rfl) (by kernel_rfl) (by kernel_rfl) (fun _ _ _ h=>h) (Or.inl ⟨by rfl,?_⟩) (by assumption) ?_
 rotate_left
 ·intro w hSw;(try dsimp only at hSw);(try obtain⟨s0,s1,s2,s3,s4,s5⟩:=hSw);(first|(go_simp;done)|(go_simp;with_reducible rfl))
 try simp only [Act.put,List.setIfInBounds_toArray,List.set_cons_zero,List.set_cons_succ]
 refine takeZ (i:=11) (oi:={ dst:=some 36,op:=Go.Op.load 3 (Go.Operand.tmp 35),type:=3,pos:=_,after:=_,guard:=some (9,true) }) (v:=?_) rfl (by kernel_rfl) (by kernel_rfl) (by kernel_rfl) (by kernel_rfl) (fun _ _ _ h=>h) (Or.inl ⟨by rfl,?_⟩) (by assumption) ?_
 rotate_left
 ·intro w hSw;(try dsimp only at hSw);(try obtain⟨s0,s1,s2,s3,s4,s5⟩:=hSw);(first|(go_simp;done)|(go_simp;with_reducible rfl))
 try simp only [Act.put,List.setIfInBounds_toArray,List.set_cons_zero,List.set_cons_succ]
 refine takeZ (i:=12) (oi:={ dst:=some 37,op:=Go.Op.binOp Go.BinOp.eql 3 (Go.Operand.tmp 36) (Go.Operand.const (Go.Value.int Go.IntKind.i64 17)) 3,type:=4,pos:=_,after:=_,guard:=some (9,true) }) (v:=?_) rfl (by kernel_rfl) (by kernel_rfl) (by kernel_rfl) (by kernel_rfl) (fun _ _ _ h=>h) (Or.inl ⟨by rfl,?_⟩) (by assumption) ?_
 rotate_left
 ·intro w hSw;(try dsimp only at hSw);(try obtain⟨s0,s1,s2,s3,s4,s5⟩:=hSw);(first|(go_simp;done)|(go_simp;with_reducible rfl))
 try simp only [Act.put,List.setIfInBounds_toArray,List.set_cons_zero,List.set_cons_succ]
 refine takeZ (i:=13) (oi:={ dst:=some 38,op:=Go.Op.pick (Go.Operand.tmp 34) (Go.Operand.tmp 37) (Go.Operand.const (Go.Value.bool false)),type:=4,pos:=_,after:=_,guard:=none }) (v:=?_) rfl (by kernel_rfl) (by kernel_rfl) (by kernel_rfl) (by kernel_rfl) (fun _ _ _ h=>h) (Or.inl ⟨by rfl,?_⟩) (by assumption) ?_
 rotate_left
 ·intro w hSw;(try dsimp only at hSw);(try obtain⟨s0,s1,s2,s3,s4,s5⟩:=hSw);(first|(go_simp;done)|(go_simp;with_reducible rfl))
 try simp only [Act.put,List.setIfInBounds_toArray,List.set_cons_zero,List.set_cons_succ]
 refine takeZ (i:=14) (oi:={ dst:=some 39,op:=Go.Op.move (Go.Operand.tmp 38),type:=4,pos:=_,after:=_,guard:=none }) (v:=?_) rfl (by kernel_rfl) (by kernel_rfl) (by kernel_rfl) (by kernel_rfl) (fun _ _ _ h=>h) (Or.inl ⟨by rfl,?_⟩) (by assumption) ?_
 rotate_left
 ·intro w hSw;(try dsimp only at hSw);(try obtain⟨s0,s1,s2,s3,s4,s5⟩:=hSw);(first|(go_simp;done)|(go_simp;with_reducible rfl))
 try simp only [Act.put,List.setIfInBounds_toArray,List.set_cons_zero,List.set_cons_succ]
 refine takeZ (i:=15) (oi:={ dst:=some 40,op:=Go.Op.fieldAddr 29 (Go.Operand.tmp 4) 2,type:=0,pos:=_,after:=_,guard:=some (14,true) }) (v:=?_) rfl (by kernel_rfl) (by kernel_rfl) (by kernel_rfl) (by kernel_rfl) (fun _ _ _ h=>h) (Or.inl ⟨by rfl,?_⟩) (by assumption) ?_
 rotate_left
 ·intro w hSw;(try dsimp only at hSw);(try obtain⟨s0,s1,s2,s3,s4,s5⟩:=hSw);(first|(go_simp;done)|(go_simp;with_reducible rfl))
 try simp only [Act.put,List.setIfInBounds_toArray,List.set_cons_zero,List.set_cons_succ]
 refine takeZ (i:=16) (oi:={ dst:=some 41,op:=Go.Op.load 4 (Go.Operand.tmp 40),type:=4,pos:=_,after:=_,guard:=some (14,true) }) (v:=?_) rfl (by kernel_rfl) (by kernel_rfl) (by kernel_rfl) (by kernel_rfl) (fun _ _ _ h=>h) (Or.inl ⟨by rfl,?_⟩) (by assumption) ?_
 rotate_left
 ·intro w hSw;(try dsimp only at hSw);(try obtain⟨s0,s1,s2,s3,s4,s5⟩:=hSw);(first|(go_simp;done)|(go_simp;with_reducible rfl))
 try simp only [Act.put,List.setIfInBounds_toArray,List.set_cons_zero,List.set_cons_succ]
 refine takeZ (i:=17) (oi:={ dst:=some 42,op:=Go.Op.pick (Go.Operand.tmp 39) (Go.Operand.tmp 41) (Go.Operand.const (Go.Value.bool false)),type:=4,pos:=_,after:=_,guard:=none }) (v:=?_) rfl (by kernel_rfl) (by kernel_rfl) (by kernel_rfl) (by kernel_rfl) (fun _ _ _ h=>h) (Or.inl ⟨by rfl,?_⟩) (by assumption) ?_
 rotate_left
 ·intro w hSw;(try dsimp only at hSw);(try obtain⟨s0,s1,s2,s3,s4,s5⟩:=hSw);(first|(go_simp;done)|(go_simp;with_reducible rfl))
 try simp only [Act.put,List.setIfInBounds_toArray,List.set_cons_zero,List.set_cons_succ]
 refine takeZ (i:=18) (oi:={ dst:=some 43,op:=Go.Op.move (Go.Operand.tmp 42),type:=4,pos:=_,after:=_,guard:=none }) (v:=?_) rfl (by kernel_rfl) (by kernel_rfl) (by kernel_rfl) (by kernel_rfl) (fun _ _ _ h=>h) (Or.inl ⟨by rfl,?_⟩) (by assumption) ?_
 rotate_left
 ·intro w hSw;(try dsimp only at hSw);(try obtain⟨s0,s1,s2,s3,s4,s5⟩:=hSw);(first|(go_simp;done)|(go_simp;with_reducible rfl))
 try simp only [Act.put,List.setIfInBounds_toArray,List.set_cons_zero,List.set_cons_succ]
 refine takeZ (i:=19) (oi:={ dst:=some 44,op:=Go.Op.move (Go.Operand.tmp 6),type:=9,pos:=_,after:=_,guard:=some (18,true) }) (v:=?_) rfl (by kernel_rfl) (by kernel_rfl) (by kernel_rfl) (by kernel_rfl) (fun _ _ _ h=>h) (Or.inl ⟨by rfl,?_⟩) (by assumption) ?_
 rotate_left
 ·intro w hSw;(try dsimp only at hSw);(try obtain⟨s0,s1,s2,s3,s4,s5⟩:=hSw);(first|(go_simp;done)|(go_simp;with_reducible rfl))
 try simp only [Act.put,List.setIfInBounds_toArray,List.set_cons_zero,List.set_cons_succ]
 refine takeZ (i:=20) (oi:={ dst:=some 45,op:=Go.Op.binOp Go.BinOp.eql 9 (Go.Operand.tmp 44) (Go.Operand.const (Go.Value.string { data:=#[48,48,48,48,48,48,48,48,49,55,32,48,48,48,48,48,32,110,32,10] })) 9,type:=4,pos:=_,after:=_,guard:=some (18,true) }) (v:=?_) rfl (by kernel_rfl) (by kernel_rfl) (by kernel_rfl) (by kernel_rfl) (fun _ _ _ h=>h) (Or.inl ⟨by rfl,?_⟩) (by assumption) ?_
 rotate_left
 ·intro w hSw;(try dsimp only at hSw);(try obtain⟨s0,s1,s2,s3,s4,s5⟩:=hSw);(first|(go_simp;done)|(go_simp;with_reducible rfl))
 try simp only [Act.put,List.setIfInBounds_toArray,List.set_cons_zero,List.set_cons_succ]
 refine takeZ (i:=21) (oi:={ dst:=some 46,op:=Go.Op.pick (Go.Operand.tmp 43) (Go.Operand.tmp 45) (Go.Operand.const (Go.Value.bool false)),type:=4,pos:=_,after:=_,guard:=none }) (v:=?_) rfl (by kernel_rfl) (by kernel_rfl) (by kernel_rfl) (by kernel_rfl) (fun _ _ _ h=>h) (Or.inl ⟨by rfl,?_⟩) (by assumption) ?_
 rotate_left
 ·intro w hSw;(try dsimp only at hSw);(try obtain⟨s0,s1,s2,s3,s4,s5⟩:=hSw);(first|(go_simp;done)|(go_simp;with_reducible rfl))
 try simp only [Act.put,List.setIfInBounds_toArray,List.set_cons_zero,List.set_cons_succ]
 refine takeZ (i:=22) (oi:={ dst:=some 47,op:=Go.Op.move (Go.Operand.tmp 46),type:=4,pos:=_,after:=_,guard:=none }) (v:=?_) rfl (by kernel_rfl) (by kernel_rfl) (by kernel_rfl) (by kernel_rfl) (fun _ _ _ h=>h) (Or.inl ⟨by rfl,?_⟩) (by assumption) ?_
 rotate_left
 ·intro w hSw;(try dsimp only at hSw);(try obtain⟨s0,s1,s2,s3,s4,s5⟩:=hSw);(first|(go_simp;done)|(go_simp;with_reducible rfl))
 try simp only [Act.put,List.setIfInBounds_toArray,List.set_cons_zero,List.set_cons_succ]
 refine takeZ (i:=23) (oi:={ dst:=some 48,op:=Go.Op.move (Go.Operand.tmp 7),type:=33,pos:=_,after:=_,guard:=some (22,true) }) (v:=?_) rfl (by kernel_rfl) (by kernel_rfl) (by kernel_rfl) (by kernel_rfl) (fun _ _ _ h=>h) (Or.inl ⟨by rfl,?_⟩) (by assumption) ?_
 rotate_left
 ·intro w hSw;(try dsimp only at hSw);(try obtain⟨s0,s1,s2,s3,s4,s5⟩:=hSw);(first|(go_simp;done)|(go_simp;with_reducible rfl))
 try simp only [Act.put,List.setIfInBounds_toArray,List.set_cons_zero,List.set_cons_succ]
 refine takeZ (i:=24) (oi:={ dst:=some 49,op:=Go.Op.binOp Go.BinOp.eql 33 (Go.Operand.tmp 48) (Go.Operand.const (Go.Value.int Go.IntKind.i64 0)) 33,type:=4,pos:=_,after:=_,guard:=some (22,true) }) (v:=?_) rfl (by kernel_rfl) (by kernel_rfl) (by kernel_rfl) (by kernel_rfl) (fun _ _ _ h=>h) (Or.inl ⟨by rfl,?_⟩) (by assumption) ?_
 rotate_left
 ·intro w hSw;(try dsimp only at hSw);(try obtain⟨s0,s1,s2,s3,s4,s5⟩:=hSw);(first|(go_simp;done)|(go_simp;with_reducible rfl))
 try simp only [Act.put,List.setIfInBounds_toArray,List.set_cons_zero,List.set_cons_succ]
 refine takeZ (i:=25) (oi:={ dst:=some 50,op:=Go.Op.pick (Go.Operand.tmp 47) (Go.Operand.tmp 49) (Go.Operand.const (Go.Value.bool false)),type:=4,pos:=_,after:=_,guard:=none }) (v:=?_) rfl (by kernel_rfl) (by kernel_rfl) (by kernel_rfl) (by kernel_rfl) (fun _ _ _ h=>h) (Or.inl ⟨by rfl,?_⟩) (by assumption) ?_
 rotate_left
 ·intro w hSw;(try dsimp only at hSw);(try obtain⟨s0,s1,s2,s3,s4,s5⟩:=hSw);(first|(go_simp;done)|(go_simp;with_reducible rfl))
 try simp only [Act.put,List.setIfInBounds_toArray,List.set_cons_zero,List.set_cons_succ]
 refine takeZ (i:=26) (oi:={ dst:=some 51,op:=Go.Op.move (Go.Operand.tmp 50),type:=4,pos:=_,after:=_,guard:=none }) (v:=?_) rfl (by kernel_rfl) (by kernel_rfl) (by kernel_rfl) (by kernel_rfl) (fun _ _ _ h=>h) (Or.inl ⟨by rfl,?_⟩) (by assumption) ?_
 rotate_left
 ·intro w hSw;(try dsimp only at hSw);(try obtain⟨s0,s1,s2,s3,s4,s5⟩:=hSw);(first|(go_simp;done)|(go_simp;with_reducible rfl))
 try simp only [Act.put,List.setIfInBounds_toArray,List.set_cons_zero,List.set_cons_succ]
 refine takeZ (i:=27) (oi:={ dst:=some 52,op:=Go.Op.fieldAddr 36 (Go.Operand.tmp 1) 1,type:=0,pos:=_,after:=_,guard:=some (26,true) }) (v:=?_) rfl (by kernel_rfl) (by kernel_rfl) (by kernel_rfl) (by kernel_rfl) (fun _ _ _ h=>h) (Or.inl ⟨by rfl,?_⟩) (by assumption) ?_
 rotate_left
 ·intro w hSw;(try dsimp only at hSw);(try obtain⟨s0,s1,s2,s3,s4,s5⟩:=hSw);(first|(go_simp;done)|(go_simp;with_reducible rfl))
 try simp only [Act.put,List.setIfInBounds_toArray,List.set_cons_zero,List.set_cons_succ]
 refine takeZ (i:=28) (oi:={ dst:=some 53,op:=Go.Op.load 25 (Go.Operand.tmp 52),type:=25,pos:=_,after:=_,guard:=some (26,true) }) (v:=?_) rfl (by kernel_rfl) (by kernel_rfl) (by kernel_rfl) (by kernel_rfl) (fun _ _ _ h=>h) (Or.inl ⟨by rfl,?_⟩) (by assumption) ?_
 rotate_left
 ·intro w hSw;(try dsimp only at hSw);(try obtain⟨s0,s1,s2,s3,s4,s5⟩:=hSw);(first|(go_simp;done)|(go_simp;with_reducible rfl))
 try simp only [Act.put,List.setIfInBounds_toArray,List.set_cons_zero,List.set_cons_succ]
 refine oneZ (i:=29) (o:={ dst:=some 54,op:=Go.Op.call { callee:=Go.Callee.value (Go.Operand.func 26),args:=#[Go.Operand.const (Go.Value.slice none 0 0)],argTypes:=#[23] },type:=25,pos:=_,after:=_,guard:=some (26,true) }) (by kernel_rfl) rfl (by decide) (fun K hK=>?_)
 go_simp
 (go_at_call 26;refine(HDO.out _).mono ?_;rintro e w8 ⟨⟨k8,n8,s8,A8,l8,c8⟩,rfl,hv8,hc8⟩;have HV8:=kf hv8;have HC8:=kf ((Chg.refl NoS W6).drew.trans hc8 (fun _ _ e=>e));unfold VC.val;simp only [];clear hv8 hc8)
 refine hK.out _ _ (HHE.out _ HC8.out) (fun hHeld=>?_)
 clear hK K
 try simp only [Act.put,List.setIfInBounds_toArray,List.set_cons_zero,List.set_cons_succ]
 refine oneZ (i:=30) (o:={ dst:=some 55,op:=Go.Op.call { callee:=Go.Callee.value (Go.Operand.func 25),args:=#[Go.Operand.tmp 53,Go.Operand.tmp 54],argTypes:=#[25,25] },type:=4,pos:=_,after:=_,guard:=some (26,true) }) (by kernel_rfl) rfl (by decide) (fun K hK=>?_)
 go_simp
 (go_at_call 25;refine(HSA.out _ k8 n8 s8 A8 l8 c8 HC8.out HV8.out).mono ?_;rintro e w10 ⟨rfl,hc10⟩;have HCX:=kf (HC8.out.trans hc10 (fun _ _ e=>e));clear hc10)
 refine hK.out _ _ (HHE.out _ HCX.out) (fun hHeld=>?_)
 clear hK K
 try simp only [Act.put,List.setIfInBounds_toArray,List.set_cons_zero,List.set_cons_succ]
 refine takeZ (i:=31) (oi:={ dst:=some 56,op:=Go.Op.pick (Go.Operand.tmp 51) (Go.Operand.tmp 55) (Go.Operand.const (Go.Value.bool false)),type:=4,pos:=_,after:=_,guard:=none }) (v:=?_) rfl (by kernel_rfl) (by kernel_rfl) (by kernel_rfl) (by kernel_rfl) (fun _ _ _ h=>h) (Or.inl ⟨by rfl,?_⟩) (by assumption) ?_
 rotate_left
 ·intro w hSw;(try dsimp only at hSw);(try obtain⟨s0,s1,s2,s3,s4,s5⟩:=hSw);(first|(go_simp;done)|(go_simp;with_reducible rfl))
 try simp only [Act.put,List.setIfInBounds_toArray,List.set_cons_zero,List.set_cons_succ]
 refine lastZ (o:={ dst:=some 0,op:=Go.Op.assign (Go.Operand.tmp 56),type:=4,pos:=_,after:=_,guard:=none }) (by kernel_rfl) rfl (by kernel_rfl) (fun K hK=>?_)
 go_simp
 refine hK.out _ _ ?_
 clear hK K
 try simp only [Act.put,List.setIfInBounds_toArray,List.set_cons_zero,List.set_cons_succ]
 go_wp2_with fail
 go_ret
 exact⟨rfl,HC6.out.trans HCX.out (fun _ _ e=>e)⟩
theorem entsX_len {bs:List Nat} {last:Bool}:∀ (n:Nat) (s:FS) (l:List XEn),(entsX bs last n s l).1.length<=l.length+n:=by
 intro n
 induction n with
 |zero=>intro s l;exact Nat.le_refl _
 |succ n ih =>
  intro s l
  rw [entsX]
  split
  ·show l.length<=_;omega
  ·have:=ih (entX bs last (s.1.toNat+spcX bs s.1.toNat)).2 (l++[(entX bs last (s.1.toNat+spcX bs s.1.toNat)).1])
   rw [List.length_append,List.length_singleton] at this
   omega
theorem grpX_small {bs:List Nat} {last:Bool}:∀ (n:Nat) (s:FS) (l:List XGr),(∀ g∈l,g.es.length<=4097)->(∀ g∈(grpX bs last n s l).1,g.es.length<=4097)/\(grpX bs last n s l).1.length<=l.length+n:=by
 intro n
 induction n with
 |zero=>intro s l h;exact⟨h,Nat.le_refl _⟩
 |succ n ih =>
  intro s l h
  rw [grpX]
  split
  ·exact⟨h,by show l.length<=_;omega⟩
  split
  ·exact⟨h,by show l.length<=_;omega⟩
  ·have key:(entsX bs last (twoX bs last l.length (tokX bs last s).1 (tokX bs last s).2).1.toNat (twoX bs last l.length (tokX bs last s).1 (tokX bs last s).2).2 []).1.length<=4097:=by
    by_cases h0:(twoX bs last l.length (tokX bs last s).1 (tokX bs last s).2).2.2=0
    ·have h1:=(two_ok h0).2
     have h2:=entsX_len (bs:=bs) (last:=last) (twoX bs last l.length (tokX bs last s).1 (tokX bs last s).2).1.toNat (twoX bs last l.length (tokX bs last s).1 (tokX bs last s).2).2 []
     rw [List.length_nil] at h2
     omega
    ·rw [entsX_err h0];exact Nat.zero_le _
   have h3:=ih (entsX bs last (twoX bs last l.length (tokX bs last s).1 (tokX bs last s).2).1.toNat (twoX bs last l.length (tokX bs last s).1 (tokX bs last s).2).2 []).2 (l++[⟨(tokX bs last s).1.vn,(entsX bs last (twoX bs last l.length (tokX bs last s).1 (tokX bs last s).2).1.toNat (twoX bs last l.length (tokX bs last s).1 (tokX bs last s).2).2 []).1⟩]) (fun g hg=>by
    rcases List.mem_append.1 hg with h4|h4
    ·exact h g h4
    ·rw [List.mem_singleton] at h4
     rw [h4]
     exact key)
   rw [List.length_append,List.length_singleton] at h3
   exact⟨h3.1,by omega⟩
theorem xrf_small (bs:List Nat) (a:Int) (last:Bool):(∀ g∈(xrfO bs a last).gs,g.es.length<=4097)/\(xrfO bs a last).gs.length<=66:=by
 unfold xrfO
 split
 ·exact⟨fun g hg=>(by cases hg),Nat.zero_le _⟩
 ·have h:=grpX_small (bs:=bs) (last:=last) 66 (wrdS bs last sXref (a,0)) [] (fun g hg=>(by cases hg))
  rw [List.length_nil,Nat.zero_add] at h
  exact h
structure XS3 (w:World) (g1 g2 g3:Nat) (a1 a2 a3:Array Value) (V:World):Prop where
 b1:Blk V g1 36 a1
 b2:Blk V g2 36 a2
 b3:Blk V g3 36 a3
 chg:Chg NoS w V
theorem XS3.call {w V V':World} {g1 g2 g3:Nat} {a1 a2 a3:Array Value} (h:XS3 w g1 g2 g3 a1 a2 a3 V) (hc:Chg NoS V V'):XS3 w g1 g2 g3 a1 a2 a3 V' :=
 ⟨h.b1.chg hc (fun e=>e),h.b2.chg hc (fun e=>e),h.b3.chg hc (fun e=>e),h.chg.trans hc (fun _ _ e=>e)⟩
theorem XS3.held {w V:World} {g1 g2 g3:Nat} {x0 x1 x2 x3 x4 y0 y1 y2 y3 y4 z0 z1 z2 z3 z4:Value} (h:XS3 w g1 g2 g3 #[x0,x1,x2,x3,x4] #[y0,y1,y2,y3,y4] #[z0,z1,z2,z3,z4] V) :
  (V.cell? ⟨g1,0,none⟩=some x0/\V.cell? ⟨g1,1,none⟩=some x1/\V.cell? ⟨g1,2,none⟩=some x2/\V.cell? ⟨g1,3,none⟩=some x3/\V.cell? ⟨g1,4,none⟩=some x4)/\(V.cell? ⟨g2,0,none⟩=some y0/\V.cell? ⟨g2,1,none⟩=some y1/\V.cell? ⟨g2,2,none⟩=some y2/\V.cell? ⟨g2,3,none⟩=some y3/\V.cell? ⟨g2,4,none⟩=some y4)/\(V.cell? ⟨g3,0,none⟩=some z0/\V.cell? ⟨g3,1,none⟩=some z1/\V.cell? ⟨g3,2,none⟩=some z2/\V.cell? ⟨g3,3,none⟩=some z3/\V.cell? ⟨g3,4,none⟩=some z4) :=
 ⟨⟨h.b1.cell 0,h.b1.cell 1,h.b1.cell 2,h.b1.cell 3,h.b1.cell 4⟩,⟨h.b2.cell 0,h.b2.cell 1,h.b2.cell 2,h.b2.cell 3,h.b2.cell 4⟩,⟨h.b3.cell 0,h.b3.cell 1,h.b3.cell 2,h.b3.cell 3,h.b3.cell 4⟩⟩
set_option maxHeartbeats 2000000 in
theorem xof_any (B:Option Addr) (n d:Nat) (k m:Int) (s:ByteArray) (A:Option Addr) (l c:Nat) (w:World):Calls Tryz.prog 20 #[.agg #[.slice B n d,.int .i64 k,.int .i64 m,.string s,.slice A l c]] w fun e w'=>e=.returned (.agg #[.slice B n d,.int .i64 k,.int .i64 m,.string s,.slice A l c])/\Chg NoS w w':=by
 have HB:=kf ((Blk.new w 36 #[.slice B n d,.int .i64 k,.int .i64 m,.string s,.slice A l c]).alloc (.cells #[.slice none 0 0,.int .i64 0,.int .i64 0,.string ⟨#[]⟩,.slice none 0 0] 27))
 have hb2:=Blk.new (w.alloc (.cells #[.slice B n d,.int .i64 k,.int .i64 m,.string s,.slice A l c] 36)) 27 #[.slice none 0 0,.int .i64 0,.int .i64 0,.string ⟨#[]⟩,.slice none 0 0]
 rw [World.size_alloc] at hb2
 have HC:=kf (((Chg.refl NoS w).alloc (.cells #[.slice B n d,.int .i64 k,.int .i64 m,.string s,.slice A l c] 36)).alloc (.cells #[.slice none 0 0,.int .i64 0,.int .i64 0,.string ⟨#[]⟩,.slice none 0 0] 27))
 obtain⟨g3,hg3⟩:∃ g,g=w.heap.size+1:=⟨_,rfl⟩
 obtain⟨g2,hg2⟩:∃ g,g=w.heap.size:=⟨_,rfl⟩
 rw [<- hg3] at hb2
 rw [<- hg2] at HB
 have HG:Hid (w.heap.size<=g3):=by show _<=_;omega
 go_enter Tryz.func20,Tryz.ntmps20
 go_upto_region 1 with fail
 rw [<- hg2]
 rw [show g2+1=g3 from by omega]
 obtain⟨W1,hW1⟩:∃ W1,W1=(w.alloc (.cells #[.slice B n d,.int .i64 k,.int .i64 m,.string s,.slice A l c] 36)).alloc (.cells #[.slice none 0 0,.int .i64 0,.int .i64 0,.string ⟨#[]⟩,.slice none 0 0] 27):=⟨_,rfl⟩
 rw [<- hW1] at HB hb2 HC ⊢
 clear hW1 hg2 hg3
 obtain⟨q0,q1,q2,q3,q4,-⟩:=HB.out.cl5
 obtain⟨p0,p1,p2,p3,p4,u0,u1,u2,u3,u4⟩:=hb2.cl5
 go_wp2_with fail
 refine bodyPost_ret (v:=.agg #[.slice B n d,.int .i64 k,.int .i64 m,.string s,.slice A l c]) (by simp [results,Tryz.results20,go_sem,p0,p1,p2,p3,p4]) rfl ?_
 exact⟨rfl,HC.out.trans (set5_chg W1 g3 _ _ _ _ _) (fun i hi e=>by have:=HG.out;omega)⟩
set_option maxHeartbeats 16000000 in
set_option maxRecDepth 100000 in
theorem staysW15 (bs:List Nat) (A:Option Addr) (c:Nat) (N:Nat) (last:Bool) (w:World) (hS:Src w 1 A bs.length c (lcells bs)) (hm:bs.length<=maxLen) (hb:∀ x∈bs,x<256) (hc:bs.length<=c) (hN:N<65536) (hLib:LibOk w) :
  Calls Tryz.prog 6 #[.slice A bs.length c,.int .u16 (N:Nat),.bool last] w fun e w'=>e=.returned (.bool true)/\Chg NoS w w':=by
 have HW:=kf (fun W (h:Chg NoS w W)=>works_any15 W (hLib.chg h))
 unfold maxLen at hm
 obtain⟨n,hn⟩:∃ n,n=bs.length:=⟨_,rfl⟩
 have HN:=kf hn
 by_cases h4:bs.length<=600
 ·have HV:=kf (fun(W:World) (h:Chg NoS w W)=>xparse_any bs A c 0 last W ⟨Src.below (w0:=w) hS h,by omega,hc,hb⟩)
  rw [<- hn] at hm hc h4 HV ⊢
  obtain⟨k,hk⟩:∃ k,k=N%(n+1):=⟨_,rfl⟩
  have hkn:k<=n:=by have:=Nat.mod_lt N (show 0<n+1 by omega);omega
  have e1:(N:Int)%((n:Int)+1)=(k:Nat):=by rw [hk];rfl
  have d4:decide ((600:Int)<n)=false:=by simp;omega
  have d4':decide (600<n)=false:=by simp;omega
  have hkc:k<=c:=by omega
  have hST:Src w 1 A k c (lcells (bs.take k)):=by
   have h:=src_cutL (lo:=0) (m:=k) hS (by rw [<- hn];exact hc) (by omega)
   rw [cutL_zero,List.drop_zero,Nat.sub_zero] at h
   unfold lcells at h ⊢
   rwa [<- List.map_take] at h
  have htl:(bs.take k).length=k:=by rw [List.length_take];omega
  have HVT:=kf (fun(la:Bool) (W:World) (h:Chg NoS w W)=>by
   have h':=xparse_any (bs.take k) A c 0 la W ⟨by rw [htl];exact Src.below (w0:=w) hST h,by omega,by omega,fun x hx=>hb x (List.mem_of_mem_take hx)⟩
   rw [htl] at h'
   exact h')
  have hto:∀ W:World,(Instr.sliceAt 32 (.slice A n c) none (some (.int .i64 (k:Nat))) none).run Tryz.prog W=.ok (.slice A k c) W:=fun W=>toL A n c k hkc W
  have hst:=xrf_stays (b:=bs) (k:=k) (last:=last) (by omega)
  have hsm:=xrf_small (bs.take k) 0 false
  have HX:=kf (HVT.out false)
  have HZ:=kf (HVT.out true)
  obtain⟨R,hR⟩:∃ R,R=xrfO (bs.take k) 0 false:=⟨_,rfl⟩
  rw [<- hR] at HX hst hsm
  obtain⟨gs,TT,tz,er⟩:=R
  simp only [] at hst hsm
  have HSM:=kf hsm
  unfold XPTo at HX
  simp only [] at HX
  clear hsm
  by_cases her:er=6
  ·subst her
   clear hst hR HVT HZ HV hS hb hc hn hk hST htl HN hLib
   go_enter Tryz.func6,Tryz.ntmps6
   go_wp2_with (first
    |(go_at_call 18;refine(HX.out _ (Chg.refl NoS w)).mono ?_;rintro e w2 ⟨xs,B1,d1,⟨pk,pn,ps,pA,pl,pc⟩,rfl,-,-,-,hc2⟩;have HC2:=kf hc2;clear hc2;unfold secA;simp only [])
    |(go_at_call 8;refine(HW.out _ (HC2.out.alloc _)).mono ?_;rintro e wx ⟨rfl,hcx⟩;have HCx:=kf hcx;clear hcx))
   go_ret
   exact⟨rfl,(HC2.out.alloc _).trans HCx.out (fun _ _ e=>e)⟩
  ·obtain⟨hs1,hs2⟩:=hst her
   rw [hs1] at HV
   rw [hs2] at HZ
   unfold XPTo at HV HZ
   simp only [] at HV HZ
   have v2:(er==6)=false:=by simpa using her
   have v3:(er != 6)=true:=by simpa using her
   clear hst hR HVT hS hb hc hn hk hST htl hs1 hs2 her HN hLib
   go_enter Tryz.func6,Tryz.ntmps6
   go_upto_region 7 with(go_at_call 18;refine(HX.out _ (Chg.refl NoS w)).mono ?_;rintro e w2 ⟨xs,B1,d1,⟨pk,pn,ps,pA,pl,pc⟩,rfl,hx2,hev2,hin2,hc2⟩;have HC2:=kf hc2;have HX2:=kf hx2;have HE2:=kf (ev_nos hev2);have HI2:=kf hin2.now;clear hc2 hx2 hev2 hin2;unfold secA;simp only [])
   have HA2:=kf ((Chg.refl NoS w2).alloc (.cells #[.slice B1 xs.length d1,.int .i64 pk,.int .i64 pn,.string ps,.slice pA pl pc] 36))
   have HB2:=kf (Blk.new w2 36 #[.slice B1 xs.length d1,.int .i64 pk,.int .i64 pn,.string ps,.slice pA pl pc])
   have HE23:=kf (HE2.out.chg HA2.out)
   have HI23:=kf (HI2.out.chg HA2.out)
   have HC23:=kf (HC2.out.trans HA2.out (fun _ _ e=>e))
   obtain⟨W2,hW⟩:∃ W2,W2=w2.alloc (.cells #[.slice B1 xs.length d1,.int .i64 pk,.int .i64 pn,.string ps,.slice pA pl pc] 36):=⟨_,rfl⟩
   obtain⟨g8,hg⟩:∃ g8,g8=w2.heap.size:=⟨_,rfl⟩
   rw [<- hW] at HB2 HE23 HI23 HC23 ⊢
   rw [<- hg] at HB2 ⊢
   clear hW hg HA2 HE2 HI2 HC2
   go_upto_region 8 with(go_at_call 18;refine(HV.out _ HC23.out).mono ?_;rintro e w3 ⟨ys,B2,d2,⟨qk,qn,qs,qA,ql,qc⟩,rfl,hx3,hev3,hin3,hc3⟩;have HC3:=kf hc3;have HX3:=kf hx3;have HE3:=kf (ev_nos hev3);have HI3:=kf hin3.now;clear hc3 hx3 hev3 hin3;unfold secA;simp only [])
   have HA3:=kf ((Chg.refl NoS w3).alloc (.cells #[.slice B2 ys.length d2,.int .i64 qk,.int .i64 qn,.string qs,.slice qA ql qc] 36))
   have HB33:=kf (Blk.new w3 36 #[.slice B2 ys.length d2,.int .i64 qk,.int .i64 qn,.string qs,.slice qA ql qc])
   have HB23:=kf ((HB2.out.chg HC3.out (fun e=>e)).chg HA3.out (fun e=>e))
   have HE233:=kf ((HE23.out.chg HC3.out).chg HA3.out)
   have HI233:=kf ((HI23.out.chg HC3.out).chg HA3.out)
   have HE33:=kf (HE3.out.chg HA3.out)
   have HI33:=kf (HI3.out.chg HA3.out)
   have HC33:=kf ((HC23.out.trans HC3.out (fun _ _ e=>e)).trans HA3.out (fun _ _ e=>e))
   obtain⟨W3,hW⟩:∃ W3,W3=w3.alloc (.cells #[.slice B2 ys.length d2,.int .i64 qk,.int .i64 qn,.string qs,.slice qA ql qc] 36):=⟨_,rfl⟩
   obtain⟨g11,hg⟩:∃ g11,g11=w3.heap.size:=⟨_,rfl⟩
   rw [<- hW] at HB33 HB23 HE233 HI233 HE33 HI33 HC33 ⊢
   rw [<- hg] at HB33 ⊢
   clear hW hg HA3 HE23 HI23 HC23 HB2 HE3 HI3 HC3
   go_upto_region 9 with(go_at_call 18;refine(HZ.out _ HC33.out).mono ?_;rintro e w4 ⟨zs,B3,d3,⟨rk,rn,rs,rA,rl,rc⟩,rfl,hx4,hev4,hin4,hc4⟩;have HC4:=kf hc4;have HX4:=kf hx4;have HE4:=kf (ev_nos hev4);have HI4:=kf hin4.now;clear hc4 hx4 hev4 hin4;unfold secA;simp only [])
   have HA4:=kf ((Chg.refl NoS w4).alloc (.cells #[.slice B3 zs.length d3,.int .i64 rk,.int .i64 rn,.string rs,.slice rA rl rc] 36))
   have hst:XS3 w g8 g11 w4.heap.size #[.slice B1 xs.length d1,.int .i64 pk,.int .i64 pn,.string ps,.slice pA pl pc] #[.slice B2 ys.length d2,.int .i64 qk,.int .i64 qn,.string qs,.slice qA ql qc] #[.slice B3 zs.length d3,.int .i64 rk,.int .i64 rn,.string rs,.slice rA rl rc] (w4.alloc (.cells #[.slice B3 zs.length d3,.int .i64 rk,.int .i64 rn,.string rs,.slice rA rl rc] 36)) :=
    ⟨(HB23.out.chg HC4.out (fun e=>e)).chg HA4.out (fun e=>e),(HB33.out.chg HC4.out (fun e=>e)).chg HA4.out (fun e=>e),Blk.new w4 36 #[.slice B3 zs.length d3,.int .i64 rk,.int .i64 rn,.string rs,.slice rA rl rc],(HC33.out.trans HC4.out (fun _ _ e=>e)).trans HA4.out (fun _ _ e=>e)⟩
   have HEx:=kf ((HE233.out.chg HC4.out).chg HA4.out)
   have HEy:=kf ((HE33.out.chg HC4.out).chg HA4.out)
   have HEz:=kf (HE4.out.chg HA4.out)
   have HIx:=kf ((HI233.out.chg HC4.out).chg HA4.out)
   have HIy:=kf ((HI33.out.chg HC4.out).chg HA4.out)
   have HIz:=kf (HI4.out.chg HA4.out)
   obtain⟨W4,hW⟩:∃ W4,W4=w4.alloc (.cells #[.slice B3 zs.length d3,.int .i64 rk,.int .i64 rn,.string rs,.slice rA rl rc] 36):=⟨_,rfl⟩
   obtain⟨g14,hg⟩:∃ g14,g14=w4.heap.size:=⟨_,rfl⟩
   rw [<- hW,<- hg] at hst
   rw [<- hW] at HEx HEy HEz HIx HIy HIz
   rw [<- hW,<- hg]
   clear hW hg HA4 HE4 HI4 HC4 HC33 HE33 HI33 HE233 HI233 HB23 HB33
   have HST:=kf hst
   have HSZ:Hid (xs.length<=1000000/\∀ x∈xs,x.g.es.length<=1000000):=by
    refine⟨?_,fun x hx=>?_⟩
    ·have h1:=congrArg List.length HX2.out
     rw [List.length_map] at h1
     have:=HSM.out.2
     omega
    ·have h1:=HSM.out.1 x.g (by rw [<- HX2.out];exact List.mem_map_of_mem hx)
     omega
   have HQ1:=kf (fun V (hV:Chg NoS W4 V)=>r15same_self xs ys (HX2.out.trans HX3.out.symm) B1 d1 B2 d2 TT pk pn ps pA pl pc qk qn qs qA ql qc V (HEx.out.chg hV) (HEy.out.chg hV) (HIx.out.chg hV) (HIy.out.chg hV) HSZ.out.1 HSZ.out.2)
   have HQ2:=kf (fun V (hV:Chg NoS W4 V)=>r15same_self xs zs (HX2.out.trans HX4.out.symm) B1 d1 B3 d3 TT pk pn ps pA pl pc rk rn rs rA rl rc V (HEx.out.chg hV) (HEz.out.chg hV) (HIx.out.chg hV) (HIz.out.chg hV) HSZ.out.1 HSZ.out.2)
   have HOF:=kf (fun(B:Option Addr) (n d:Nat) (k m:Int) (s:ByteArray) (A:Option Addr) (l c:Nat) (w:World)=>xof_any B n d k m s A l c w)
   have HS4:=kf ((Chg.refl NoS W4).drew)
   have HSD:=kf (hst.call HS4.out)
   clear hst
   refine startZ (fun W=>(W.cell? ⟨g8,0,none⟩=some (.slice B1 xs.length d1)/\W.cell? ⟨g8,1,none⟩=some (.int .i64 pk)/\W.cell? ⟨g8,2,none⟩=some (.int .i64 pn)/\W.cell? ⟨g8,3,none⟩=some (.string ps)/\W.cell? ⟨g8,4,none⟩=some (.slice pA pl pc))/\(W.cell? ⟨g11,0,none⟩=some (.slice B2 ys.length d2)/\W.cell? ⟨g11,1,none⟩=some (.int .i64 qk)/\W.cell? ⟨g11,2,none⟩=some (.int .i64 qn)/\W.cell? ⟨g11,3,none⟩=some (.string qs)/\W.cell? ⟨g11,4,none⟩=some (.slice qA ql qc))/\(W.cell? ⟨g14,0,none⟩=some (.slice B3 zs.length d3)/\W.cell? ⟨g14,1,none⟩=some (.int .i64 rk)/\W.cell? ⟨g14,2,none⟩=some (.int .i64 rn)/\W.cell? ⟨g14,3,none⟩=some (.string rs)/\W.cell? ⟨g14,4,none⟩=some (.slice rA rl rc))) 35 (by kernel_rfl) HSD.out.held (fun hHeld=>?_)
   refine takeZ (i:=0) (oi:={ dst:=some 53,op:=Go.Op.move (Go.Operand.tmp 10),type:=33,pos:=_,after:=_,guard:=none }) (v:=?_) rfl (by kernel_rfl) (by kernel_rfl) (by kernel_rfl) (by kernel_rfl) (fun _ _ _ h=>h) (Or.inl ⟨by rfl,?_⟩) (by assumption) ?_
   rotate_left
   ·intro w hSw;(try dsimp only at hSw);(try obtain⟨⟨s0,s1,s2,s3,s4⟩,⟨t0,t1,t2,t3,t4⟩,⟨v0,v1,v2,v3,v4⟩⟩:=hSw);(first|(go_simp;done)|(go_simp;with_reducible rfl))
   try simp only [Act.put,List.setIfInBounds_toArray,List.set_cons_zero,List.set_cons_succ]
   refine takeZ (i:=1) (oi:={ dst:=some 54,op:=Go.Op.move (Go.Operand.tmp 13),type:=33,pos:=_,after:=_,guard:=none }) (v:=?_) rfl (by kernel_rfl) (by kernel_rfl) (by kernel_rfl) (by kernel_rfl) (fun _ _ _ h=>h) (Or.inl ⟨by rfl,?_⟩) (by assumption) ?_
   rotate_left
   ·intro w hSw;(try dsimp only at hSw);(try obtain⟨⟨s0,s1,s2,s3,s4⟩,⟨t0,t1,t2,t3,t4⟩,⟨v0,v1,v2,v3,v4⟩⟩:=hSw);(first|(go_simp;done)|(go_simp;with_reducible rfl))
   try simp only [Act.put,List.setIfInBounds_toArray,List.set_cons_zero,List.set_cons_succ]
   refine takeZ (i:=2) (oi:={ dst:=some 55,op:=Go.Op.binOp Go.BinOp.eql 33 (Go.Operand.tmp 53) (Go.Operand.tmp 54) 33,type:=4,pos:=_,after:=_,guard:=none }) (v:=?_) rfl (by kernel_rfl) (by kernel_rfl) (by kernel_rfl) (by kernel_rfl) (fun _ _ _ h=>h) (Or.inl ⟨by rfl,?_⟩) (by assumption) ?_
   rotate_left
   ·intro w hSw;(try dsimp only at hSw);(try obtain⟨⟨s0,s1,s2,s3,s4⟩,⟨t0,t1,t2,t3,t4⟩,⟨v0,v1,v2,v3,v4⟩⟩:=hSw);(first|(go_simp;done)|(go_simp;with_reducible rfl))
   try simp only [Act.put,List.setIfInBounds_toArray,List.set_cons_zero,List.set_cons_succ]
   refine takeZ (i:=3) (oi:={ dst:=some 56,op:=Go.Op.move (Go.Operand.tmp 55),type:=4,pos:=_,after:=_,guard:=none }) (v:=?_) rfl (by kernel_rfl) (by kernel_rfl) (by kernel_rfl) (by kernel_rfl) (fun _ _ _ h=>h) (Or.inl ⟨by rfl,?_⟩) (by assumption) ?_
   rotate_left
   ·intro w hSw;(try dsimp only at hSw);(try obtain⟨⟨s0,s1,s2,s3,s4⟩,⟨t0,t1,t2,t3,t4⟩,⟨v0,v1,v2,v3,v4⟩⟩:=hSw);(first|(go_simp;done)|(go_simp;with_reducible rfl))
   try simp only [Act.put,List.setIfInBounds_toArray,List.set_cons_zero,List.set_cons_succ]
   refine takeZ (i:=4) (oi:={ dst:=some 57,op:=Go.Op.move (Go.Operand.tmp 9),type:=3,pos:=_,after:=_,guard:=some (3,true) }) (v:=?_) rfl (by kernel_rfl) (by kernel_rfl) (by kernel_rfl) (by kernel_rfl) (fun _ _ _ h=>h) (Or.inl ⟨by rfl,?_⟩) (by assumption) ?_
   rotate_left
   ·intro w hSw;(try dsimp only at hSw);(try obtain⟨⟨s0,s1,s2,s3,s4⟩,⟨t0,t1,t2,t3,t4⟩,⟨v0,v1,v2,v3,v4⟩⟩:=hSw);(first|(go_simp;done)|(go_simp;with_reducible rfl))
   try simp only [Act.put,List.setIfInBounds_toArray,List.set_cons_zero,List.set_cons_succ]
   refine takeZ (i:=5) (oi:={ dst:=some 58,op:=Go.Op.move (Go.Operand.tmp 12),type:=3,pos:=_,after:=_,guard:=some (3,true) }) (v:=?_) rfl (by kernel_rfl) (by kernel_rfl) (by kernel_rfl) (by kernel_rfl) (fun _ _ _ h=>h) (Or.inl ⟨by rfl,?_⟩) (by assumption) ?_
   rotate_left
   ·intro w hSw;(try dsimp only at hSw);(try obtain⟨⟨s0,s1,s2,s3,s4⟩,⟨t0,t1,t2,t3,t4⟩,⟨v0,v1,v2,v3,v4⟩⟩:=hSw);(first|(go_simp;done)|(go_simp;with_reducible rfl))
   try simp only [Act.put,List.setIfInBounds_toArray,List.set_cons_zero,List.set_cons_succ]
   refine takeZ (i:=6) (oi:={ dst:=some 59,op:=Go.Op.binOp Go.BinOp.eql 3 (Go.Operand.tmp 57) (Go.Operand.tmp 58) 3,type:=4,pos:=_,after:=_,guard:=some (3,true) }) (v:=?_) rfl (by kernel_rfl) (by kernel_rfl) (by kernel_rfl) (by kernel_rfl) (fun _ _ _ h=>h) (Or.inl ⟨by rfl,?_⟩) (by assumption) ?_
   rotate_left
   ·intro w hSw;(try dsimp only at hSw);(try obtain⟨⟨s0,s1,s2,s3,s4⟩,⟨t0,t1,t2,t3,t4⟩,⟨v0,v1,v2,v3,v4⟩⟩:=hSw);(first|(go_simp;done)|(go_simp;with_reducible rfl))
   try simp only [Act.put,List.setIfInBounds_toArray,List.set_cons_zero,List.set_cons_succ]
   refine takeZ (i:=7) (oi:={ dst:=some 60,op:=Go.Op.pick (Go.Operand.tmp 56) (Go.Operand.tmp 59) (Go.Operand.const (Go.Value.bool false)),type:=4,pos:=_,after:=_,guard:=none }) (v:=?_) rfl (by kernel_rfl) (by kernel_rfl) (by kernel_rfl) (by kernel_rfl) (fun _ _ _ h=>h) (Or.inl ⟨by rfl,?_⟩) (by assumption) ?_
   rotate_left
   ·intro w hSw;(try dsimp only at hSw);(try obtain⟨⟨s0,s1,s2,s3,s4⟩,⟨t0,t1,t2,t3,t4⟩,⟨v0,v1,v2,v3,v4⟩⟩:=hSw);(first|(go_simp;done)|(go_simp;with_reducible rfl))
   try simp only [Act.put,List.setIfInBounds_toArray,List.set_cons_zero,List.set_cons_succ]
   refine takeZ (i:=8) (oi:={ dst:=some 61,op:=Go.Op.move (Go.Operand.tmp 60),type:=4,pos:=_,after:=_,guard:=none }) (v:=?_) rfl (by kernel_rfl) (by kernel_rfl) (by kernel_rfl) (by kernel_rfl) (fun _ _ _ h=>h) (Or.inl ⟨by rfl,?_⟩) (by assumption) ?_
   rotate_left
   ·intro w hSw;(try dsimp only at hSw);(try obtain⟨⟨s0,s1,s2,s3,s4⟩,⟨t0,t1,t2,t3,t4⟩,⟨v0,v1,v2,v3,v4⟩⟩:=hSw);(first|(go_simp;done)|(go_simp;with_reducible rfl))
   try simp only [Act.put,List.setIfInBounds_toArray,List.set_cons_zero,List.set_cons_succ]
   refine takeZ (i:=9) (oi:={ dst:=some 62,op:=Go.Op.load 36 (Go.Operand.tmp 8),type:=36,pos:=_,after:=_,guard:=some (8,true) }) (v:=?_) rfl (by kernel_rfl) (by kernel_rfl) (by kernel_rfl) (by kernel_rfl) (fun _ _ _ h=>h) (Or.inl ⟨by rfl,?_⟩) (by assumption) ?_
   rotate_left
   ·intro w hSw;(try dsimp only at hSw);(try obtain⟨⟨s0,s1,s2,s3,s4⟩,⟨t0,t1,t2,t3,t4⟩,⟨v0,v1,v2,v3,v4⟩⟩:=hSw);(first|(go_simp;done)|(go_simp;with_reducible rfl))
   try simp only [Act.put,List.setIfInBounds_toArray,List.set_cons_zero,List.set_cons_succ]
   refine takeZ (i:=11) (oi:={ dst:=some 64,op:=Go.Op.load 36 (Go.Operand.tmp 11),type:=36,pos:=_,after:=_,guard:=some (8,true) }) (v:=?_) rfl (by kernel_rfl) (by kernel_rfl) (by kernel_rfl) (by kernel_rfl) (fun _ _ _ h=>h) (Or.inl ⟨by rfl,?_⟩) (by assumption) ?_
   rotate_left
   ·intro w hSw;(try dsimp only at hSw);(try obtain⟨⟨s0,s1,s2,s3,s4⟩,⟨t0,t1,t2,t3,t4⟩,⟨v0,v1,v2,v3,v4⟩⟩:=hSw);(first|(go_simp;done)|(go_simp;with_reducible rfl))
   try simp only [Act.put,List.setIfInBounds_toArray,List.set_cons_zero,List.set_cons_succ]
   refine oneZ (i:=10) (o:={ dst:=some 63,op:=Go.Op.call { callee:=Go.Callee.value (Go.Operand.func 20),args:=#[Go.Operand.tmp 62],argTypes:=#[36] },type:=27,pos:=_,after:=_,guard:=some (8,true) }) (by kernel_rfl) rfl (by decide) (fun K hK=>?_)
   go_simp
   (go_at_call 20;refine(HOF.out _ _ _ _ _ _ _ _ _ _).mono ?_;rintro e w6 ⟨rfl,hc6⟩;have HSD:=kf (HSD.out.call hc6);have HS4:=kf (HS4.out.trans hc6 (fun _ _ e=>e));clear hc6)
   refine hK.out _ _ HSD.out.held (fun hHeld=>?_)
   clear hK K
   try simp only [Act.put,List.setIfInBounds_toArray,List.set_cons_zero,List.set_cons_succ]
   refine oneZ (i:=12) (o:={ dst:=some 65,op:=Go.Op.call { callee:=Go.Callee.value (Go.Operand.func 20),args:=#[Go.Operand.tmp 64],argTypes:=#[36] },type:=27,pos:=_,after:=_,guard:=some (8,true) }) (by kernel_rfl) rfl (by decide) (fun K hK=>?_)
   go_simp
   (go_at_call 20;refine(HOF.out _ _ _ _ _ _ _ _ _ _).mono ?_;rintro e w6 ⟨rfl,hc6⟩;have HSD:=kf (HSD.out.call hc6);have HS4:=kf (HS4.out.trans hc6 (fun _ _ e=>e));clear hc6)
   refine hK.out _ _ HSD.out.held (fun hHeld=>?_)
   clear hK K
   try simp only [Act.put,List.setIfInBounds_toArray,List.set_cons_zero,List.set_cons_succ]
   refine oneZ (i:=13) (o:={ dst:=some 66,op:=Go.Op.call { callee:=Go.Callee.value (Go.Operand.func 17),args:=#[Go.Operand.tmp 63,Go.Operand.tmp 65],argTypes:=#[27,27] },type:=4,pos:=_,after:=_,guard:=some (8,true) }) (by kernel_rfl) rfl (by decide) (fun K hK=>?_)
   go_simp
   (go_at_call 17;refine(HQ1.out _ HS4.out).mono ?_;rintro e w6 ⟨rfl,hc6⟩;have HSD:=kf (HSD.out.call hc6);have HS4:=kf (HS4.out.trans hc6 (fun _ _ e=>e));clear hc6)
   refine hK.out _ _ HSD.out.held (fun hHeld=>?_)
   clear hK K
   try simp only [Act.put,List.setIfInBounds_toArray,List.set_cons_zero,List.set_cons_succ]
   refine takeZ (i:=14) (oi:={ dst:=some 67,op:=Go.Op.pick (Go.Operand.tmp 61) (Go.Operand.tmp 66) (Go.Operand.const (Go.Value.bool false)),type:=4,pos:=_,after:=_,guard:=none }) (v:=?_) rfl (by kernel_rfl) (by kernel_rfl) (by kernel_rfl) (by kernel_rfl) (fun _ _ _ h=>h) (Or.inl ⟨by rfl,?_⟩) (by assumption) ?_
   rotate_left
   ·intro w hSw;(try dsimp only at hSw);(try obtain⟨⟨s0,s1,s2,s3,s4⟩,⟨t0,t1,t2,t3,t4⟩,⟨v0,v1,v2,v3,v4⟩⟩:=hSw);(first|(go_simp;done)|(go_simp;with_reducible rfl))
   try simp only [Act.put,List.setIfInBounds_toArray,List.set_cons_zero,List.set_cons_succ]
   refine takeZ (i:=15) (oi:={ dst:=some 68,op:=Go.Op.move (Go.Operand.tmp 67),type:=4,pos:=_,after:=_,guard:=none }) (v:=?_) rfl (by kernel_rfl) (by kernel_rfl) (by kernel_rfl) (by kernel_rfl) (fun _ _ _ h=>h) (Or.inl ⟨by rfl,?_⟩) (by assumption) ?_
   rotate_left
   ·intro w hSw;(try dsimp only at hSw);(try obtain⟨⟨s0,s1,s2,s3,s4⟩,⟨t0,t1,t2,t3,t4⟩,⟨v0,v1,v2,v3,v4⟩⟩:=hSw);(first|(go_simp;done)|(go_simp;with_reducible rfl))
   try simp only [Act.put,List.setIfInBounds_toArray,List.set_cons_zero,List.set_cons_succ]
   refine takeZ (i:=16) (oi:={ dst:=some 69,op:=Go.Op.move (Go.Operand.tmp 10),type:=33,pos:=_,after:=_,guard:=some (15,true) }) (v:=?_) rfl (by kernel_rfl) (by kernel_rfl) (by kernel_rfl) (by kernel_rfl) (fun _ _ _ h=>h) (Or.inl ⟨by rfl,?_⟩) (by assumption) ?_
   rotate_left
   ·intro w hSw;(try dsimp only at hSw);(try obtain⟨⟨s0,s1,s2,s3,s4⟩,⟨t0,t1,t2,t3,t4⟩,⟨v0,v1,v2,v3,v4⟩⟩:=hSw);(first|(go_simp;done)|(go_simp;with_reducible rfl))
   try simp only [Act.put,List.setIfInBounds_toArray,List.set_cons_zero,List.set_cons_succ]
   refine takeZ (i:=17) (oi:={ dst:=some 70,op:=Go.Op.move (Go.Operand.tmp 16),type:=33,pos:=_,after:=_,guard:=some (15,true) }) (v:=?_) rfl (by kernel_rfl) (by kernel_rfl) (by kernel_rfl) (by kernel_rfl) (fun _ _ _ h=>h) (Or.inl ⟨by rfl,?_⟩) (by assumption) ?_
   rotate_left
   ·intro w hSw;(try dsimp only at hSw);(try obtain⟨⟨s0,s1,s2,s3,s4⟩,⟨t0,t1,t2,t3,t4⟩,⟨v0,v1,v2,v3,v4⟩⟩:=hSw);(first|(go_simp;done)|(go_simp;with_reducible rfl))
   try simp only [Act.put,List.setIfInBounds_toArray,List.set_cons_zero,List.set_cons_succ]
   refine takeZ (i:=18) (oi:={ dst:=some 71,op:=Go.Op.binOp Go.BinOp.eql 33 (Go.Operand.tmp 69) (Go.Operand.tmp 70) 33,type:=4,pos:=_,after:=_,guard:=some (15,true) }) (v:=?_) rfl (by kernel_rfl) (by kernel_rfl) (by kernel_rfl) (by kernel_rfl) (fun _ _ _ h=>h) (Or.inl ⟨by rfl,?_⟩) (by assumption) ?_
   rotate_left
   ·intro w hSw;(try dsimp only at hSw);(try obtain⟨⟨s0,s1,s2,s3,s4⟩,⟨t0,t1,t2,t3,t4⟩,⟨v0,v1,v2,v3,v4⟩⟩:=hSw);(first|(go_simp;done)|(go_simp;with_reducible rfl))
   try simp only [Act.put,List.setIfInBounds_toArray,List.set_cons_zero,List.set_cons_succ]
   refine takeZ (i:=19) (oi:={ dst:=some 72,op:=Go.Op.pick (Go.Operand.tmp 68) (Go.Operand.tmp 71) (Go.Operand.const (Go.Value.bool false)),type:=4,pos:=_,after:=_,guard:=none }) (v:=?_) rfl (by kernel_rfl) (by kernel_rfl) (by kernel_rfl) (by kernel_rfl) (fun _ _ _ h=>h) (Or.inl ⟨by rfl,?_⟩) (by assumption) ?_
   rotate_left
   ·intro w hSw;(try dsimp only at hSw);(try obtain⟨⟨s0,s1,s2,s3,s4⟩,⟨t0,t1,t2,t3,t4⟩,⟨v0,v1,v2,v3,v4⟩⟩:=hSw);(first|(go_simp;done)|(go_simp;with_reducible rfl))
   try simp only [Act.put,List.setIfInBounds_toArray,List.set_cons_zero,List.set_cons_succ]
   refine takeZ (i:=20) (oi:={ dst:=some 73,op:=Go.Op.move (Go.Operand.tmp 72),type:=4,pos:=_,after:=_,guard:=none }) (v:=?_) rfl (by kernel_rfl) (by kernel_rfl) (by kernel_rfl) (by kernel_rfl) (fun _ _ _ h=>h) (Or.inl ⟨by rfl,?_⟩) (by assumption) ?_
   rotate_left
   ·intro w hSw;(try dsimp only at hSw);(try obtain⟨⟨s0,s1,s2,s3,s4⟩,⟨t0,t1,t2,t3,t4⟩,⟨v0,v1,v2,v3,v4⟩⟩:=hSw);(first|(go_simp;done)|(go_simp;with_reducible rfl))
   try simp only [Act.put,List.setIfInBounds_toArray,List.set_cons_zero,List.set_cons_succ]
   refine takeZ (i:=21) (oi:={ dst:=some 74,op:=Go.Op.move (Go.Operand.tmp 9),type:=3,pos:=_,after:=_,guard:=some (20,true) }) (v:=?_) rfl (by kernel_rfl) (by kernel_rfl) (by kernel_rfl) (by kernel_rfl) (fun _ _ _ h=>h) (Or.inl ⟨by rfl,?_⟩) (by assumption) ?_
   rotate_left
   ·intro w hSw;(try dsimp only at hSw);(try obtain⟨⟨s0,s1,s2,s3,s4⟩,⟨t0,t1,t2,t3,t4⟩,⟨v0,v1,v2,v3,v4⟩⟩:=hSw);(first|(go_simp;done)|(go_simp;with_reducible rfl))
   try simp only [Act.put,List.setIfInBounds_toArray,List.set_cons_zero,List.set_cons_succ]
   refine takeZ (i:=22) (oi:={ dst:=some 75,op:=Go.Op.move (Go.Operand.tmp 15),type:=3,pos:=_,after:=_,guard:=some (20,true) }) (v:=?_) rfl (by kernel_rfl) (by kernel_rfl) (by kernel_rfl) (by kernel_rfl) (fun _ _ _ h=>h) (Or.inl ⟨by rfl,?_⟩) (by assumption) ?_
   rotate_left
   ·intro w hSw;(try dsimp only at hSw);(try obtain⟨⟨s0,s1,s2,s3,s4⟩,⟨t0,t1,t2,t3,t4⟩,⟨v0,v1,v2,v3,v4⟩⟩:=hSw);(first|(go_simp;done)|(go_simp;with_reducible rfl))
   try simp only [Act.put,List.setIfInBounds_toArray,List.set_cons_zero,List.set_cons_succ]
   refine takeZ (i:=23) (oi:={ dst:=some 76,op:=Go.Op.binOp Go.BinOp.eql 3 (Go.Operand.tmp 74) (Go.Operand.tmp 75) 3,type:=4,pos:=_,after:=_,guard:=some (20,true) }) (v:=?_) rfl (by kernel_rfl) (by kernel_rfl) (by kernel_rfl) (by kernel_rfl) (fun _ _ _ h=>h) (Or.inl ⟨by rfl,?_⟩) (by assumption) ?_
   rotate_left
   ·intro w hSw;(try dsimp only at hSw);(try obtain⟨⟨s0,s1,s2,s3,s4⟩,⟨t0,t1,t2,t3,t4⟩,⟨v0,v1,v2,v3,v4⟩⟩:=hSw);(first|(go_simp;done)|(go_simp;with_reducible rfl))
   try simp only [Act.put,List.setIfInBounds_toArray,List.set_cons_zero,List.set_cons_succ]
   refine takeZ (i:=24) (oi:={ dst:=some 77,op:=Go.Op.pick (Go.Operand.tmp 73) (Go.Operand.tmp 76) (Go.Operand.const (Go.Value.bool false)),type:=4,pos:=_,after:=_,guard:=none }) (v:=?_) rfl (by kernel_rfl) (by kernel_rfl) (by kernel_rfl) (by kernel_rfl) (fun _ _ _ h=>h) (Or.inl ⟨by rfl,?_⟩) (by assumption) ?_
   rotate_left
   ·intro w hSw;(try dsimp only at hSw);(try obtain⟨⟨s0,s1,s2,s3,s4⟩,⟨t0,t1,t2,t3,t4⟩,⟨v0,v1,v2,v3,v4⟩⟩:=hSw);(first|(go_simp;done)|(go_simp;with_reducible rfl))
   try simp only [Act.put,List.setIfInBounds_toArray,List.set_cons_zero,List.set_cons_succ]
   refine takeZ (i:=25) (oi:={ dst:=some 78,op:=Go.Op.move (Go.Operand.tmp 77),type:=4,pos:=_,after:=_,guard:=none }) (v:=?_) rfl (by kernel_rfl) (by kernel_rfl) (by kernel_rfl) (by kernel_rfl) (fun _ _ _ h=>h) (Or.inl ⟨by rfl,?_⟩) (by assumption) ?_
   rotate_left
   ·intro w hSw;(try dsimp only at hSw);(try obtain⟨⟨s0,s1,s2,s3,s4⟩,⟨t0,t1,t2,t3,t4⟩,⟨v0,v1,v2,v3,v4⟩⟩:=hSw);(first|(go_simp;done)|(go_simp;with_reducible rfl))
   try simp only [Act.put,List.setIfInBounds_toArray,List.set_cons_zero,List.set_cons_succ]
   refine takeZ (i:=26) (oi:={ dst:=some 79,op:=Go.Op.load 36 (Go.Operand.tmp 8),type:=36,pos:=_,after:=_,guard:=some (25,true) }) (v:=?_) rfl (by kernel_rfl) (by kernel_rfl) (by kernel_rfl) (by kernel_rfl) (fun _ _ _ h=>h) (Or.inl ⟨by rfl,?_⟩) (by assumption) ?_
   rotate_left
   ·intro w hSw;(try dsimp only at hSw);(try obtain⟨⟨s0,s1,s2,s3,s4⟩,⟨t0,t1,t2,t3,t4⟩,⟨v0,v1,v2,v3,v4⟩⟩:=hSw);(first|(go_simp;done)|(go_simp;with_reducible rfl))
   try simp only [Act.put,List.setIfInBounds_toArray,List.set_cons_zero,List.set_cons_succ]
   refine takeZ (i:=28) (oi:={ dst:=some 81,op:=Go.Op.load 36 (Go.Operand.tmp 14),type:=36,pos:=_,after:=_,guard:=some (25,true) }) (v:=?_) rfl (by kernel_rfl) (by kernel_rfl) (by kernel_rfl) (by kernel_rfl) (fun _ _ _ h=>h) (Or.inl ⟨by rfl,?_⟩) (by assumption) ?_
   rotate_left
   ·intro w hSw;(try dsimp only at hSw);(try obtain⟨⟨s0,s1,s2,s3,s4⟩,⟨t0,t1,t2,t3,t4⟩,⟨v0,v1,v2,v3,v4⟩⟩:=hSw);(first|(go_simp;done)|(go_simp;with_reducible rfl))
   try simp only [Act.put,List.setIfInBounds_toArray,List.set_cons_zero,List.set_cons_succ]
   refine oneZ (i:=27) (o:={ dst:=some 80,op:=Go.Op.call { callee:=Go.Callee.value (Go.Operand.func 20),args:=#[Go.Operand.tmp 79],argTypes:=#[36] },type:=27,pos:=_,after:=_,guard:=some (25,true) }) (by kernel_rfl) rfl (by decide) (fun K hK=>?_)
   go_simp
   (go_at_call 20;refine(HOF.out _ _ _ _ _ _ _ _ _ _).mono ?_;rintro e w6 ⟨rfl,hc6⟩;have HSD:=kf (HSD.out.call hc6);have HS4:=kf (HS4.out.trans hc6 (fun _ _ e=>e));clear hc6)
   refine hK.out _ _ HSD.out.held (fun hHeld=>?_)
   clear hK K
   try simp only [Act.put,List.setIfInBounds_toArray,List.set_cons_zero,List.set_cons_succ]
   refine oneZ (i:=29) (o:={ dst:=some 82,op:=Go.Op.call { callee:=Go.Callee.value (Go.Operand.func 20),args:=#[Go.Operand.tmp 81],argTypes:=#[36] },type:=27,pos:=_,after:=_,guard:=some (25,true) }) (by kernel_rfl) rfl (by decide) (fun K hK=>?_)
   go_simp
   (go_at_call 20;refine(HOF.out _ _ _ _ _ _ _ _ _ _).mono ?_;rintro e w6 ⟨rfl,hc6⟩;have HSD:=kf (HSD.out.call hc6);have HS4:=kf (HS4.out.trans hc6 (fun _ _ e=>e));clear hc6)
   refine hK.out _ _ HSD.out.held (fun hHeld=>?_)
   clear hK K
   try simp only [Act.put,List.setIfInBounds_toArray,List.set_cons_zero,List.set_cons_succ]
   refine oneZ (i:=30) (o:={ dst:=some 83,op:=Go.Op.call { callee:=Go.Callee.value (Go.Operand.func 17),args:=#[Go.Operand.tmp 80,Go.Operand.tmp 82],argTypes:=#[27,27] },type:=4,pos:=_,after:=_,guard:=some (25,true) }) (by kernel_rfl) rfl (by decide) (fun K hK=>?_)
   go_simp
   (go_at_call 17;refine(HQ2.out _ HS4.out).mono ?_;rintro e w6 ⟨rfl,hc6⟩;have HSD:=kf (HSD.out.call hc6);have HS4:=kf (HS4.out.trans hc6 (fun _ _ e=>e));clear hc6)
   refine hK.out _ _ HSD.out.held (fun hHeld=>?_)
   clear hK K
   try simp only [Act.put,List.setIfInBounds_toArray,List.set_cons_zero,List.set_cons_succ]
   refine takeZ (i:=31) (oi:={ dst:=some 84,op:=Go.Op.pick (Go.Operand.tmp 78) (Go.Operand.tmp 83) (Go.Operand.const (Go.Value.bool false)),type:=4,pos:=_,after:=_,guard:=none }) (v:=?_) rfl (by kernel_rfl) (by kernel_rfl) (by kernel_rfl) (by kernel_rfl) (fun _ _ _ h=>h) (Or.inl ⟨by rfl,?_⟩) (by assumption) ?_
   rotate_left
   ·intro w hSw;(try dsimp only at hSw);(try obtain⟨⟨s0,s1,s2,s3,s4⟩,⟨t0,t1,t2,t3,t4⟩,⟨v0,v1,v2,v3,v4⟩⟩:=hSw);(first|(go_simp;done)|(go_simp;with_reducible rfl))
   try simp only [Act.put,List.setIfInBounds_toArray,List.set_cons_zero,List.set_cons_succ]
   refine takeZ (i:=32) (oi:={ dst:=some 85,op:=Go.Op.move (Go.Operand.tmp 84),type:=4,pos:=_,after:=_,guard:=none }) (v:=?_) rfl (by kernel_rfl) (by kernel_rfl) (by kernel_rfl) (by kernel_rfl) (fun _ _ _ h=>h) (Or.inl ⟨by rfl,?_⟩) (by assumption) ?_
   rotate_left
   ·intro w hSw;(try dsimp only at hSw);(try obtain⟨⟨s0,s1,s2,s3,s4⟩,⟨t0,t1,t2,t3,t4⟩,⟨v0,v1,v2,v3,v4⟩⟩:=hSw);(first|(go_simp;done)|(go_simp;with_reducible rfl))
   try simp only [Act.put,List.setIfInBounds_toArray,List.set_cons_zero,List.set_cons_succ]
   refine oneZ (i:=33) (o:={ dst:=some 86,op:=Go.Op.call { callee:=Go.Callee.value (Go.Operand.func 8),args:=#[],argTypes:=#[] },type:=4,pos:=_,after:=_,guard:=some (32,true) }) (by kernel_rfl) rfl (by decide) (fun K hK=>?_)
   go_simp
   (go_at_call 8;refine(HW.out _ HSD.out.chg).mono ?_;rintro e w6 ⟨rfl,hc6⟩;have HSD:=kf (HSD.out.call hc6);have HS4:=kf (HS4.out.trans hc6 (fun _ _ e=>e));clear hc6)
   refine hK.out _ _ HSD.out.held (fun hHeld=>?_)
   clear hK K
   try simp only [Act.put,List.setIfInBounds_toArray,List.set_cons_zero,List.set_cons_succ]
   refine takeZ (i:=34) (oi:={ dst:=some 87,op:=Go.Op.pick (Go.Operand.tmp 85) (Go.Operand.tmp 86) (Go.Operand.const (Go.Value.bool false)),type:=4,pos:=_,after:=_,guard:=none }) (v:=?_) rfl (by kernel_rfl) (by kernel_rfl) (by kernel_rfl) (by kernel_rfl) (fun _ _ _ h=>h) (Or.inl ⟨by rfl,?_⟩) (by assumption) ?_
   rotate_left
   ·intro w hSw;(try dsimp only at hSw);(try obtain⟨⟨s0,s1,s2,s3,s4⟩,⟨t0,t1,t2,t3,t4⟩,⟨v0,v1,v2,v3,v4⟩⟩:=hSw);(first|(go_simp;done)|(go_simp;with_reducible rfl))
   try simp only [Act.put,List.setIfInBounds_toArray,List.set_cons_zero,List.set_cons_succ]
   refine lastZ (o:={ dst:=some 6,op:=Go.Op.assign (Go.Operand.tmp 87),type:=4,pos:=_,after:=_,guard:=none }) (by kernel_rfl) rfl (by kernel_rfl) (fun K hK=>?_)
   go_simp
   refine hK.out _ _ ?_
   clear hK K
   try simp only [Act.put,List.setIfInBounds_toArray,List.set_cons_zero,List.set_cons_succ]
   go_wp2_with fail
   go_ret
   exact⟨rfl,HSD.out.chg⟩
 ·rw [<- hn] at hm h4 hc ⊢
  have d4:decide ((600:Int)<n)=true:=by simp;omega
  have d4':decide (600<n)=true:=by simp;omega
  clear hS hb hc hn h4 hLib
  go_enter Tryz.func6,Tryz.ntmps6
  go_wp2_with (go_at_call 8;refine(HW.out _ (Chg.refl NoS w)).mono ?_;rintro e wx ⟨rfl,hcx⟩;have HCx:=kf hcx;clear hcx)
  go_ret
  exact⟨rfl,HCx.out⟩
end Go.Proofs.YthejpkflcgjdoaaGreatDoor
