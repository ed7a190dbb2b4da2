/- Merged by program. -/
import Derived.Test.YthejpkflcgjdoaaGreatDoorE35
import Derived.Test.YthejpkflcgjdoaaGreatDoorE36
import Derived.SizedLaws
import Derived.ChangeSame
set_option linter.unusedVariables false
set_option linter.unusedSimpArgs false
namespace Go.Proofs.YthejpkflcgjdoaaGreatDoor
open Go.RowKit Go.Deep Go.ChangeShapes Go.WideShapes Go.ChangeAt
mutual
def strsT (B:Nat):VT->Prop
 |.mk _ _ s l=>s.size<=B/\strsL B l
def strsL (B:Nat):List VT->Prop
 |[]=>True
 |t::l=>strsT B t/\strsL B l
end
theorem strsL_of {B:Nat}:∀ {l:List VT},(∀ t∈l,strsT B t)->strsL B l
 |[],_=>by rw [strsL];trivial
 |t::l,h=>by rw [strsL];exact⟨h t (List.mem_cons_self ..),strsL_of (fun x hx=>h x (List.mem_cons_of_mem _ hx))⟩
mutual
theorem fw_le {B:Nat}:∀ (t:VT),strsT B t->fwT t+1<=sizT t*(502+4*B)
 |.mk _ _ s l=>fun h=>by
  rw [strsT] at h
  have h1:=fwL_le l h.2
  rw [fwT,sizT_mk,Nat.add_mul (sizL l) 1,Nat.one_mul]
  obtain⟨M,hM⟩:∃ M,M=502+4*B:=⟨_,rfl⟩
  rw [<- hM] at h1 ⊢
  obtain⟨P,hP⟩:∃ P,P=sizL l*M:=⟨_,rfl⟩
  rw [<- hP] at h1 ⊢
  omega
theorem fwL_le {B:Nat}:∀ (l:List VT),strsL B l->fwL l<=sizL l*(502+4*B)
 |[],h=>by show 0<=_;omega
 |t::l,h=>by
  rw [strsL] at h
  have h1:=fw_le t h.1
  have h2:=fwL_le l h.2
  rw [sizL_cons,Nat.add_mul]
  exact Nat.add_le_add h1 h2
end
theorem wt_all {H:Type} {P:Program} {e:TypeId}:∀ {l:List (DataW H)} {d:DataW H},d∈l->∀ n∈d.weights P e,n∈DataW.weightsAll P e l:=by
 intro l
 induction l with
 |nil=>intro d h;cases h
 |cons x l ih =>
  intro d h n hn
  rw [DataW.weightsAll]
  rcases List.mem_cons.1 h with rfl|h1
  ·exact List.mem_append_left _ hn
  ·exact List.mem_append_right _ (ih h1 n hn)
theorem wt_agg {H:Type} {P:Program} {t:TypeId} {fs:Array Field} {l:List (DataW H)} {j:Nat} {f:Field} {d:DataW H} {R:Nat} (ht:P.underlying t=some (.struct fs)) (hf:fs[j]?=some f) (hd:l[j]?=some d) (h:∀ n∈(DataW.agg l).weights P t,n<=R):∀ n∈d.weights P f.type,n<=R:=by
 intro n hn
 refine h n ?_
 rw [DataW.weights,ht]
 exact DataW.weights_mem_each (j:=j) (by rw [List.getElem?_map,Array.getElem?_toList,hf];rfl) hd n hn
theorem wt_slice {H:Type} {P:Program} {t e:TypeId} {l r:List (DataW H)} {d:DataW H} {R:Nat} (ht:P.underlying t=some (.slice e)) (hd:d∈l) (h:∀ n∈(DataW.slice l r).weights P t,n<=R):∀ n∈d.weights P e,n<=R:=by
 intro n hn
 refine h n ?_
 rw [DataW.weights,ht]
 exact List.mem_cons_of_mem _ (List.mem_append_left _ (wt_all hd n hn))
theorem wt_str {H:Type} {P:Program} {t:TypeId} {s:ByteArray} {R:Nat} (h:∀ n∈(DataW.lit (H:=H) (.string s.data.toList)).weights P t,n<=R):s.size<=R:=by
 have:=h s.data.toList.length (by rw [DataW.weights];exact List.mem_singleton.2 rfl)
 rw [Array.length_toList] at this
 exact this
theorem el_fourD {H:Type} {en:TypeId × Value->H} {P:Program} {w:World} {base fuel:Nat} {spare:Nat->Bool} {held:Bool} {e:TypeId} {cs:List Value} {y:DataW H × List MemPlace} {f0 f1 f2 f3:Field}
  (he:P.underlying e=some (.struct #[f0,f1,f2,f3])) (hone:oneCellFields P #[f0,f1,f2,f3]=true) (hC:P.cellsOf e=4) (h:DataW.trod en P w base spare held fuel e cs=some y) :
  ∃ u v x z m y0 y1 y2 y3,fuel=m+1/\cs=[u,v,x,z]/\y.1=.agg [y0.1,y1.1,y2.1,y3.1]/\DataW.trod en P w base spare held m f0.type [u]=some y0/\DataW.trod en P w base spare held m f1.type [v]=some y1/\DataW.trod en P w base spare held m f2.type [x]=some y2/\DataW.trod en P w base spare held m f3.type [z]=some y3:=by
 obtain⟨xs,m,rfl,hy,hl,hx,hf⟩:=DataW.trod_struct he h
 rw [hC] at hl
 obtain⟨o0,c0⟩:=hone_of hone 0 f0 rfl
 obtain⟨o1,c1⟩:=hone_of hone 1 f1 rfl
 obtain⟨o2,c2⟩:=hone_of hone 2 f2 rfl
 obtain⟨o3,c3⟩:=hone_of hone 3 f3 rfl
 have h0:=hf 0 f0 rfl
 have h1:=hf 1 f1 rfl
 have h2:=hf 2 f2 rfl
 have h3:=hf 3 f3 rfl
 rw [o0,c0] at h0
 rw [o1,c1] at h1
 rw [o2,c2] at h2
 rw [o3,c3] at h3
 match cs,hl,xs,hx with
 |[u,v,x,z],_,[y0,y1,y2,y3],_ =>
  exact⟨u,v,x,z,m,y0,y1,y2,y3,rfl,rfl,by rw [hy];rfl,by simpa using h0,by simpa using h1,by simpa using h2,by simpa using h3⟩
theorem el_threeD {H:Type} {en:TypeId × Value->H} {P:Program} {w:World} {base fuel:Nat} {spare:Nat->Bool} {held:Bool} {e:TypeId} {cs:List Value} {y:DataW H × List MemPlace} {f0 f1 f2:Field}
  (he:P.underlying e=some (.struct #[f0,f1,f2])) (hone:oneCellFields P #[f0,f1,f2]=true) (hC:P.cellsOf e=3) (h:DataW.trod en P w base spare held fuel e cs=some y) :
  ∃ u v x m y0 y1 y2,cs=[u,v,x]/\DataW.trod en P w base spare held m f0.type [u]=some y0/\DataW.trod en P w base spare held m f1.type [v]=some y1/\DataW.trod en P w base spare held m f2.type [x]=some y2:=by
 obtain⟨xs,m,rfl,hy,hl,hx,hf⟩:=DataW.trod_struct he h
 rw [hC] at hl
 obtain⟨o0,c0⟩:=hone_of hone 0 f0 rfl
 obtain⟨o1,c1⟩:=hone_of hone 1 f1 rfl
 obtain⟨o2,c2⟩:=hone_of hone 2 f2 rfl
 have h0:=hf 0 f0 rfl
 have h1:=hf 1 f1 rfl
 have h2:=hf 2 f2 rfl
 rw [o0,c0] at h0
 rw [o1,c1] at h1
 rw [o2,c2] at h2
 match cs,hl,xs,hx with
 |[u,v,x],_,[y0,y1,y2],_ =>
  exact⟨u,v,x,m,y0,y1,y2,rfl,by simpa using h0,by simpa using h1,by simpa using h2⟩
set_option maxHeartbeats 1000000 in
theorem vt_elD {H:Type} {en:TypeId × Value->H} {w:World} {base:Nat} {spare:Nat->Bool} {held:Bool} {R:Nat}:∀ (fuel:Nat) (cs:List Value) (y:DataW H × List MemPlace),DataW.trod en Tryz.prog w base spare held fuel 25 cs=some y->(∀ n∈y.1.weights Tryz.prog 25,n<=R)->∃ (c:VC) (t:VT),cs=c.cells/\ValIs w t c/\strsT R t:=by
 intro fuel
 induction fuel using Nat.strongRecOn with
 |_ fuel ih =>
  intro cs y h hw
  obtain⟨u,v,x,z,m,y0,y1,y2,y3,rfl,rfl,hy,h0,h1,h2,h3⟩:=el_fourD Tryz.underlying25 (by kernel_rfl) (by kernel_rfl) h
  rw [hy] at hw
  have hw2:=wt_agg (j:=2) Tryz.underlying25 rfl rfl hw
  have hw3:=wt_agg (j:=3) Tryz.underlying25 rfl rfl hw
  obtain⟨z0,e0,g0⟩:=el_int Tryz.underlying3 h0
  obtain⟨z1,e1,g1⟩:=el_int Tryz.underlying3 h1
  obtain⟨s,e2,hd2,g2⟩:=DataW.trod_string Tryz.underlying9 h2
  simp only [List.cons.injEq,and_true] at e0 e1 e2
  subst e0 e1 e2
  rw [hd2] at hw2
  have hs:s.size<=R:=wt_str hw2
  rcases DataW.trod_slice Tryz.underlying23 h3 with⟨e3,_⟩|⟨a,len,cap,elems,rest,n,rfl,e3,hy3,hb,hl,hm,hlen,hel,_,_⟩
  ·simp only [List.cons.injEq,and_true] at e3
   subst e3
   exact⟨⟨z0,z1,s,none,0,0⟩,_,rfl,.mk ⟨z0,z1,s,none,0,0⟩ [] ⟨bounds_i64 g0,bounds_i64 g1,g2,fun _=>⟨rfl,rfl⟩,Nat.le_refl _,Nat.zero_le _⟩ rfl (.nil _ _),by rw [strsT];exact⟨hs,strsL_of (fun _ h=>(by cases h))⟩⟩
  ·simp only [List.cons.injEq,and_true] at e3
   subst e3
   rw [hy3] at hw3
   have hex:∀ j,j<len->∃ p:VC × VT,((∀ i,i<4->w.cell? (a.add (j*4+i))=p.1.cells[i]?)/\ValIs w p.2 p.1)/\strsT R p.2:=by
    intro j hj
    have h4:=hel j hj
    rw [List.getElem?_eq_getElem (by omega)] at h4
    obtain⟨cs',hcs',ht'⟩:=Option.bind_eq_some_iff.1 h4
    rw [show Tryz.prog.cellsOf 25=4 from by kernel_rfl] at hcs'
    obtain⟨_,hcl,hat⟩:=World.cells?_some hcs'
    obtain⟨c,t,rfl,hv,hst⟩:=ih n (by omega) cs' _ ht' (wt_slice Tryz.underlying23 (List.mem_map_of_mem (List.getElem_mem _)) hw3)
    exact⟨(c,t),⟨fun i hi=>by rw [<- Go.Deep.add_add];exact hat i hi,hv⟩,hst⟩
   haveI:Inhabited VT:=⟨.mk 0 0 ⟨#[]⟩ []⟩
   obtain⟨f,hf⟩:=choose_lt hex
   have hrow:∀ (m j:Nat),j+m=len->∃ l:List VT,l.length=m/\RowIs w (some a) j l/\∀ t∈l,strsT R t:=by
    intro m
    induction m with
    |zero=>intro j _;exact⟨[],rfl,.nil _ _,fun _ h=>(by cases h)⟩
    |succ m ih2 =>
     intro j hj
     obtain⟨l,hl,hr,hs⟩:=ih2 (j+1) (by omega)
     obtain⟨⟨h1,h2⟩,h3⟩:=hf j (by omega)
     exact⟨(f j).2::l,by rw [List.length_cons,hl],.cons a j _ l _ h1 h2 hr,fun t ht=>by
      rcases List.mem_cons.1 ht with rfl|h4
      ·exact h3
      ·exact hs t h4⟩
   obtain⟨l,hll,hr,hsl⟩:=hrow len 0 (by omega)
   exact⟨⟨z0,z1,s,some a,len,cap⟩,_,rfl,.mk ⟨z0,z1,s,some a,len,cap⟩ l ⟨bounds_i64 g0,bounds_i64 g1,g2,fun e=>(by cases e),hl,Nat.le_trans hl hm⟩ hll hr,by rw [strsT];exact⟨hs,strsL_of hsl⟩⟩
theorem cap_of {H:Type} {en:TypeId × Value->H} {P:Program} {w:World} {base fuel:Nat} {spare:Nat->Bool} {held:Bool} {t e:TypeId} {A:Option Addr} {len cap:Nat} {x:DataW H × List MemPlace} (ht:P.underlying t=some (.slice e)) (h:DataW.trod en P w base spare held fuel t [.slice A len cap]=some x):len<=cap:=by
 rcases DataW.trod_slice ht h with⟨e3,_⟩|⟨a,len',cap',elems,rest,n,_,e3,_,_,hl,_⟩
 ·simp only [List.cons.injEq,Value.slice.injEq,and_true] at e3
  omega
 ·simp only [List.cons.injEq,Value.slice.injEq,and_true] at e3
  omega
theorem slice_of {H:Type} {en:TypeId × Value->H} {P:Program} {w:World} {base fuel:Nat} {spare:Nat->Bool} {held:Bool} {t e:TypeId} {cs:List Value} {x:DataW H × List MemPlace} (ht:P.underlying t=some (.slice e)) (h:DataW.trod en P w base spare held fuel t cs=some x):∃ A len cap,cs=[.slice A len cap]:=by
 rcases DataW.trod_slice ht h with⟨e3,_⟩|⟨a,len',cap',elems,rest,n,_,e3,_⟩
 ·exact⟨_,_,_,e3⟩
 ·exact⟨_,_,_,e3⟩
instance:Inhabited XEn:=⟨⟨0,0,false⟩⟩
instance:Inhabited GC:=⟨⟨⟨0,[]⟩,none,0⟩⟩
theorem el_xen {H:Type} {en:TypeId × Value->H} {w:World} {base n:Nat} {spare:Nat->Bool} {held:Bool} {cs:List Value} {y:DataW H × List MemPlace} (h:DataW.trod en Tryz.prog w base spare held n 29 cs=some y):∃ p:XEn,cs=p.cells/\(-9223372036854775808<=p.pl/\p.pl<=9223372036854775807/\-9223372036854775808<=p.gen/\p.gen<=9223372036854775807):=by
 obtain⟨u,v,x,m,y0,y1,y2,rfl,h0,h1,h2⟩:=el_threeD Tryz.underlying29 (by kernel_rfl) (by kernel_rfl) h
 obtain⟨z0,e0,g0⟩:=el_int Tryz.underlying3 h0
 obtain⟨z1,e1,g1⟩:=el_int Tryz.underlying3 h1
 obtain⟨b,e2⟩:=el_bool Tryz.underlying4 h2
 simp only [List.cons.injEq,and_true] at e0 e1 e2
 subst e0 e1 e2
 exact⟨⟨z0,z1,b⟩,rfl,(bounds_i64 g0).1,(bounds_i64 g0).2,(bounds_i64 g1).1,(bounds_i64 g1).2⟩
def GoodE (e:XEn):Prop:=-9223372036854775808<=e.pl/\e.pl<=9223372036854775807/\-9223372036854775808<=e.gen/\e.gen<=9223372036854775807
def GoodG (w:World) (x:GC):Prop:=EnS x.g.es x.A x.c w/\(∀ e∈x.g.es,GoodE e)/\-9223372036854775808<=x.g.first/\x.g.first<=9223372036854775807
set_option maxRecDepth 100000 in
theorem el_gc {H:Type} {en:TypeId × Value->H} {w:World} {base n:Nat} {spare:Nat->Bool} {held:Bool} {cs:List Value} {y:DataW H × List MemPlace} (h:DataW.trod en Tryz.prog w base spare held n 56 cs=some y):∃ p:GC,cs=p.cells/\GoodG w p:=by
 obtain⟨y0,y1,m,_,hl,h0,h1⟩:=trod_struct2 Tryz.underlying56 h
 rw [show Tryz.prog.cellsOf 56=2 from by kernel_rfl] at hl
 match cs,hl with
 |[u,v],_ =>
  have h0':DataW.trod en Tryz.prog w base spare held m 3 [u]=some y0:=h0
  have h1':DataW.trod en Tryz.prog w base spare held m 54 [v]=some y1:=h1
  obtain⟨z0,e0,g0⟩:=el_int Tryz.underlying3 h0'
  obtain⟨A,len,cap,e1⟩:=slice_of Tryz.underlying54 h1'
  simp only [List.cons.injEq,and_true] at e0 e1
  subst e0 e1
  obtain⟨hm,es,hle,hS,hg⟩:=open_rows XEn.cells GoodE 3 Tryz.underlying54 (by kernel_rfl) (fun _=>rfl) (fun n cs y h _=>el_xen h) h1'
  have hcap:=cap_of Tryz.underlying54 h1'
  subst hle
  exact⟨⟨⟨z0,es⟩,A,cap⟩,rfl,⟨hS,hcap⟩,hg,(bounds_i64 g0).1,(bounds_i64 g0).2⟩
theorem gs_ev {xs:List GC} {B:Option Addr} {d:Nat} {w:World} (h:GsIs xs B d w):Ev NoS w (GsIs xs B d):=fun V hV =>
 ⟨⟨Src.below (w0:=w) h.1.1 hV,h.1.2⟩,fun x hx=>⟨Src.below (w0:=w) (h.2 x hx).1 hV,(h.2 x hx).2⟩⟩
set_option maxRecDepth 100000 in
theorem open_sec {H:Type} {enc:TypeId × Value->H} {w:World} {base b0:Nat} {spare:Nat->Bool} {held:Bool} {r:Reach} {v:Value} {d:DataW H} {p:List MemPlace} (hv:Value.okWide Tryz.prog w r b0 27 v)
  (h:DataW.Trod enc Tryz.prog w base spare held 27 v d p) (hw:∀ n∈d.weights Tryz.prog 27,n<=140737488351232):∃ (xs:List GC) (B:Option Addr) (dd:Nat) (c:VC) (t:VT),v=.agg (secA B xs.length dd c)/\xs.length<=maxLen/\Ev NoS w (GsIs xs B dd)/\(∀ x∈xs,GoodG w x)/\ValIs w t c/\strsT 140737488351232 t:=by
 obtain⟨cs,rfl,hsz⟩:=okWide_struct Tryz.underlying27 hv
 obtain⟨fuel,hf⟩:=h
 obtain⟨y0,y1,m,hd,hl,h0,h1⟩:=trod_struct2 Tryz.underlying27 hf
 rw [show Tryz.prog.cellsOf 27=5 from by kernel_rfl] at hl
 simp only [Value.cells] at hl h0 h1
 obtain⟨l,hl2⟩:∃ l,l=cs.toList:=⟨_,rfl⟩
 rw [<- hl2] at hl h0 h1
 match l,hl,hl2,h0,h1 with
 |[u0,u1,u2,u3,u4],_,hl2,h0,h1 =>
  have h0':DataW.trod enc Tryz.prog w base spare held m 22 [u0]=some y0:=h0
  have h1':DataW.trod enc Tryz.prog w base spare held m 25 [u1,u2,u3,u4]=some y1:=h1
  obtain⟨A,len,cap,e1⟩:=slice_of Tryz.underlying22 h0'
  simp only [List.cons.injEq,and_true] at e1
  subst e1
  obtain⟨hm,xs,hle,hS,hg⟩:=open_rows GC.cells (GoodG w) 2 Tryz.underlying22 (by kernel_rfl) (fun _=>rfl) (fun n cs y h _=>el_gc h) h0'
  have hcap:=cap_of Tryz.underlying22 h0'
  subst hle
  have hd1:d=.agg [y0.1,y1.1]:=congrArg Prod.fst hd
  rw [hd1] at hw
  obtain⟨c,t,hc,hvt,hst⟩:=vt_elD _ _ _ h1' (wt_agg (j:=1) Tryz.underlying27 rfl rfl hw)
  refine⟨xs,A,cap,c,t,?_,hm,gs_ev ⟨⟨hS,hcap⟩,fun x hx=>(hg x hx).1⟩,hg,hvt,hst⟩
  congr 1
  refine Array.ext' ?_
  rw [<- hl2]
  unfold VC.cells at hc
  rw [hc]
  rfl
open Go.RowKit
mutual
theorem few_T15:∀ (t:VT) (left:Int),0<=fewT t left->fewT t left=left-sizT t
 |.mk _ _ _ l,left=>fun h=>by
  rw [fewT] at h ⊢
  rw [few_L15 l (left-1) h,sizT_mk]
  omega
theorem few_L15:∀ (l:List VT) (left:Int),0<=fewL l left->fewL l left=left-sizL l
 |[],left=>fun h=>by rw [fewL,sizL];omega
 |t::l,left=>fun h=>by
  rw [fewL_cons] at h ⊢
  by_cases h0:0<=left
  ·rw [if_pos h0] at h ⊢
   by_cases h1:0<=fewT t left
   ·rw [few_L15 l _ h,few_T15 t left h1,sizL_cons]
    omega
   ·rw [fewL_neg l h1] at h
    exact absurd h h1
  ·rw [if_neg h0] at h
   exact absurd h h0
end
def SmallG (xs:List GC):Prop:=xs.length<=80/\∀ x∈xs,x.g.es.length<=100
set_option maxHeartbeats 8000000 in
set_option maxRecDepth 100000 in
theorem r15few_any (xs:List GC) (B:Option Addr) (d:Nat) (t:VT) (vk vn:Int) (vs:ByteArray) (vA:Option Addr) (vl vc:Nat) (w:World) (hG:Ev NoS w (GsIs xs B d)) (hm:xs.length<=9223372036854775807) (hv:ValIs w t ⟨vk,vn,vs,vA,vl,vc⟩) (hst:strsT 140737488351232 t) :
  Calls Tryz.prog 7 #[.agg #[.slice B xs.length d,.int .i64 vk,.int .i64 vn,.string vs,.slice vA vl vc]] w fun e w'=>(∃ b:Bool,e=.returned (.bool b)/\(b=true->SmallG xs/\sizT t<=100))/\Chg NoS w w':=by
 have HFE:=kf (fun W (h:Chg NoS w W)=>rfew_any t ⟨vk,vn,vs,vA,vl,vc⟩ 100 W (hv.chg h) (by decide) (by decide))
 have HFO:=kf (fun(h:sizT t<=100) W (hW:Chg NoS w W)=>wf_any t ⟨vk,vn,vs,vA,vl,vc⟩ W (hv.chg hW) (by
  have h1:=fw_le t hst
  have h2:sizT t*(502+4*140737488351232)<=100*(502+4*140737488351232):=Nat.mul_le_mul_right _ h
  omega))
 have HSI:=kf (fun h=>few_T15 t 100 h)
 unfold VC.val at HFE HFO
 unfold FwTo at HFO
 simp only [] at HFE HFO
 have HG:=kf hG
 obtain⟨m,hml⟩:∃ m,m=xs.length:=⟨_,rfl⟩
 have HM:=kf hml
 rw [<- hml] at hm ⊢
 have HB:=kf (Blk.new w 27 #[.slice B m d,.int .i64 vk,.int .i64 vn,.string vs,.slice vA vl vc])
 have HC:=kf ((Chg.refl NoS w).alloc (.cells #[.slice B m d,.int .i64 vk,.int .i64 vn,.string vs,.slice vA vl vc] 27))
 obtain⟨fw,hfw⟩:∃ fw,fw=fewT t 100:=⟨_,rfl⟩
 rw [<- hfw] at HFE HSI
 clear hG hv hml hfw hst
 go_enter Tryz.func7,Tryz.ntmps7
 go_upto_region 1 with fail
 obtain⟨W1,hW1⟩:∃ W1,W1=w.alloc (.cells #[.slice B m d,.int .i64 vk,.int .i64 vn,.string vs,.slice vA vl vc] 27):=⟨_,rfl⟩
 obtain⟨g1,hg1⟩:∃ g,g=w.heap.size:=⟨_,rfl⟩
 rw [<- hW1] at HB HC ⊢
 rw [<- hg1] at HB ⊢
 clear hW1 hg1
 obtain⟨q0,q1,q2,q3,q4,-⟩:=HB.out.cl5
 by_cases h80:80<m
 ·have d1:decide ((80:Int)<m)=true:=by simp;omega
  go_wp2_with fail
  go_ret
  exact⟨⟨false,rfl,fun h=>(by cases h)⟩,HC.out⟩
 have d1:decide ((80:Int)<m)=false:=by simp;omega
 have d1':decide (80<m)=false:=by simp;omega
 by_cases hf:fw<0
 ·have d2:decide (fw<0)=true:=by simpa using hf
  clear hf
  go_wp2_with (go_at_call 23;refine(HFE.out _ HC.out).mono ?_;rintro e w2 ⟨rfl,hc2⟩;have HC2:=kf (HC.out.trans hc2 (fun _ _ e=>e));clear hc2)
  go_ret
  exact⟨⟨false,rfl,fun h=>(by cases h)⟩,HC2.out⟩
 have d2:decide (fw<0)=false:=by simpa using hf
 have hs1:sizT t<=100:=by have:=HSI.out (by omega);omega
 have HS1:=kf hs1
 have HFM:=kf (fun W hW=>HFO.out hs1 W hW)
 clear hf hs1
 go_upto_region 1 with fail
 go_cut [20] from 4 to 35 (fun s20 wx=>∃ b:Bool,s20=.bool b/\Hid (Chg NoS W1 wx))
 case first =>
  go_wp2_with (first
   |(go_at_call 23;refine(HFE.out _ HC.out).mono ?_;rintro e w2 ⟨rfl,hc2⟩;have HC2:=kf hc2;have hb2:=HB.out.chg hc2 (fun e=>e);clear q0 q1 q2 q3 q4;obtain⟨q0,q1,q2,q3,q4,-⟩:=hb2.cl5;clear hc2 hb2)
   |(go_at_call 24;refine(HFM.out _ (HC.out.trans HC2.out (fun _ _ e=>e))).mono ?_;rintro e w3 ⟨S,rfl,hsz,hc3⟩;have HC3:=kf (HC2.out.trans hc3 (fun _ _ e=>e));obtain⟨z,hz⟩:(∃ z,S.size=z):=⟨_,rfl⟩;obtain⟨bb,hbb⟩:(∃ bb,decide ((3000:Int)<(z:Int))=bb):=⟨_,rfl⟩;clear hc3 hsz))
  all_goals
   go_meet
   exact⟨_,rfl,HC3⟩
 case rest =>
  obtain⟨b,rfl,hcx⟩:=hcut
  cases b with
  |true =>
   go_wp2_with fail
   go_ret
   exact⟨⟨false,rfl,fun h=>(by cases h)⟩,HC.out.trans hcx.out (fun _ _ e=>e)⟩
  |false =>
   clear q0 q1 q2 q3 q4
   go_wp2_with fail
   go_loopw [3] (fun vi wr=>∃ k:Nat,k<=m/\vi=.int .i64 (k:Nat)/\Hid (Chg NoS W1 wr)/\Hid (∀ x∈xs.take k,x.g.es.length<=100)) (fun vi _=>m-(intOf vi).toNat)
   case atStart=>exact⟨0,Nat.zero_le _,rfl,hcx,kf (fun x hx=>(by simp at hx))⟩
   case round =>
    obtain⟨k,hk,rfl,HCk,HAk⟩:=hrel
    have q0:wr.cell? ⟨g1,0,none⟩=some (.slice B m d):=(HB.out.chg HCk.out (fun e=>e)).cell 0
    by_cases hlt:k<m
    ·obtain⟨x,hx⟩:∃ x,xs[k]?=some x:=⟨_,List.getElem?_eq_getElem (by have:=HM.out;omega)⟩
     have hGr:=HG.out wr (HC.out.trans HCk.out (fun _ _ e=>e))
     obtain⟨b,off,rfl,hcell⟩:=gs_at hGr (by have:=HM.out;omega)
     obtain⟨c0,c1⟩:=hcell k x hx
     have htk:xs.take (k+1)=xs.take k++[x]:=by
      have hkx:k<xs.length:=by have:=HM.out;omega
      rw [List.getElem?_eq_getElem hkx] at hx
      cases hx
      exact List.take_succ_eq_append_getElem hkx
     have HTK:=kf htk
     obtain⟨ln,hln⟩:∃ ln,ln=x.g.es.length:=⟨_,rfl⟩
     rw [<- hln] at c1
     have HLN:=kf hln
     have d3:decide ((k:Int)<m)=true:=by simp;omega
     clear hGr hcell hx htk hln
     by_cases h100:100<ln
     ·have d4:decide ((100:Int)<ln)=true:=by simp;omega
      go_wp2_with fail
      go_ret
      exact⟨⟨false,rfl,fun h=>(by cases h)⟩,HC.out.trans HCk.out (fun _ _ e=>e)⟩
     ·have d4:decide ((100:Int)<ln)=false:=by simp;omega
      have d4':decide (100<ln)=false:=by simp;omega
      go_wp2_with fail
      go_roundw
      case rel =>
       refine⟨k+1,by omega,by go_num,HCk,kf (fun y hy=>?_)⟩
       rw [HTK.out] at hy
       rcases List.mem_append.1 hy with h|h
       ·exact HAk.out y h
       ·rw [List.mem_singleton] at h
        rw [h,<- HLN.out]
        omega
      case measure=>simp [intOf];omega
    ·have d3:decide ((k:Int)<m)=false:=by simp;omega
     have d3':decide (k<m)=false:=by simp;omega
     have HE:=kf (show SmallG xs from⟨by have:=HM.out;omega,fun x hx=>HAk.out x (by rw [List.take_of_length_le (by have:=HM.out;omega)];exact hx)⟩)
     go_wp2_with fail
     go_ret
     exact⟨⟨true,rfl,fun _=>⟨HE.out,HS1.out⟩⟩,HC.out.trans HCk.out (fun _ _ e=>e)⟩
set_option maxHeartbeats 8000000 in
set_option maxRecDepth 100000 in
theorem r15find_any (xs:List GC) (B:Option Addr) (d:Nat) (vk vn:Int) (vs:ByteArray) (vA:Option Addr) (vl vc:Nat) (n:Int) (w:World) (hG:Ev NoS w (GsIs xs B d)) (hl:xs.length<=1000000) (hes:∀ x∈xs,x.g.es.length<=1000000/\-1000000<=x.g.first/\x.g.first<=1000000) (hn1:-1000000<=n) (hn2:n<=1000000) :
  Calls Tryz.prog 22 #[.agg #[.slice B xs.length d,.int .i64 vk,.int .i64 vn,.string vs,.slice vA vl vc],.int .i64 n] w fun e w'=>e=.returned (entV (fndX n (xs.map GC.g)))/\Chg NoS w w':=by
 have HES:=kf hes
 obtain⟨T,hT⟩:∃ T,T=fndX n (xs.map GC.g):=⟨_,rfl⟩
 rw [<- hT]
 have HT:=kf hT
 obtain⟨m,hm⟩:∃ m,m=xs.length:=⟨_,rfl⟩
 rw [<- hm] at hl ⊢
 have HM:=kf hm
 have HB:=kf ((Blk.new w 27 #[.slice B m d,.int .i64 vk,.int .i64 vn,.string vs,.slice vA vl vc]).alloc (.cells #[.int .i64 0,.int .i64 0,.bool false] 29))
 have HE:=kf (Blk.new (w.alloc (.cells #[.slice B m d,.int .i64 vk,.int .i64 vn,.string vs,.slice vA vl vc] 27)) 29 #[.int .i64 0,.int .i64 0,.bool false])
 have HC:=kf (((Chg.refl NoS w).alloc (.cells #[.slice B m d,.int .i64 vk,.int .i64 vn,.string vs,.slice vA vl vc] 27)).alloc (.cells #[.int .i64 0,.int .i64 0,.bool false] 29))
 rw [World.size_alloc] at HE
 obtain⟨g4,hg4⟩:∃ g4,g4=w.heap.size+1:=⟨_,rfl⟩
 rw [<- hg4] at HE
 have HG4:Hid (w.heap.size<=g4/\g4=w.heap.size+1):=⟨by omega,hg4⟩
 have hGs:=hG _ HC.out
 clear hes hT hm hg4 hG
 go_enter Tryz.func22,Tryz.ntmps22
 go_upto_region 1 with fail
 rw [<- HG4.out.2]
 obtain⟨W1,hW1⟩:∃ W1,W1=(w.alloc (.cells #[.slice B m d,.int .i64 vk,.int .i64 vn,.string vs,.slice vA vl vc] 27)).alloc (.cells #[.int .i64 0,.int .i64 0,.bool false] 29):=⟨_,rfl⟩
 obtain⟨g2,hg2⟩:∃ g2,g2=w.heap.size:=⟨_,rfl⟩
 rw [<- hW1] at HB HE HC hGs ⊢
 rw [<- hg2] at HB ⊢
 have HGs:=kf hGs
 clear hW1 hg2 hGs
 have q0:W1.cell? ⟨g2,0,none⟩=some (.slice B m d):=HB.out.cell 0
 obtain⟨y0,y1,y2,y3,y4,y5⟩:=HE.out.cl3
 go_wp2_with fail
 go_loopw [6,7] (fun vi vj wr=>∃ k:Nat,k<=m/\vi=.int .i64 (k:Nat)/\W1=wr/\Hid (MoreG n T ((xs.drop k).map GC.g))) (fun vi _ _=>m-(intOf vi).toNat)
 case atStart=>exact⟨0,Nat.zero_le _,rfl,rfl,HT⟩
 case round =>
  obtain⟨k,hk,rfl,rfl,HTk⟩:=hrel
  by_cases hlt:k<m
  ·obtain⟨x,hx⟩:∃ x,xs[k]?=some x:=⟨_,List.getElem?_eq_getElem (by have:=HM.out;omega)⟩
   obtain⟨b,off,rfl,hcell⟩:=gs_at HGs.out (by have:=HM.out;omega)
   obtain⟨c0,c1⟩:=hcell k x hx
   have hmem:x∈xs:=List.mem_of_getElem? hx
   have hEx:=kf (HGs.out.2 x hmem)
   obtain⟨hb1,hb2,hb3⟩:=HES.out x hmem
   have hd:(xs.drop k).map GC.g=x.g::(xs.drop (k+1)).map GC.g:=by
    have hkx:k<xs.length:=by have:=HM.out;omega
    rw [List.drop_eq_getElem_cons hkx,List.map_cons]
    rw [List.getElem?_eq_getElem hkx] at hx
    cases hx
    rfl
   have HTk2:=kf (show MoreG n T (x.g::(xs.drop (k+1)).map GC.g) from hd ▸ HTk.out)
   obtain⟨⟨first,es⟩,xA,xc⟩:=x
   simp only [] at c0 c1 hEx hb1 hb2 hb3 HTk2
   obtain⟨ln,hln⟩:∃ ln,ln=es.length:=⟨_,rfl⟩
   have HLN:=kf hln
   rw [<- hln] at c1 hb1
   have d1:decide ((k:Int)<m)=true:=by simp;omega
   clear hcell hmem hd hx hln HTk
   go_wp2_with fail
   go_loopw [7] (fun vj wr=>∃ j:Nat,j<=ln/\vj=.int .i64 (j:Nat)/\W1=wr/\Hid (first<=n->(j:Int)<=n-first)) (fun vj _=>ln-(intOf vj).toNat)
   case atStart=>exact⟨0,Nat.zero_le _,rfl,rfl,kf (fun h=>by show(0:Int)<=_;omega)⟩
   case round =>
    obtain⟨j,hj,rfl,rfl,HJ⟩:=hrel
    by_cases hjl:j<ln
    ·have d2:decide ((j:Int)<ln)=true:=by simp;omega
     by_cases hm1:first=n-(j:Int)
     ·have hle:first<=n:=by omega
      have hnf:n-first=(j:Nat):=by omega
      obtain⟨e,hfe,hee⟩:=fnd_some (n:=n) (g:=⟨first,es⟩) (l:=(xs.drop (k+1)).map GC.g) ⟨hle,by show n-first<(es.length:Nat);have:=HLN.out;omega⟩
      have HZ:=kf (HTk2.out.trans hfe)
      have hee':es[(n-first).toNat]?=some e:=hee
      rw [hnf,Int.toNat_natCast] at hee'
      obtain⟨b2,off2,rfl,hc2⟩:=es_at hEx.out (by have:=HLN.out;omega)
      obtain⟨e0,e1,e2⟩:=hc2 j e hee'
      obtain⟨ep,eg,eu⟩:=e
      simp only [] at e0 e1 e2
      have k1:(first==n-(j:Int))=true:=by simpa using hm1
      have k2:decide (first<=n)=true:=by simpa using hle
      clear hfe hee hee' hc2 hnf hm1 HJ
      go_wp2_with fail
      refine bodyPost_ret (v:=.tuple #[.agg #[.int .i64 ep,.int .i64 eg,.bool eu],.bool true]) (by simp [results,Tryz.results22,go_sem,y0,y1,y2]) rfl ?_
      rw [HZ.out]
      exact⟨rfl,HC.out.trans (set3_chg W1 g4 _ _ _) (fun i hi e=>by have:=HG4.out;omega)⟩
     ·have k1:(first==n-(j:Int))=false:=by simpa using hm1
      have HJ2:=kf (show first<=n->((j+1:Nat):Int)<=n-first from fun h=>by have:=HJ.out h;omega)
      clear hm1 HJ
      go_wp2_with fail
      go_roundw
      case rel=>exact⟨j+1,by omega,by go_num,trivial,HJ2⟩
      case measure=>simp [intOf];omega
    ·have d2:decide ((j:Int)<ln)=false:=by simp;omega
     have d2':decide (j<ln)=false:=by simp;omega
     have HN2:=kf (HTk2.out.trans (fnd_none (n:=n) (g:=⟨first,es⟩) (show ¬(first<=n/\n-first<(⟨first,es⟩:XGr).es.length) from fun h=>by have h3:=HJ.out h.1;have h4:n-first<(es.length:Nat):=h.2;have:=HLN.out;omega)))
     clear HJ
     go_wp2_with fail
     go_roundw
     case rel=>exact⟨k+1,by omega,by go_num,trivial,HN2⟩
     case measure=>simp [intOf];omega
  ·have HZ:=kf (show T=none from by rw [HTk.out,List.drop_of_length_le (by have:=HM.out;omega)];rfl)
   have d1:decide ((k:Int)<m)=false:=by simp;omega
   have d1':decide (k<m)=false:=by simp;omega
   go_wp2_with fail
   refine bodyPost_ret (v:=.tuple #[.agg #[.int .i64 0,.int .i64 0,.bool false],.bool false]) (by simp [results,Tryz.results22,go_sem,y0,y1,y2]) rfl ?_
   rw [HZ.out]
   exact⟨rfl,HC.out.trans (set3_chg W1 g4 _ _ _) (fun i hi e=>by have:=HG4.out;omega)⟩
end Go.Proofs.YthejpkflcgjdoaaGreatDoor
