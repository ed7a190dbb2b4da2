import Derived.Test.YtnhlalkeaaiefaaGreatDoorE29
import Derived.Test.YtnhlalkeaaiefaaGreatDoorE33
set_option linter.unusedVariables false
set_option maxHeartbeats 64000000
set_option maxRecDepth 100000
set_option linter.unusedSimpArgs false
namespace Go.Proofs.YtnhlalkeaaiefaaGreatDoor
open Go.RowKit Go.Deep Go.ChangeShapes Go.WideShapes Go.ChangeAt
mutual
def z3u (B:Nat):VT->Prop
 |.mk _ _ s l=>s.size<=B/\y12 B l
def y12 (B:Nat):List VT->Prop
 |[]=>True
 |t::l=>z3u B t/\y12 B l
end
theorem z8c {B:Nat}:∀ {l:List VT},(∀ t∈l,z3u B t)->y12 B l
 |[],_=>by rw [y12];trivial
 |t::l,h=>by rw [y12];exact⟨h t (List.mem_cons_self ..),z8c (fun x hx=>h x (List.mem_cons_of_mem _ hx))⟩
mutual
theorem v7r {B:Nat}:∀ (t:VT),z3u B t->fwT t+1<=z2n t*(502+4*B)
 |.mk _ _ s l=>fun h=>by
  rw [z3u] at h;have h1:=v39 l h.2;rw [fwT,z0x,Nat.add_mul (z7q l) 1,Nat.one_mul];obtain⟨M,hM⟩:∃ M,M=502+4*B:=⟨_,rfl⟩
  rw [<- hM] at h1 ⊢;obtain⟨P,hP⟩:∃ P,P=z7q l*M:=⟨_,rfl⟩
  rw [<- hP] at h1 ⊢;omega
theorem v39 {B:Nat}:∀ (l:List VT),y12 B l->fwL l<=z7q l*(502+4*B)
 |[],h=>by show 0<=_;omega
 |t::l,h=>by
  rw [y12] at h;have h1:=v7r t h.1;have h2:=v39 l h.2;rw [z4a,Nat.add_mul];exact Nat.add_le_add h1 h2
end
theorem v69 {H:Type} {P:Program} {e:TypeId}:∀ {l:List (DataW H)} {d:DataW H},d∈l->∀ n∈d.weights P e,n∈DataW.weightsAll P e l:=by
 intro l;induction l with
 |nil=>intro d h;cases h
 |cons x l ih =>
  intro d h n hn;rw [DataW.weightsAll];rcases List.mem_cons.1 h with rfl|h1
  ·exact List.mem_append_left _ hn
  ·exact List.mem_append_right _ (ih h1 n hn)
theorem y5k {H:Type} {P:Program} {t:TypeId} {fs:Array Field} {l:List (DataW H)} {j:Nat} {f:Field} {d:DataW H} {R:Nat} (ht:P.underlying t=some (.struct fs)) (hf:fs[j]?=some f) (hd:l[j]?=some d) (h:∀ n∈(DataW.agg l).weights P t,n<=R):∀ n∈d.weights P f.type,n<=R:=by
 intro n hn;refine h n ?_;rw [DataW.weights,ht];exact DataW.weights_mem_each (j:=j) (by rw [List.getElem?_map,Array.getElem?_toList,hf];rfl) hd n hn
theorem v00 {H:Type} {P:Program} {t e:TypeId} {l r:List (DataW H)} {d:DataW H} {R:Nat} (ht:P.underlying t=some (.slice e)) (hd:d∈l) (h:∀ n∈(DataW.slice l r).weights P t,n<=R):∀ n∈d.weights P e,n<=R:=by
 intro n hn;refine h n ?_;rw [DataW.weights,ht];exact List.mem_cons_of_mem _ (List.mem_append_left _ (v69 hd n hn))
theorem v68 {H:Type} {P:Program} {t:TypeId} {s:ByteArray} {R:Nat} (h:∀ n∈(DataW.lit (H:=H) (.string s.data.toList)).weights P t,n<=R):s.size<=R:=by
 have:=h s.data.toList.length (by rw [DataW.weights];exact List.mem_singleton.2 rfl);rw [Array.length_toList] at this;exact this
theorem v26 {H:Type} {en:TypeId × Value->H} {P:Program} {w:World} {base fuel:Nat} {spare:Nat->Bool} {held:Bool} {e:TypeId} {cs:List Value} {y:DataW H × List MemPlace} {f0 f1 f2 f3:Field}
  (he:P.underlying e=some (.struct #[f0,f1,f2,f3])) (hone:oneCellFields P #[f0,f1,f2,f3]=true) (hC:P.cellsOf e=4) (h:DataW.trod en P w base spare held fuel e cs=some y) :
  ∃ u v x z m y0 y1 y2 y3,fuel=m+1/\cs=[u,v,x,z]/\y.1=.agg [y0.1,y1.1,y2.1,y3.1]/\DataW.trod en P w base spare held m f0.type [u]=some y0/\DataW.trod en P w base spare held m f1.type [v]=some y1/\DataW.trod en P w base spare held m f2.type [x]=some y2/\DataW.trod en P w base spare held m f3.type [z]=some y3:=by
 obtain⟨xs,m,rfl,hy,hl,hx,hf⟩:=DataW.trod_struct he h;rw [hC] at hl;obtain⟨o0,c0⟩:=hone_of hone 0 f0 rfl;obtain⟨o1,c1⟩:=hone_of hone 1 f1 rfl;obtain⟨o2,c2⟩:=hone_of hone 2 f2 rfl;obtain⟨o3,c3⟩:=hone_of hone 3 f3 rfl;have h0:=hf 0 f0 rfl;have h1:=hf 1 f1 rfl;have h2:=hf 2 f2 rfl;have h3:=hf 3 f3 rfl;rw [o0,c0] at h0;rw [o1,c1] at h1;rw [o2,c2] at h2;rw [o3,c3] at h3;match cs,hl,xs,hx with
 |[u,v,x,z],_,[y0,y1,y2,y3],_ =>
  exact⟨u,v,x,z,m,y0,y1,y2,y3,rfl,rfl,by rw [hy];rfl,by simpa using h0,by simpa using h1,by simpa using h2,by simpa using h3⟩
theorem y8x {H:Type} {en:TypeId × Value->H} {P:Program} {w:World} {base fuel:Nat} {spare:Nat->Bool} {held:Bool} {e:TypeId} {cs:List Value} {y:DataW H × List MemPlace} {f0 f1 f2:Field}
  (he:P.underlying e=some (.struct #[f0,f1,f2])) (hone:oneCellFields P #[f0,f1,f2]=true) (hC:P.cellsOf e=3) (h:DataW.trod en P w base spare held fuel e cs=some y) :
  ∃ u v x m y0 y1 y2,cs=[u,v,x]/\DataW.trod en P w base spare held m f0.type [u]=some y0/\DataW.trod en P w base spare held m f1.type [v]=some y1/\DataW.trod en P w base spare held m f2.type [x]=some y2:=by
 obtain⟨xs,m,rfl,hy,hl,hx,hf⟩:=DataW.trod_struct he h;rw [hC] at hl;obtain⟨o0,c0⟩:=hone_of hone 0 f0 rfl;obtain⟨o1,c1⟩:=hone_of hone 1 f1 rfl;obtain⟨o2,c2⟩:=hone_of hone 2 f2 rfl;have h0:=hf 0 f0 rfl;have h1:=hf 1 f1 rfl;have h2:=hf 2 f2 rfl;rw [o0,c0] at h0;rw [o1,c1] at h1;rw [o2,c2] at h2;match cs,hl,xs,hx with
 |[u,v,x],_,[y0,y1,y2],_ =>
  exact⟨u,v,x,m,y0,y1,y2,rfl,by simpa using h0,by simpa using h1,by simpa using h2⟩
theorem v6c {H:Type} {en:TypeId × Value->H} {w:World} {base:Nat} {spare:Nat->Bool} {held:Bool} {R:Nat}:∀ (fuel:Nat) (cs:List Value) (y:DataW H × List MemPlace),DataW.trod en Tryz.prog w base spare held fuel 25 cs=some y->(∀ n∈y.1.weights Tryz.prog 25,n<=R)->∃ (c:VC) (t:VT),cs=c.cells/\ValIs w t c/\z3u R t:=by
 intro fuel;induction fuel using Nat.strongRecOn with
 |_ fuel ih =>
  intro cs y h hw;obtain⟨u,v,x,z,m,y0,y1,y2,y3,rfl,rfl,hy,h0,h1,h2,h3⟩:=v26 Tryz.underlying25 (by kernel_rfl) (by kernel_rfl) h;rw [hy] at hw;have hw2:=y5k (j:=2) Tryz.underlying25 rfl rfl hw;have hw3:=y5k (j:=3) Tryz.underlying25 rfl rfl hw;obtain⟨z0,e0,g0⟩:=z6y Tryz.underlying3 h0;obtain⟨z1,e1,g1⟩:=z6y Tryz.underlying3 h1;obtain⟨s,e2,hd2,g2⟩:=DataW.trod_string Tryz.underlying9 h2;simp only [List.cons.injEq,and_true] at e0 e1 e2;subst e0 e1 e2;rw [hd2] at hw2;have hs:s.size<=R:=v68 hw2;rcases DataW.trod_slice Tryz.underlying23 h3 with⟨e3,_⟩|⟨a,len,cap,elems,rest,n,rfl,e3,hy3,hb,hl,hm,hlen,hel,_,_⟩
  ·simp only [List.cons.injEq,and_true] at e3;subst e3;exact⟨⟨z0,z1,s,none,0,0⟩,_,rfl,.mk ⟨z0,z1,s,none,0,0⟩ [] ⟨bounds_i64 g0,bounds_i64 g1,g2,fun _=>⟨rfl,rfl⟩,Nat.le_refl _,Nat.zero_le _⟩ rfl (.nil _ _),by rw [z3u];exact⟨hs,z8c (fun _ h=>(by cases h))⟩⟩
  ·simp only [List.cons.injEq,and_true] at e3;subst e3;rw [hy3] at hw3
   have hex:∀ j,j<len->∃ p:VC × VT,((∀ i,i<4->w.cell? (a.add (j*4+i))=p.1.cells[i]?)/\ValIs w p.2 p.1)/\z3u R p.2:=by
    intro j hj;have h4:=hel j hj;rw [List.getElem?_eq_getElem (by omega)] at h4;obtain⟨cs',hcs',ht'⟩:=Option.bind_eq_some_iff.1 h4;rw [show Tryz.prog.cellsOf 25=4 from by kernel_rfl] at hcs';obtain⟨_,hcl,hat⟩:=World.cells?_some hcs';obtain⟨c,t,rfl,hv,hst⟩:=ih n (by omega) cs' _ ht' (v00 Tryz.underlying23 (List.mem_map_of_mem (List.getElem_mem _)) hw3);exact⟨(c,t),⟨fun i hi=>by rw [<- Go.Deep.add_add];exact hat i hi,hv⟩,hst⟩
   haveI:Inhabited VT:=⟨.mk 0 0 ⟨#[]⟩ []⟩
   obtain⟨f,hf⟩:=choose_lt hex
   have hrow:∀ (m j:Nat),j+m=len->∃ l:List VT,l.length=m/\RowIs w (some a) j l/\∀ t∈l,z3u R t:=by
    intro m;induction m with
    |zero=>intro j _;exact⟨[],rfl,.nil _ _,fun _ h=>(by cases h)⟩
    |succ m ih2 =>
     intro j hj;obtain⟨l,hl,hr,hs⟩:=ih2 (j+1) (by omega);obtain⟨⟨h1,h2⟩,h3⟩:=hf j (by omega)
     exact⟨(f j).2::l,by rw [List.length_cons,hl],.cons a j _ l _ h1 h2 hr,fun t ht=>by
      rcases List.mem_cons.1 ht with rfl|h4
      ·exact h3
      ·exact hs t h4⟩
   obtain⟨l,hll,hr,hsl⟩:=hrow len 0 (by omega);exact⟨⟨z0,z1,s,some a,len,cap⟩,_,rfl,.mk ⟨z0,z1,s,some a,len,cap⟩ l ⟨bounds_i64 g0,bounds_i64 g1,g2,fun e=>(by cases e),hl,Nat.le_trans hl hm⟩ hll hr,by rw [z3u];exact⟨hs,z8c hsl⟩⟩
theorem v3a {H:Type} {en:TypeId × Value->H} {P:Program} {w:World} {base fuel:Nat} {spare:Nat->Bool} {held:Bool} {t e:TypeId} {A:Option Addr} {len cap:Nat} {x:DataW H × List MemPlace} (ht:P.underlying t=some (.slice e)) (h:DataW.trod en P w base spare held fuel t [.slice A len cap]=some x):len<=cap:=by
 rcases DataW.trod_slice ht h with⟨e3,_⟩|⟨a,len',cap',elems,rest,n,_,e3,_,_,hl,_⟩
 ·simp only [List.cons.injEq,Value.slice.injEq,and_true] at e3;omega
 ·simp only [List.cons.injEq,Value.slice.injEq,and_true] at e3;omega
theorem y2i {H:Type} {en:TypeId × Value->H} {P:Program} {w:World} {base fuel:Nat} {spare:Nat->Bool} {held:Bool} {t e:TypeId} {cs:List Value} {x:DataW H × List MemPlace} (ht:P.underlying t=some (.slice e)) (h:DataW.trod en P w base spare held fuel t cs=some x):∃ A len cap,cs=[.slice A len cap]:=by
 rcases DataW.trod_slice ht h with⟨e3,_⟩|⟨a,len',cap',elems,rest,n,_,e3,_⟩
 ·exact⟨_,_,_,e3⟩
 ·exact⟨_,_,_,e3⟩
instance:Inhabited XEn:=⟨⟨0,0,false⟩⟩
instance:Inhabited GC:=⟨⟨⟨0,[]⟩,none,0⟩⟩
theorem v83 {H:Type} {en:TypeId × Value->H} {w:World} {base n:Nat} {spare:Nat->Bool} {held:Bool} {cs:List Value} {y:DataW H × List MemPlace} (h:DataW.trod en Tryz.prog w base spare held n 29 cs=some y):∃ p:XEn,cs=p.cells/\(-9223372036854775808<=p.pl/\p.pl<=9223372036854775807/\-9223372036854775808<=p.gen/\p.gen<=9223372036854775807):=by
 obtain⟨u,v,x,m,y0,y1,y2,rfl,h0,h1,h2⟩:=y8x Tryz.underlying29 (by kernel_rfl) (by kernel_rfl) h;obtain⟨z0,e0,g0⟩:=z6y Tryz.underlying3 h0;obtain⟨z1,e1,g1⟩:=z6y Tryz.underlying3 h1;obtain⟨b,e2⟩:=y8y Tryz.underlying4 h2;simp only [List.cons.injEq,and_true] at e0 e1 e2;subst e0 e1 e2;exact⟨⟨z0,z1,b⟩,rfl,(bounds_i64 g0).1,(bounds_i64 g0).2,(bounds_i64 g1).1,(bounds_i64 g1).2⟩
def v8i (e:XEn):Prop:=-9223372036854775808<=e.pl/\e.pl<=9223372036854775807/\-9223372036854775808<=e.gen/\e.gen<=9223372036854775807
def y21 (w:World) (x:GC):Prop:=EnS x.g.es x.A x.c w/\(∀ e∈x.g.es,v8i e)/\-9223372036854775808<=x.g.first/\x.g.first<=9223372036854775807
theorem v96 {H:Type} {en:TypeId × Value->H} {w:World} {base n:Nat} {spare:Nat->Bool} {held:Bool} {cs:List Value} {y:DataW H × List MemPlace} (h:DataW.trod en Tryz.prog w base spare held n 56 cs=some y):∃ p:GC,cs=p.cells/\y21 w p:=by
 obtain⟨y0,y1,m,_,hl,h0,h1⟩:=trod_struct2 Tryz.underlying56 h;rw [show Tryz.prog.cellsOf 56=2 from by kernel_rfl] at hl;match cs,hl with
 |[u,v],_ =>
  have h0':DataW.trod en Tryz.prog w base spare held m 3 [u]=some y0:=h0;have h1':DataW.trod en Tryz.prog w base spare held m 54 [v]=some y1:=h1;obtain⟨z0,e0,g0⟩:=z6y Tryz.underlying3 h0';obtain⟨A,len,cap,e1⟩:=y2i Tryz.underlying54 h1';simp only [List.cons.injEq,and_true] at e0 e1;subst e0 e1;obtain⟨hm,es,hle,hS,hg⟩:=y08 XEn.cells v8i 3 Tryz.underlying54 (by kernel_rfl) (fun _=>rfl) (fun n cs y h _=>v83 h) h1';have hcap:=v3a Tryz.underlying54 h1';subst hle;exact⟨⟨⟨z0,es⟩,A,cap⟩,rfl,⟨hS,hcap⟩,hg,(bounds_i64 g0).1,(bounds_i64 g0).2⟩
theorem v92 {xs:List GC} {B:Option Addr} {d:Nat} {w:World} (h:z4v xs B d w):Ev NoS w (z4v xs B d):=fun V hV =>
 ⟨⟨Src.below (w0:=w) h.1.1 hV,h.1.2⟩,fun x hx=>⟨Src.below (w0:=w) (h.2 x hx).1 hV,(h.2 x hx).2⟩⟩
theorem y32 {H:Type} {enc:TypeId × Value->H} {w:World} {base b0:Nat} {spare:Nat->Bool} {held:Bool} {r:Reach} {v:Value} {d:DataW H} {p:List MemPlace} (hv:Value.okWide Tryz.prog w r b0 27 v)
  (h:DataW.Trod enc Tryz.prog w base spare held 27 v d p) (hw:∀ n∈d.weights Tryz.prog 27,n<=140737488351232):∃ (xs:List GC) (B:Option Addr) (dd:Nat) (c:VC) (t:VT),v=.agg (v6y B xs.length dd c)/\xs.length<=maxLen/\Ev NoS w (z4v xs B dd)/\(∀ x∈xs,y21 w x)/\ValIs w t c/\z3u 140737488351232 t:=by
 obtain⟨cs,rfl,hsz⟩:=okWide_struct Tryz.underlying27 hv;obtain⟨fuel,hf⟩:=h;obtain⟨y0,y1,m,hd,hl,h0,h1⟩:=trod_struct2 Tryz.underlying27 hf;rw [show Tryz.prog.cellsOf 27=5 from by kernel_rfl] at hl;simp only [Value.cells] at hl h0 h1;obtain⟨l,hl2⟩:∃ l,l=cs.toList:=⟨_,rfl⟩
 rw [<- hl2] at hl h0 h1;match l,hl,hl2,h0,h1 with
 |[u0,u1,u2,u3,u4],_,hl2,h0,h1 =>
  have h0':DataW.trod enc Tryz.prog w base spare held m 22 [u0]=some y0:=h0;have h1':DataW.trod enc Tryz.prog w base spare held m 25 [u1,u2,u3,u4]=some y1:=h1;obtain⟨A,len,cap,e1⟩:=y2i Tryz.underlying22 h0';simp only [List.cons.injEq,and_true] at e1;subst e1;obtain⟨hm,xs,hle,hS,hg⟩:=y08 GC.cells (y21 w) 2 Tryz.underlying22 (by kernel_rfl) (fun _=>rfl) (fun n cs y h _=>v96 h) h0';have hcap:=v3a Tryz.underlying22 h0';subst hle;have hd1:d=.agg [y0.1,y1.1]:=congrArg Prod.fst hd;rw [hd1] at hw;obtain⟨c,t,hc,hvt,hst⟩:=v6c _ _ _ h1' (y5k (j:=1) Tryz.underlying27 rfl rfl hw);refine⟨xs,A,cap,c,t,?_,hm,v92 ⟨⟨hS,hcap⟩,fun x hx=>(hg x hx).1⟩,hg,hvt,hst⟩;congr 1;refine Array.ext' ?_;rw [<- hl2];unfold VC.cells at hc;rw [hc];rfl
open Go.RowKit
mutual
theorem y8m:∀ (t:VT) (left:Int),0<=z83 t left->z83 t left=left-z2n t
 |.mk _ _ _ l,left=>fun h=>by
  rw [z83] at h ⊢;rw [y8n l (left-1) h,z0x];omega
theorem y8n:∀ (l:List VT) (left:Int),0<=z7f l left->z7f l left=left-z7q l
 |[],left=>fun h=>by rw [z7f,z7q];omega
 |t::l,left=>fun h=>by
  rw [z38] at h ⊢;by_cases h0:0<=left
  ·rw [if_pos h0] at h ⊢;by_cases h1:0<=z83 t left
   ·rw [y8n l _ h,y8m t left h1,z4a];omega
   ·rw [z8w l h1] at h;exact absurd h h1
  ·rw [if_neg h0] at h;exact absurd h h0
end
def y0w (xs:List GC):Prop:=xs.length<=80/\∀ x∈xs,x.g.es.length<=100
theorem y3b:∀ (l:List VT),(∀ t∈l,(z0c t).length<=fwT t)->∀ j,j<=1->(z0g j l).length<=fwL l:=by
 intro l;induction l with
 |nil=>intro _ j _;rw [z1h];exact Nat.zero_le _
 |cons t l ih =>
  intro h j hj;have h1:=h t (List.mem_cons_self ..);have h2:=ih (fun x hx=>h x (List.mem_cons_of_mem _ hx)) 1 (Nat.le_refl _);rw [z2g];show _<=fwT t+1+fwL l;simp only [List.length_append,List.length_replicate];omega
theorem v56:∀ (N:Nat) (t:VT),z2n t<=N->z0s t=0->(z0c t).length<=fwT t:=by
 intro N;induction N using Nat.strongRecOn with
 |_ N ih =>
  intro t hN hf;obtain⟨k,n,s,l⟩:=t;rw [z0x] at hN;rw [fwT];have ho:=z61 hf
  have hin:k=6\/k=7->∀ x∈l,(z0c x).length<=fwT x:=fun hk x hx=>by
   have hfx:=z8v hk hf x hx;obtain⟨i,hi,rfl⟩:=List.mem_iff_getElem.1 hx;have:=z1r (List.getElem?_eq_getElem hi);exact ih (N-1) (by omega) _ (by omega) hfx
  have hsl:=z1a s;rcases y1l ho with rfl|rfl|rfl|rfl|rfl|rfl|rfl|rfl|rfl
  ·rw [y8j];simp only [List.length_cons,List.length_nil];omega
  ·rw [y0i];split<;>(simp only [List.length_cons,List.length_nil];omega)
  ·rw [y07,z05] at ho;split at ho
   ·next h =>
    have:=y7q n (by have:=h.2.2;unfold z2x at this;omega);rw [y8i];omega
   ·cases ho
  ·rw [y06,z05] at ho;split at ho
   ·next h =>
    have:=v0p n (by have:=h.2.2;unfold z2x at this;omega);rw [y8h];omega
   ·cases ho
  ·have:=v2r s;rw [y8g];omega
  ·have:=y7a (sl s);rw [y8f,nmF,List.length_cons];omega
  ·have:=y3b l (hin (.inl rfl)) 0 (by omega);rw [y8e];simp only [List.length_cons,List.length_append,List.length_nil];omega
  ·have:=y3b l (hin (.inr rfl)) 0 (by omega);rw [y8d];simp only [List.length_cons,List.length_append,List.length_nil];omega
  ·rw [z4i] at ho;split at ho
   ·next h =>
    have:=y7q n (by omega);rw [y8c];simp only [List.length_cons,List.length_append,List.length_nil];omega
   ·cases ho
theorem y4z {t:VT} (h:z0h t=0):z0s t=0:=by
 unfold z0h at h;split at h
 ·cases h
 ·exact h
def FwP (t:VT) (w:World) (e:Ending) (w':World):Prop:=∃ S:ByteArray,e=.returned (.string S)/\S.size<=fwT t/\(z0h t=0->S=sb (z0c t))/\Chg NoS w w'
theorem v3e (t:VT) (c:VC) (w:World) (hv:ValIs w t c) (hB:fwT t<=200000000000000000):Calls Tryz.prog 24 #[c.val] w (FwP t w):=by
 by_cases h0:z0h t=0
 ·have hf:=y4z h0;have hl:=v56 _ t (Nat.le_refl _) hf;exact(v30 _ t (Nat.le_refl _) hf c w hv (by omega)).mono fun e w' h=>⟨_,h.1,by rw [z01];exact hl,fun _=>rfl,h.2⟩
 ·exact(v6b t c w hv (by omega)).mono fun e w' ⟨S,h1,h2,h3⟩=>⟨S,h1,h2,fun h=>absurd h h0,h3⟩
theorem v95 {t:VT} {S:ByteArray} {z:Nat} {bb:Bool} (hfm:z0h t=0->S=sb (z0c t)) (hz:S.size=z) (hbb:decide ((3000:Int)<(z:Int))=bb):bb=false->z0h t=0->(z0c t).length<=3000:=fun hb h0=>by
 have h1:=hfm h0;rw [h1,z01] at hz;rw [hb] at hbb;have h2:=of_decide_eq_false hbb;omega
theorem z6k (xs:List GC) (B:Option Addr) (d:Nat) (t:VT) (vk vn:Int) (vs:ByteArray) (vA:Option Addr) (vl vc:Nat) (w:World) (hG:Ev NoS w (z4v xs B d)) (hm:xs.length<=9223372036854775807) (hv:ValIs w t ⟨vk,vn,vs,vA,vl,vc⟩) (hst:z3u 140737488351232 t) :
  Calls Tryz.prog 7 #[.agg #[.slice B xs.length d,.int .i64 vk,.int .i64 vn,.string vs,.slice vA vl vc]] w fun e w'=>(∃ b:Bool,e=.returned (.bool b)/\(b=true->y0w xs/\z2n t<=100/\(z0h t=0->(z0c t).length<=3000)))/\Chg NoS w w':=by
 have HFE:=kf (fun W (h:Chg NoS w W)=>v0o t ⟨vk,vn,vs,vA,vl,vc⟩ 100 W (hv.chg h) (by decide) (by decide))
 have HFO:=kf (fun(h:z2n t<=100) W (hW:Chg NoS w W)=>v3e t ⟨vk,vn,vs,vA,vl,vc⟩ W (hv.chg hW) (by
  have h1:=v7r t hst;have h2:z2n t*(502+4*140737488351232)<=100*(502+4*140737488351232):=Nat.mul_le_mul_right _ h;omega))
 have HSI:=kf (fun h=>y8m t 100 h);unfold VC.val at HFE HFO;unfold FwP at HFO;simp only [] at HFE HFO;have HG:=kf hG;obtain⟨m,hml⟩:∃ m,m=xs.length:=⟨_,rfl⟩
 have HM:=kf hml;rw [<- hml] at hm ⊢;have HB:=kf (Blk.new w 27 #[.slice B m d,.int .i64 vk,.int .i64 vn,.string vs,.slice vA vl vc]);have HC:=kf ((Chg.refl NoS w).alloc (.cells #[.slice B m d,.int .i64 vk,.int .i64 vn,.string vs,.slice vA vl vc] 27));obtain⟨fw,hfw⟩:∃ fw,fw=z83 t 100:=⟨_,rfl⟩
 rw [<- hfw] at HFE HSI;clear hG hv hml hfw hst;go_enter Tryz.func7,Tryz.ntmps7;go_upto_region 1 with fail;obtain⟨W1,hW1⟩:∃ W1,W1=w.alloc (.cells #[.slice B m d,.int .i64 vk,.int .i64 vn,.string vs,.slice vA vl vc] 27):=⟨_,rfl⟩
 obtain⟨g1,hg1⟩:∃ g,g=w.heap.size:=⟨_,rfl⟩
 rw [<- hW1] at HB HC ⊢;rw [<- hg1] at HB ⊢;clear hW1 hg1;obtain⟨q0,q1,q2,q3,q4,-⟩:=HB.out.cl5;by_cases h80:80<m
 ·have d1:decide ((80:Int)<m)=true:=by simp;omega
  go_wp2_with fail;go_ret;exact⟨⟨false,rfl,fun h=>(by cases h)⟩,HC.out⟩
 have d1:decide ((80:Int)<m)=false:=by simp;omega
 have d1':decide (80<m)=false:=by simp;omega
 by_cases hf:fw<0
 ·have d2:decide (fw<0)=true:=by simpa using hf
  clear hf;go_wp2_with (go_at_call 23;refine(HFE.out _ HC.out).mono ?_;rintro e w2 ⟨rfl,hc2⟩;have HC2:=kf (HC.out.trans hc2 (fun _ _ e=>e));clear hc2);go_ret;exact⟨⟨false,rfl,fun h=>(by cases h)⟩,HC2.out⟩
 have d2:decide (fw<0)=false:=by simpa using hf
 have hs1:z2n t<=100:=by have:=HSI.out (by omega);omega
 have HS1:=kf hs1;have HFM:=kf (fun W hW=>HFO.out hs1 W hW);clear hf hs1;go_upto_region 1 with fail;go_cut [20] from 4 to 35 (fun s20 wx=>∃ b:Bool,s20=.bool b/\Hid (Chg NoS W1 wx)/\Hid (b=false->z0h t=0->(z0c t).length<=3000))
 case first =>
  go_wp2_with (first
   |(go_at_call 23;refine(HFE.out _ HC.out).mono ?_;rintro e w2 ⟨rfl,hc2⟩;have HC2:=kf hc2;have hb2:=HB.out.chg hc2 (fun e=>e);clear q0 q1 q2 q3 q4;obtain⟨q0,q1,q2,q3,q4,-⟩:=hb2.cl5;clear hc2 hb2)
   |(go_at_call 24;refine(HFM.out _ (HC.out.trans HC2.out (fun _ _ e=>e))).mono ?_;rintro e w3 ⟨S,rfl,hsz,hfm,hc3⟩;have HC3:=kf (HC2.out.trans hc3 (fun _ _ e=>e));obtain⟨z,hz⟩:(∃ z,S.size=z):=⟨_,rfl⟩;obtain⟨bb,hbb⟩:(∃ bb,decide ((3000:Int)<(z:Int))=bb):=⟨_,rfl⟩;have HFZ:=kf (v95 hfm hz hbb);clear hc3 hsz hfm))
  all_goals
   go_meet;exact⟨_,rfl,HC3,HFZ⟩
 case rest =>
  obtain⟨b,rfl,hcx,HFZ⟩:=hcut;cases b with
  |true =>
   go_wp2_with fail;go_ret;exact⟨⟨false,rfl,fun h=>(by cases h)⟩,HC.out.trans hcx.out (fun _ _ e=>e)⟩
  |false =>
   have HFY:=kf (fun h=>HFZ.out (by simp) h);clear q0 q1 q2 q3 q4 HFZ;go_wp2_with fail;go_loopw [3] (fun vi wr=>∃ k:Nat,k<=m/\vi=.int .i64 (k:Nat)/\Hid (Chg NoS W1 wr)/\Hid (∀ x∈xs.take k,x.g.es.length<=100)) (fun vi _=>m-(intOf vi).toNat)
   case atStart=>exact⟨0,Nat.zero_le _,rfl,hcx,kf (fun x hx=>(by simp at hx))⟩
   case round =>
    obtain⟨k,hk,rfl,HCk,HAk⟩:=hrel;have q0:wr.cell? ⟨g1,0,none⟩=some (.slice B m d):=(HB.out.chg HCk.out (fun e=>e)).cell 0;by_cases hlt:k<m
    ·obtain⟨x,hx⟩:∃ x,xs[k]?=some x:=⟨_,List.getElem?_eq_getElem (by have:=HM.out;omega)⟩
     have hGr:=HG.out wr (HC.out.trans HCk.out (fun _ _ e=>e));obtain⟨b,off,rfl,hcell⟩:=z7e hGr (by have:=HM.out;omega);obtain⟨c0,c1⟩:=hcell k x hx
     have htk:xs.take (k+1)=xs.take k++[x]:=by
      have hkx:k<xs.length:=by have:=HM.out;omega
      rw [List.getElem?_eq_getElem hkx] at hx;cases hx
      exact List.take_succ_eq_append_getElem hkx
     have HTK:=kf htk;obtain⟨ln,hln⟩:∃ ln,ln=x.g.es.length:=⟨_,rfl⟩
     rw [<- hln] at c1;have HLN:=kf hln;have d3:decide ((k:Int)<m)=true:=by simp;omega
     clear hGr hcell hx htk hln;by_cases h100:100<ln
     ·have d4:decide ((100:Int)<ln)=true:=by simp;omega
      go_wp2_with fail;go_ret;exact⟨⟨false,rfl,fun h=>(by cases h)⟩,HC.out.trans HCk.out (fun _ _ e=>e)⟩
     ·have d4:decide ((100:Int)<ln)=false:=by simp;omega
      have d4':decide (100<ln)=false:=by simp;omega
      go_wp2_with fail;go_roundw
      case rel =>
       refine⟨k+1,by omega,by go_num,HCk,kf (fun y hy=>?_)⟩;rw [HTK.out] at hy;rcases List.mem_append.1 hy with h|h
       ·exact HAk.out y h
       ·rw [List.mem_singleton] at h;rw [h,<- HLN.out];omega
      case measure=>simp [intOf];omega
    ·have d3:decide ((k:Int)<m)=false:=by simp;omega
     have d3':decide (k<m)=false:=by simp;omega
     have HE:=kf (show y0w xs from⟨by have:=HM.out;omega,fun x hx=>HAk.out x (by rw [List.take_of_length_le (by have:=HM.out;omega)];exact hx)⟩);go_wp2_with fail;go_ret;exact⟨⟨true,rfl,fun _=>⟨HE.out,HS1.out,HFY.out⟩⟩,HC.out.trans HCk.out (fun _ _ e=>e)⟩
theorem y48 {w:World} (cs:Array Value) (t:TypeId) (fr:Nat × Nat) {n m size:Nat} (h:n=w.heap.size) (hs:cs.size=m*size):Src (w.alloc (.cells cs t fr)) size (some ⟨n,0,none⟩) m m cs.toList:=by
 subst h;refine⟨by simpa using hs,fun h=>(by cases h),fun ad hA j u hu=>?_⟩;cases hA
 have hb:=heap_alloc_new w (.cells cs t fr);have hc:=cell_of_row (w.alloc (.cells cs t fr)) w.heap.size j cs t fr hb;rw [<- Array.getElem?_toList,hu] at hc;by_cases hj:j=0
 ·subst hj;simpa [Addr.add] using hc
 ·simpa [Addr.add,hj] using hc
theorem y9z (w:World):Calls Tryz.prog 18 #[.slice (some ⟨w.heap.size,0,none⟩) 41 41,.int .i64 0,.bool false] (w.alloc (.cells #[.int .u8 120,.int .u8 114,.int .u8 101,.int .u8 102,.int .u8 10,.int .u8 51,.int .u8 32,.int .u8 49,.int .u8 10,.int .u8 48,.int .u8 48,.int .u8 48,.int .u8 48,.int .u8 48,.int .u8 48,.int .u8 48,.int .u8 48,.int .u8 49,.int .u8 55,.int .u8 32,.int .u8 48,.int .u8 48,.int .u8 48,.int .u8 48,.int .u8 48,.int .u8 32,.int .u8 110,.int .u8 32,.int .u8 10,.int .u8 116,.int .u8 114,.int .u8 97,.int .u8 105,.int .u8 108,.int .u8 101,.int .u8 114,.int .u8 60,.int .u8 60,.int .u8 62,.int .u8 62,.int .u8 32] 5 (41,42))) (v9g (w.alloc (.cells #[.int .u8 120,.int .u8 114,.int .u8 101,.int .u8 102,.int .u8 10,.int .u8 51,.int .u8 32,.int .u8 49,.int .u8 10,.int .u8 48,.int .u8 48,.int .u8 48,.int .u8 48,.int .u8 48,.int .u8 48,.int .u8 48,.int .u8 48,.int .u8 49,.int .u8 55,.int .u8 32,.int .u8 48,.int .u8 48,.int .u8 48,.int .u8 48,.int .u8 48,.int .u8 32,.int .u8 110,.int .u8 32,.int .u8 10,.int .u8 116,.int .u8 114,.int .u8 97,.int .u8 105,.int .u8 108,.int .u8 101,.int .u8 114,.int .u8 60,.int .u8 60,.int .u8 62,.int .u8 62,.int .u8 32] 5 (41,42))) ⟨[wxG],.mk 7 0 ⟨#[]⟩ [],40,0⟩):=by
 have h:=y3w wxB (some ⟨w.heap.size,0,none⟩) 41 0 false _ ⟨y48 #[.int .u8 120,.int .u8 114,.int .u8 101,.int .u8 102,.int .u8 10,.int .u8 51,.int .u8 32,.int .u8 49,.int .u8 10,.int .u8 48,.int .u8 48,.int .u8 48,.int .u8 48,.int .u8 48,.int .u8 48,.int .u8 48,.int .u8 48,.int .u8 49,.int .u8 55,.int .u8 32,.int .u8 48,.int .u8 48,.int .u8 48,.int .u8 48,.int .u8 48,.int .u8 32,.int .u8 110,.int .u8 32,.int .u8 10,.int .u8 116,.int .u8 114,.int .u8 97,.int .u8 105,.int .u8 108,.int .u8 101,.int .u8 114,.int .u8 60,.int .u8 60,.int .u8 62,.int .u8 62,.int .u8 32] 5 (41,42) rfl rfl,by decide,by decide,by decide⟩;rw [v60] at h;exact h
theorem v3c:y9p 3 [wxG]=some ⟨17,0,true⟩:=by rfl
theorem y0y (w:World) (hL:LibOk w):Calls Tryz.prog 8 #[] w fun e w'=>e=.returned (.bool true)/\Chg NoS w w':=by
 have HPA:=kf (fun W=>y9z W);have hcv:∀ W:World,(convert 32 32 (.slice (some ⟨W.heap.size,0,none⟩) 41 41)).run Tryz.prog (W.alloc (.cells #[.int .u8 120,.int .u8 114,.int .u8 101,.int .u8 102,.int .u8 10,.int .u8 51,.int .u8 32,.int .u8 49,.int .u8 10,.int .u8 48,.int .u8 48,.int .u8 48,.int .u8 48,.int .u8 48,.int .u8 48,.int .u8 48,.int .u8 48,.int .u8 49,.int .u8 55,.int .u8 32,.int .u8 48,.int .u8 48,.int .u8 48,.int .u8 48,.int .u8 48,.int .u8 32,.int .u8 110,.int .u8 32,.int .u8 10,.int .u8 116,.int .u8 114,.int .u8 97,.int .u8 105,.int .u8 108,.int .u8 101,.int .u8 114,.int .u8 60,.int .u8 60,.int .u8 62,.int .u8 62,.int .u8 32] 5))=.ok (.slice (some ⟨W.heap.size,0,none⟩) 41 41) (W.alloc (.cells #[.int .u8 120,.int .u8 114,.int .u8 101,.int .u8 102,.int .u8 10,.int .u8 51,.int .u8 32,.int .u8 49,.int .u8 10,.int .u8 48,.int .u8 48,.int .u8 48,.int .u8 48,.int .u8 48,.int .u8 48,.int .u8 48,.int .u8 48,.int .u8 49,.int .u8 55,.int .u8 32,.int .u8 48,.int .u8 48,.int .u8 48,.int .u8 48,.int .u8 48,.int .u8 32,.int .u8 110,.int .u8 32,.int .u8 10,.int .u8 116,.int .u8 114,.int .u8 97,.int .u8 105,.int .u8 108,.int .u8 101,.int .u8 114,.int .u8 60,.int .u8 60,.int .u8 62,.int .u8 62,.int .u8 32] 5 (41,42))):=fun W=>Lib.run_convert_bytes_const W 32 5 _ 41 41 Tryz.underlying32 Tryz.underlying5
 have HEN:=kf (fun W (h:Chg NoS w W)=>(show Calls Tryz.prog 12 #[.agg #[.int .i64 17,.int .i64 0,.bool true]] W fun r w'=>r=.returned (.tuple #[.string (sb [48,48,48,48,48,48,48,48,49,55,32,48,48,48,48,48,32,110,32,10]),.int .i64 0])/\Chg NoS W w' from by
  have h1:=z4x ⟨17,0,true⟩ W (hL.chg h) (by decide) (by decide);rw [v65,v62] at h1;exact h1))
 clear hL;go_enter Tryz.func8,Tryz.ntmps8;go_upto_region 2 with(go_at_call 18;refine(HPA.out _).mono ?_;rintro e w5 ⟨xs,B,d,⟨vk,vn,vs,vA,vl,vc⟩,rfl,hxs,hev,hin,hc5⟩;have HXS:Hid (xs.map GC.g=[wxG]):=hxs;have HEV:=kf (v7v hev);have HIN:=kf hin.now;have HC5:=kf (((Chg.refl NoS w).alloc (.cells #[.int .u8 120,.int .u8 114,.int .u8 101,.int .u8 102,.int .u8 10,.int .u8 51,.int .u8 32,.int .u8 49,.int .u8 10,.int .u8 48,.int .u8 48,.int .u8 48,.int .u8 48,.int .u8 48,.int .u8 48,.int .u8 48,.int .u8 48,.int .u8 49,.int .u8 55,.int .u8 32,.int .u8 48,.int .u8 48,.int .u8 48,.int .u8 48,.int .u8 48,.int .u8 32,.int .u8 110,.int .u8 32,.int .u8 10,.int .u8 116,.int .u8 114,.int .u8 97,.int .u8 105,.int .u8 108,.int .u8 101,.int .u8 114,.int .u8 60,.int .u8 60,.int .u8 62,.int .u8 62,.int .u8 32] 5 (41,42))).trans hc5 (fun _ _ e=>e));clear hxs hev hin hc5;unfold v6y;simp only []);have hxl:xs.length=1:=by have:=congrArg List.length HXS.out;rw [List.length_map] at this;exact this
 rw [hxl]
 have HFI:=kf (fun W (hW:Chg NoS w5 W)=>(show Calls Tryz.prog 21 #[.agg #[.slice B 1 d,.int .i64 vk,.int .i64 vn,.string vs,.slice vA vl vc],.int .i64 3] W fun r w'=>r=.returned (.tuple #[.agg #[.int .i64 17,.int .i64 0,.bool true],.bool true])/\Chg NoS W w' from by
  have h1:=y5e xs B d vk vn vs vA vl vc 3 W (HEV.out.chg hW) (by omega) (fun x hx=>by
   have h2:x.g∈[wxG]:=by rw [<- HXS.out];exact List.mem_map_of_mem hx
   rw [List.mem_singleton] at h2;rw [h2];decide) (by decide)
  rw [HXS.out,v3c,hxl] at h1;exact h1))
 have HA6:=kf ((Chg.refl NoS w5).alloc (.cells #[.slice B 1 d,.int .i64 vk,.int .i64 vn,.string vs,.slice vA vl vc] 36));have HB1:=kf (Blk.new w5 36 #[.slice B 1 d,.int .i64 vk,.int .i64 vn,.string vs,.slice vA vl vc]);obtain⟨W1,hW1⟩:∃ W1,W1=w5.alloc (.cells #[.slice B 1 d,.int .i64 vk,.int .i64 vn,.string vs,.slice vA vl vc] 36):=⟨_,rfl⟩
 obtain⟨g1,hg1⟩:∃ g,g=w5.heap.size:=⟨_,rfl⟩
 rw [<- hW1] at HA6 HB1 ⊢;rw [<- hg1] at HB1 ⊢;clear hW1 hg1 hcv hxl;obtain⟨q0,q1,q2,q3,q4,-⟩:=HB1.out.cl5;go_upto_region 3 with(go_at_call 21;refine(HFI.out _ HA6.out).mono ?_;rintro e w6 ⟨rfl,hc6⟩;have HC66:=kf (HA6.out.trans hc6 (fun _ _ e=>e));have HB2:=kf (HB1.out.chg hc6 (fun e=>e));clear hc6);have HA7:=kf (HC66.out.alloc (.cells #[.int .i64 17,.int .i64 0,.bool true] 29));have HB3:=kf (HB2.out.alloc (.cells #[.int .i64 17,.int .i64 0,.bool true] 29));have HB4:=kf (Blk.new w6 29 #[.int .i64 17,.int .i64 0,.bool true]);obtain⟨W2,hW2⟩:∃ W2,W2=w6.alloc (.cells #[.int .i64 17,.int .i64 0,.bool true] 29):=⟨_,rfl⟩
 obtain⟨g4,hg4⟩:∃ g,g=w6.heap.size:=⟨_,rfl⟩
 rw [<- hW2] at HA7 HB3 HB4 ⊢;rw [<- hg4] at HB4 ⊢;clear hW2 hg4 q0 q1 q2 q3 q4;obtain⟨S1,hS1⟩:∃ S,S=sb [48,48,48,48,48,48,48,48,49,55,32,48,48,48,48,48,32,110,32,10]:=⟨_,rfl⟩
 rw [<- hS1] at HEN;have hS3:S1.toList=[48,48,48,48,48,48,48,48,49,55,32,48,48,48,48,48,32,110,32,10]:=by rw [hS1];kernel_rfl
 have hS4:(S1.toList==[48,48,48,48,48,48,48,48,49,55,32,48,48,48,48,48,32,110,32,10])=true:=by rw [hS3];rfl
 clear hS1;go_upto_region 4 with(go_at_call 12;refine(HEN.out _ (HC5.out.trans HA7.out (fun _ _ e=>e))).mono ?_;rintro e W6 ⟨rfl,hc7⟩;have HC7:=kf (HA7.out.trans hc7 (fun _ _ e=>e));have HB5:=kf (HB3.out.chg hc7 (fun e=>e));have HB6:=kf (HB4.out.chg hc7 (fun e=>e));clear hc7);have HC6:=kf (HC5.out.trans HC7.out (fun _ _ e=>e));have HV6:=kf (HIN.out.chg HC7.out)
 have HHE:=kf (fun W (hW:Chg NoS W6 W)=>(show W.cell? ⟨g1,1,none⟩=some (.int .i64 vk)/\W.cell? ⟨g1,2,none⟩=some (.int .i64 vn)/\W.cell? ⟨g1,3,none⟩=some (.string vs)/\W.cell? ⟨g1,4,none⟩=some (.slice vA vl vc)/\W.cell? ⟨g4,0,none⟩=some (.int .i64 17)/\W.cell? ⟨g4,2,none⟩=some (.bool true) from
  ⟨(HB5.out.chg hW (fun e=>e)).cell 1,(HB5.out.chg hW (fun e=>e)).cell 2,(HB5.out.chg hW (fun e=>e)).cell 3,(HB5.out.chg hW (fun e=>e)).cell 4,(HB6.out.chg hW (fun e=>e)).cell 0,(HB6.out.chg hW (fun e=>e)).cell 2⟩))
 have HDO:=kf (fun W=>z41 none 0 0 W (fun _=>⟨rfl,rfl⟩) (by decide))
 have HSA:=kf (fun W (k' n':Int) (S':ByteArray) (A':Option Addr) (l' c':Nat) (h:Chg NoS W6 W) (h2:ValIs W (.mk 7 0 ⟨#[]⟩ []) ⟨k',n',S',A',l',c'⟩)=>(show Calls Tryz.prog 25 #[.agg #[.int .i64 vk,.int .i64 vn,.string vs,.slice vA vl vc],.agg #[.int .i64 k',.int .i64 n',.string S',.slice A' l' c']] W fun r w'=>r=.returned (.bool true)/\Chg NoS W w' from by
  have h1:=y2l (.mk 7 0 ⟨#[]⟩ []) (.mk 7 0 ⟨#[]⟩ []) ⟨vk,vn,vs,vA,vl,vc⟩ ⟨k',n',S',A',l',c'⟩ W (HV6.out.chg h) h2;rw [decide_eq_true (y9a _)] at h1;exact h1))
 refine y2d (fun W=>W.cell? ⟨g1,1,none⟩=some (.int .i64 vk)/\W.cell? ⟨g1,2,none⟩=some (.int .i64 vn)/\W.cell? ⟨g1,3,none⟩=some (.string vs)/\W.cell? ⟨g1,4,none⟩=some (.slice vA vl vc)/\W.cell? ⟨g4,0,none⟩=some (.int .i64 17)/\W.cell? ⟨g4,2,none⟩=some (.bool true)) 32 (by kernel_rfl) (HHE.out _ ((Chg.refl NoS W6).drew)) (fun hHeld=>?_);refine z0b (i:=0) (oi:={ dst:=some 25,op:=Go.Op.move (Go.Operand.tmp 3),type:=33,pos:=_,after:=_,guard:=none }) (v:=?_) rfl (by kernel_rfl) (by kernel_rfl) (by kernel_rfl) (by kernel_rfl) (fun _ _ _ h=>h) (Or.inl ⟨by rfl,?_⟩) (by assumption) ?_;rotate_left
 ·intro w hSw;(try dsimp only at hSw);(try obtain⟨s0,s1,s2,s3,s4,s5⟩:=hSw);(first|(go_simp;done)|(go_simp;with_reducible rfl))
 try simp only [pkA]
 refine z0b (i:=1) (oi:={ dst:=some 26,op:=Go.Op.binOp Go.BinOp.eql 33 (Go.Operand.tmp 25) (Go.Operand.const (Go.Value.int Go.IntKind.i64 0)) 33,type:=4,pos:=_,after:=_,guard:=none }) (v:=?_) rfl (by kernel_rfl) (by kernel_rfl) (by kernel_rfl) (by kernel_rfl) (fun _ _ _ h=>h) (Or.inl ⟨by rfl,?_⟩) (by assumption) ?_;rotate_left
 ·intro w hSw;(try dsimp only at hSw);(try obtain⟨s0,s1,s2,s3,s4,s5⟩:=hSw);(first|(go_simp;done)|(go_simp;with_reducible rfl))
 try simp only [pkA]
 refine z0b (i:=2) (oi:={ dst:=some 27,op:=Go.Op.move (Go.Operand.tmp 26),type:=4,pos:=_,after:=_,guard:=none }) (v:=?_) rfl (by kernel_rfl) (by kernel_rfl) (by kernel_rfl) (by kernel_rfl) (fun _ _ _ h=>h) (Or.inl ⟨by rfl,?_⟩) (by assumption) ?_;rotate_left
 ·intro w hSw;(try dsimp only at hSw);(try obtain⟨s0,s1,s2,s3,s4,s5⟩:=hSw);(first|(go_simp;done)|(go_simp;with_reducible rfl))
 try simp only [pkA]
 refine z0b (i:=3) (oi:={ dst:=some 28,op:=Go.Op.move (Go.Operand.tmp 2),type:=3,pos:=_,after:=_,guard:=some (2,true) }) (v:=?_) rfl (by kernel_rfl) (by kernel_rfl) (by kernel_rfl) (by kernel_rfl) (fun _ _ _ h=>h) (Or.inl ⟨by rfl,?_⟩) (by assumption) ?_;rotate_left
 ·intro w hSw;(try dsimp only at hSw);(try obtain⟨s0,s1,s2,s3,s4,s5⟩:=hSw);(first|(go_simp;done)|(go_simp;with_reducible rfl))
 try simp only [pkA]
 refine z0b (i:=4) (oi:={ dst:=some 29,op:=Go.Op.binOp Go.BinOp.eql 3 (Go.Operand.tmp 28) (Go.Operand.const (Go.Value.int Go.IntKind.i64 40)) 3,type:=4,pos:=_,after:=_,guard:=some (2,true) }) (v:=?_) rfl (by kernel_rfl) (by kernel_rfl) (by kernel_rfl) (by kernel_rfl) (fun _ _ _ h=>h) (Or.inl ⟨by rfl,?_⟩) (by assumption) ?_;rotate_left
 ·intro w hSw;(try dsimp only at hSw);(try obtain⟨s0,s1,s2,s3,s4,s5⟩:=hSw);(first|(go_simp;done)|(go_simp;with_reducible rfl))
 try simp only [pkA]
 refine z0b (i:=5) (oi:={ dst:=some 30,op:=Go.Op.pick (Go.Operand.tmp 27) (Go.Operand.tmp 29) (Go.Operand.const (Go.Value.bool false)),type:=4,pos:=_,after:=_,guard:=none }) (v:=?_) rfl (by kernel_rfl) (by kernel_rfl) (by kernel_rfl) (by kernel_rfl) (fun _ _ _ h=>h) (Or.inl ⟨by rfl,?_⟩) (by assumption) ?_;rotate_left
 ·intro w hSw;(try dsimp only at hSw);(try obtain⟨s0,s1,s2,s3,s4,s5⟩:=hSw);(first|(go_simp;done)|(go_simp;with_reducible rfl))
 try simp only [pkA]
 refine z0b (i:=6) (oi:={ dst:=some 31,op:=Go.Op.move (Go.Operand.tmp 30),type:=4,pos:=_,after:=_,guard:=none }) (v:=?_) rfl (by kernel_rfl) (by kernel_rfl) (by kernel_rfl) (by kernel_rfl) (fun _ _ _ h=>h) (Or.inl ⟨by rfl,?_⟩) (by assumption) ?_;rotate_left
 ·intro w hSw;(try dsimp only at hSw);(try obtain⟨s0,s1,s2,s3,s4,s5⟩:=hSw);(first|(go_simp;done)|(go_simp;with_reducible rfl))
 try simp only [pkA]
 refine z0b (i:=7) (oi:={ dst:=some 32,op:=Go.Op.move (Go.Operand.tmp 5),type:=4,pos:=_,after:=_,guard:=some (6,true) }) (v:=?_) rfl (by kernel_rfl) (by kernel_rfl) (by kernel_rfl) (by kernel_rfl) (fun _ _ _ h=>h) (Or.inl ⟨by rfl,?_⟩) (by assumption) ?_;rotate_left
 ·intro w hSw;(try dsimp only at hSw);(try obtain⟨s0,s1,s2,s3,s4,s5⟩:=hSw);(first|(go_simp;done)|(go_simp;with_reducible rfl))
 try simp only [pkA]
 refine z0b (i:=8) (oi:={ dst:=some 33,op:=Go.Op.pick (Go.Operand.tmp 31) (Go.Operand.tmp 32) (Go.Operand.const (Go.Value.bool false)),type:=4,pos:=_,after:=_,guard:=none }) (v:=?_) rfl (by kernel_rfl) (by kernel_rfl) (by kernel_rfl) (by kernel_rfl) (fun _ _ _ h=>h) (Or.inl ⟨by rfl,?_⟩) (by assumption) ?_;rotate_left
 ·intro w hSw;(try dsimp only at hSw);(try obtain⟨s0,s1,s2,s3,s4,s5⟩:=hSw);(first|(go_simp;done)|(go_simp;with_reducible rfl))
 try simp only [pkA]
 refine z0b (i:=9) (oi:={ dst:=some 34,op:=Go.Op.move (Go.Operand.tmp 33),type:=4,pos:=_,after:=_,guard:=none }) (v:=?_) rfl (by kernel_rfl) (by kernel_rfl) (by kernel_rfl) (by kernel_rfl) (fun _ _ _ h=>h) (Or.inl ⟨by rfl,?_⟩) (by assumption) ?_;rotate_left
 ·intro w hSw;(try dsimp only at hSw);(try obtain⟨s0,s1,s2,s3,s4,s5⟩:=hSw);(first|(go_simp;done)|(go_simp;with_reducible rfl))
 try simp only [pkA]
 refine z0b (i:=10) (oi:={ dst:=some 35,op:=Go.Op.fieldAddr 29 (Go.Operand.tmp 4) 0,type:=0,pos:=_,after:=_,guard:=some (9,true) }) (v:=?_) rfl (by kernel_rfl) (by kernel_rfl) (by kernel_rfl) (by kernel_rfl) (fun _ _ _ h=>h) (Or.inl ⟨by rfl,?_⟩) (by assumption) ?_;rotate_left
 ·intro w hSw;(try dsimp only at hSw);(try obtain⟨s0,s1,s2,s3,s4,s5⟩:=hSw);(first|(go_simp;done)|(go_simp;with_reducible rfl))
 try simp only [pkA]
 refine z0b (i:=11) (oi:={ dst:=some 36,op:=Go.Op.load 3 (Go.Operand.tmp 35),type:=3,pos:=_,after:=_,guard:=some (9,true) }) (v:=?_) rfl (by kernel_rfl) (by kernel_rfl) (by kernel_rfl) (by kernel_rfl) (fun _ _ _ h=>h) (Or.inl ⟨by rfl,?_⟩) (by assumption) ?_;rotate_left
 ·intro w hSw;(try dsimp only at hSw);(try obtain⟨s0,s1,s2,s3,s4,s5⟩:=hSw);(first|(go_simp;done)|(go_simp;with_reducible rfl))
 try simp only [pkA]
 refine z0b (i:=12) (oi:={ dst:=some 37,op:=Go.Op.binOp Go.BinOp.eql 3 (Go.Operand.tmp 36) (Go.Operand.const (Go.Value.int Go.IntKind.i64 17)) 3,type:=4,pos:=_,after:=_,guard:=some (9,true) }) (v:=?_) rfl (by kernel_rfl) (by kernel_rfl) (by kernel_rfl) (by kernel_rfl) (fun _ _ _ h=>h) (Or.inl ⟨by rfl,?_⟩) (by assumption) ?_;rotate_left
 ·intro w hSw;(try dsimp only at hSw);(try obtain⟨s0,s1,s2,s3,s4,s5⟩:=hSw);(first|(go_simp;done)|(go_simp;with_reducible rfl))
 try simp only [pkA]
 refine z0b (i:=13) (oi:={ dst:=some 38,op:=Go.Op.pick (Go.Operand.tmp 34) (Go.Operand.tmp 37) (Go.Operand.const (Go.Value.bool false)),type:=4,pos:=_,after:=_,guard:=none }) (v:=?_) rfl (by kernel_rfl) (by kernel_rfl) (by kernel_rfl) (by kernel_rfl) (fun _ _ _ h=>h) (Or.inl ⟨by rfl,?_⟩) (by assumption) ?_;rotate_left
 ·intro w hSw;(try dsimp only at hSw);(try obtain⟨s0,s1,s2,s3,s4,s5⟩:=hSw);(first|(go_simp;done)|(go_simp;with_reducible rfl))
 try simp only [pkA]
 refine z0b (i:=14) (oi:={ dst:=some 39,op:=Go.Op.move (Go.Operand.tmp 38),type:=4,pos:=_,after:=_,guard:=none }) (v:=?_) rfl (by kernel_rfl) (by kernel_rfl) (by kernel_rfl) (by kernel_rfl) (fun _ _ _ h=>h) (Or.inl ⟨by rfl,?_⟩) (by assumption) ?_;rotate_left
 ·intro w hSw;(try dsimp only at hSw);(try obtain⟨s0,s1,s2,s3,s4,s5⟩:=hSw);(first|(go_simp;done)|(go_simp;with_reducible rfl))
 try simp only [pkA]
 refine z0b (i:=15) (oi:={ dst:=some 40,op:=Go.Op.fieldAddr 29 (Go.Operand.tmp 4) 2,type:=0,pos:=_,after:=_,guard:=some (14,true) }) (v:=?_) rfl (by kernel_rfl) (by kernel_rfl) (by kernel_rfl) (by kernel_rfl) (fun _ _ _ h=>h) (Or.inl ⟨by rfl,?_⟩) (by assumption) ?_;rotate_left
 ·intro w hSw;(try dsimp only at hSw);(try obtain⟨s0,s1,s2,s3,s4,s5⟩:=hSw);(first|(go_simp;done)|(go_simp;with_reducible rfl))
 try simp only [pkA]
 refine z0b (i:=16) (oi:={ dst:=some 41,op:=Go.Op.load 4 (Go.Operand.tmp 40),type:=4,pos:=_,after:=_,guard:=some (14,true) }) (v:=?_) rfl (by kernel_rfl) (by kernel_rfl) (by kernel_rfl) (by kernel_rfl) (fun _ _ _ h=>h) (Or.inl ⟨by rfl,?_⟩) (by assumption) ?_;rotate_left
 ·intro w hSw;(try dsimp only at hSw);(try obtain⟨s0,s1,s2,s3,s4,s5⟩:=hSw);(first|(go_simp;done)|(go_simp;with_reducible rfl))
 try simp only [pkA]
 refine z0b (i:=17) (oi:={ dst:=some 42,op:=Go.Op.pick (Go.Operand.tmp 39) (Go.Operand.tmp 41) (Go.Operand.const (Go.Value.bool false)),type:=4,pos:=_,after:=_,guard:=none }) (v:=?_) rfl (by kernel_rfl) (by kernel_rfl) (by kernel_rfl) (by kernel_rfl) (fun _ _ _ h=>h) (Or.inl ⟨by rfl,?_⟩) (by assumption) ?_;rotate_left
 ·intro w hSw;(try dsimp only at hSw);(try obtain⟨s0,s1,s2,s3,s4,s5⟩:=hSw);(first|(go_simp;done)|(go_simp;with_reducible rfl))
 try simp only [pkA]
 refine z0b (i:=18) (oi:={ dst:=some 43,op:=Go.Op.move (Go.Operand.tmp 42),type:=4,pos:=_,after:=_,guard:=none }) (v:=?_) rfl (by kernel_rfl) (by kernel_rfl) (by kernel_rfl) (by kernel_rfl) (fun _ _ _ h=>h) (Or.inl ⟨by rfl,?_⟩) (by assumption) ?_;rotate_left
 ·intro w hSw;(try dsimp only at hSw);(try obtain⟨s0,s1,s2,s3,s4,s5⟩:=hSw);(first|(go_simp;done)|(go_simp;with_reducible rfl))
 try simp only [pkA]
 refine z0b (i:=19) (oi:={ dst:=some 44,op:=Go.Op.move (Go.Operand.tmp 6),type:=9,pos:=_,after:=_,guard:=some (18,true) }) (v:=?_) rfl (by kernel_rfl) (by kernel_rfl) (by kernel_rfl) (by kernel_rfl) (fun _ _ _ h=>h) (Or.inl ⟨by rfl,?_⟩) (by assumption) ?_;rotate_left
 ·intro w hSw;(try dsimp only at hSw);(try obtain⟨s0,s1,s2,s3,s4,s5⟩:=hSw);(first|(go_simp;done)|(go_simp;with_reducible rfl))
 try simp only [pkA]
 refine z0b (i:=20) (oi:={ dst:=some 45,op:=Go.Op.binOp Go.BinOp.eql 9 (Go.Operand.tmp 44) (Go.Operand.const (Go.Value.string { data:=#[48,48,48,48,48,48,48,48,49,55,32,48,48,48,48,48,32,110,32,10] })) 9,type:=4,pos:=_,after:=_,guard:=some (18,true) }) (v:=?_) rfl (by kernel_rfl) (by kernel_rfl) (by kernel_rfl) (by kernel_rfl) (fun _ _ _ h=>h) (Or.inl ⟨by rfl,?_⟩) (by assumption) ?_;rotate_left
 ·intro w hSw;(try dsimp only at hSw);(try obtain⟨s0,s1,s2,s3,s4,s5⟩:=hSw);(first|(go_simp;done)|(go_simp;with_reducible rfl))
 try simp only [pkA]
 refine z0b (i:=21) (oi:={ dst:=some 46,op:=Go.Op.pick (Go.Operand.tmp 43) (Go.Operand.tmp 45) (Go.Operand.const (Go.Value.bool false)),type:=4,pos:=_,after:=_,guard:=none }) (v:=?_) rfl (by kernel_rfl) (by kernel_rfl) (by kernel_rfl) (by kernel_rfl) (fun _ _ _ h=>h) (Or.inl ⟨by rfl,?_⟩) (by assumption) ?_;rotate_left
 ·intro w hSw;(try dsimp only at hSw);(try obtain⟨s0,s1,s2,s3,s4,s5⟩:=hSw);(first|(go_simp;done)|(go_simp;with_reducible rfl))
 try simp only [pkA]
 refine z0b (i:=22) (oi:={ dst:=some 47,op:=Go.Op.move (Go.Operand.tmp 46),type:=4,pos:=_,after:=_,guard:=none }) (v:=?_) rfl (by kernel_rfl) (by kernel_rfl) (by kernel_rfl) (by kernel_rfl) (fun _ _ _ h=>h) (Or.inl ⟨by rfl,?_⟩) (by assumption) ?_;rotate_left
 ·intro w hSw;(try dsimp only at hSw);(try obtain⟨s0,s1,s2,s3,s4,s5⟩:=hSw);(first|(go_simp;done)|(go_simp;with_reducible rfl))
 try simp only [pkA]
 refine z0b (i:=23) (oi:={ dst:=some 48,op:=Go.Op.move (Go.Operand.tmp 7),type:=33,pos:=_,after:=_,guard:=some (22,true) }) (v:=?_) rfl (by kernel_rfl) (by kernel_rfl) (by kernel_rfl) (by kernel_rfl) (fun _ _ _ h=>h) (Or.inl ⟨by rfl,?_⟩) (by assumption) ?_;rotate_left
 ·intro w hSw;(try dsimp only at hSw);(try obtain⟨s0,s1,s2,s3,s4,s5⟩:=hSw);(first|(go_simp;done)|(go_simp;with_reducible rfl))
 try simp only [pkA]
 refine z0b (i:=24) (oi:={ dst:=some 49,op:=Go.Op.binOp Go.BinOp.eql 33 (Go.Operand.tmp 48) (Go.Operand.const (Go.Value.int Go.IntKind.i64 0)) 33,type:=4,pos:=_,after:=_,guard:=some (22,true) }) (v:=?_) rfl (by kernel_rfl) (by kernel_rfl) (by kernel_rfl) (by kernel_rfl) (fun _ _ _ h=>h) (Or.inl ⟨by rfl,?_⟩) (by assumption) ?_;rotate_left
 ·intro w hSw;(try dsimp only at hSw);(try obtain⟨s0,s1,s2,s3,s4,s5⟩:=hSw);(first|(go_simp;done)|(go_simp;with_reducible rfl))
 try simp only [pkA]
 refine z0b (i:=25) (oi:={ dst:=some 50,op:=Go.Op.pick (Go.Operand.tmp 47) (Go.Operand.tmp 49) (Go.Operand.const (Go.Value.bool false)),type:=4,pos:=_,after:=_,guard:=none }) (v:=?_) rfl (by kernel_rfl) (by kernel_rfl) (by kernel_rfl) (by kernel_rfl) (fun _ _ _ h=>h) (Or.inl ⟨by rfl,?_⟩) (by assumption) ?_;rotate_left
 ·intro w hSw;(try dsimp only at hSw);(try obtain⟨s0,s1,s2,s3,s4,s5⟩:=hSw);(first|(go_simp;done)|(go_simp;with_reducible rfl))
 try simp only [pkA]
 refine z0b (i:=26) (oi:={ dst:=some 51,op:=Go.Op.move (Go.Operand.tmp 50),type:=4,pos:=_,after:=_,guard:=none }) (v:=?_) rfl (by kernel_rfl) (by kernel_rfl) (by kernel_rfl) (by kernel_rfl) (fun _ _ _ h=>h) (Or.inl ⟨by rfl,?_⟩) (by assumption) ?_;rotate_left
 ·intro w hSw;(try dsimp only at hSw);(try obtain⟨s0,s1,s2,s3,s4,s5⟩:=hSw);(first|(go_simp;done)|(go_simp;with_reducible rfl))
 try simp only [pkA]
 refine z0b (i:=27) (oi:={ dst:=some 52,op:=Go.Op.fieldAddr 36 (Go.Operand.tmp 1) 1,type:=0,pos:=_,after:=_,guard:=some (26,true) }) (v:=?_) rfl (by kernel_rfl) (by kernel_rfl) (by kernel_rfl) (by kernel_rfl) (fun _ _ _ h=>h) (Or.inl ⟨by rfl,?_⟩) (by assumption) ?_;rotate_left
 ·intro w hSw;(try dsimp only at hSw);(try obtain⟨s0,s1,s2,s3,s4,s5⟩:=hSw);(first|(go_simp;done)|(go_simp;with_reducible rfl))
 try simp only [pkA]
 refine z0b (i:=28) (oi:={ dst:=some 53,op:=Go.Op.load 25 (Go.Operand.tmp 52),type:=25,pos:=_,after:=_,guard:=some (26,true) }) (v:=?_) rfl (by kernel_rfl) (by kernel_rfl) (by kernel_rfl) (by kernel_rfl) (fun _ _ _ h=>h) (Or.inl ⟨by rfl,?_⟩) (by assumption) ?_;rotate_left
 ·intro w hSw;(try dsimp only at hSw);(try obtain⟨s0,s1,s2,s3,s4,s5⟩:=hSw);(first|(go_simp;done)|(go_simp;with_reducible rfl))
 try simp only [pkA]
 refine y59 (i:=29) (o:={ dst:=some 54,op:=Go.Op.call { callee:=Go.Callee.value (Go.Operand.func 26),args:=#[Go.Operand.const (Go.Value.slice none 0 0)],argTypes:=#[23] },type:=25,pos:=_,after:=_,guard:=some (26,true) }) (by kernel_rfl) rfl (by decide) (fun K hK=>?_);go_simp;(go_at_call 26;refine(HDO.out _).mono ?_;rintro e w8 ⟨⟨k8,n8,s8,A8,l8,c8⟩,rfl,hv8,hc8⟩;have HV8:=kf hv8;have HC8:=kf ((Chg.refl NoS W6).drew.trans hc8 (fun _ _ e=>e));unfold VC.val;simp only [];clear hv8 hc8)
 refine hK.out _ _ (HHE.out _ HC8.out) (fun hHeld=>?_);clear hK K;try simp only [pkA]
 refine y59 (i:=30) (o:={ dst:=some 55,op:=Go.Op.call { callee:=Go.Callee.value (Go.Operand.func 25),args:=#[Go.Operand.tmp 53,Go.Operand.tmp 54],argTypes:=#[25,25] },type:=4,pos:=_,after:=_,guard:=some (26,true) }) (by kernel_rfl) rfl (by decide) (fun K hK=>?_);go_simp;(go_at_call 25;refine(HSA.out _ k8 n8 s8 A8 l8 c8 HC8.out HV8.out).mono ?_;rintro e w10 ⟨rfl,hc10⟩;have HCX:=kf (HC8.out.trans hc10 (fun _ _ e=>e));clear hc10)
 refine hK.out _ _ (HHE.out _ HCX.out) (fun hHeld=>?_);clear hK K;try simp only [pkA]
 refine z0b (i:=31) (oi:={ dst:=some 56,op:=Go.Op.pick (Go.Operand.tmp 51) (Go.Operand.tmp 55) (Go.Operand.const (Go.Value.bool false)),type:=4,pos:=_,after:=_,guard:=none }) (v:=?_) rfl (by kernel_rfl) (by kernel_rfl) (by kernel_rfl) (by kernel_rfl) (fun _ _ _ h=>h) (Or.inl ⟨by rfl,?_⟩) (by assumption) ?_;rotate_left
 ·intro w hSw;(try dsimp only at hSw);(try obtain⟨s0,s1,s2,s3,s4,s5⟩:=hSw);(first|(go_simp;done)|(go_simp;with_reducible rfl))
 try simp only [pkA]
 refine y7o (o:={ dst:=some 0,op:=Go.Op.assign (Go.Operand.tmp 56),type:=4,pos:=_,after:=_,guard:=none }) (by kernel_rfl) rfl (by kernel_rfl) (fun K hK=>?_);go_simp;refine hK.out _ _ ?_;clear hK K;try simp only [pkA]
 go_wp2_with fail;go_ret;exact⟨rfl,HC6.out.trans HCX.out (fun _ _ e=>e)⟩
theorem y5c (B:Option Addr) (n d:Nat) (k m:Int) (s:ByteArray) (A:Option Addr) (l c:Nat) (w:World):Calls Tryz.prog 10 #[.agg #[.slice B n d,.int .i64 k,.int .i64 m,.string s,.slice A l c]] w fun e w'=>e=.returned (.agg #[.slice B n d,.int .i64 k,.int .i64 m,.string s,.slice A l c])/\Chg NoS w w':=by
 have HB:=kf ((Blk.new w 27 #[.slice B n d,.int .i64 k,.int .i64 m,.string s,.slice A l c]).alloc (.cells #[.slice none 0 0,.int .i64 0,.int .i64 0,.string ⟨#[]⟩,.slice none 0 0] 36));have hb2:=Blk.new (w.alloc (.cells #[.slice B n d,.int .i64 k,.int .i64 m,.string s,.slice A l c] 27)) 36 #[.slice none 0 0,.int .i64 0,.int .i64 0,.string ⟨#[]⟩,.slice none 0 0];rw [World.size_alloc] at hb2;have HC:=kf (((Chg.refl NoS w).alloc (.cells #[.slice B n d,.int .i64 k,.int .i64 m,.string s,.slice A l c] 27)).alloc (.cells #[.slice none 0 0,.int .i64 0,.int .i64 0,.string ⟨#[]⟩,.slice none 0 0] 36));obtain⟨g3,hg3⟩:∃ g,g=w.heap.size+1:=⟨_,rfl⟩
 obtain⟨g2,hg2⟩:∃ g,g=w.heap.size:=⟨_,rfl⟩
 rw [<- hg3] at hb2;rw [<- hg2] at HB;have HG:Hid (w.heap.size<=g3):=by show _<=_;omega
 go_enter Tryz.func10,Tryz.ntmps10;go_upto_region 1 with fail;rw [<- hg2];rw [show g2+1=g3 from by omega];obtain⟨W1,hW1⟩:∃ W1,W1=(w.alloc (.cells #[.slice B n d,.int .i64 k,.int .i64 m,.string s,.slice A l c] 27)).alloc (.cells #[.slice none 0 0,.int .i64 0,.int .i64 0,.string ⟨#[]⟩,.slice none 0 0] 36):=⟨_,rfl⟩
 rw [<- hW1] at HB hb2 HC ⊢;clear hW1 hg2 hg3;obtain⟨q0,q1,q2,q3,q4,-⟩:=HB.out.cl5;obtain⟨p0,p1,p2,p3,p4,u0,u1,u2,u3,u4⟩:=hb2.cl5;go_wp2_with fail;refine bodyPost_ret (v:=.agg #[.slice B n d,.int .i64 k,.int .i64 m,.string s,.slice A l c]) (by simp [results,Tryz.results10,go_sem,p0,p1,p2,p3,p4]) rfl ?_;exact⟨rfl,HC.out.trans (z8e W1 g3 _ _ _ _ _) (fun i hi e=>by have:=HG.out;omega)⟩
end Go.Proofs.YtnhlalkeaaiefaaGreatDoor
