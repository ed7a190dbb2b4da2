/- Merged by program. -/
import Derived.Test.YtcehpobjnbgpdaaGreatDoorC00
set_option linter.unusedVariables false
set_option linter.unusedSimpArgs false
namespace Go.Proofs.YtcehpobjnbgpdaaGreatDoor
open Go.RowKit Go.Deep Go.ChangeShapes Go.WideShapes
theorem el_int {H:Type} {en:TypeId × Value->H} {P:Program} {w:World} {base n:Nat} {spare:Nat->Bool} {held:Bool} {e:TypeId} {cs:List Value} {y:DataW H × List MemPlace} {k:IntKind}
  (he:P.underlying e=some (.int k)) (h:DataW.trod en P w base spare held n e cs=some y):∃ z:Int,cs=[.int k z]/\(Lit.int k z).wf=true:=by
 obtain⟨z,rfl,_,hz⟩:=DataW.trod_int he h
 exact⟨z,rfl,hz⟩
end Go.Proofs.YtcehpobjnbgpdaaGreatDoor
namespace Go.Proofs.YtcehpobjnbgpdaaGreatDoor
open Go.RowKit Go.Deep Go.ChangeShapes Go.WideShapes
theorem row_of {w:World} {ad:Addr} {len:Nat} (f:Nat->VC × VT) (hf:∀ j,j<len->(∀ i,i<4->w.cell? (ad.add (j*4+i))=(f j).1.cells[i]?)/\ValIs w (f j).2 (f j).1):∀ (m j:Nat),j+m=len->∃ l:List VT,l.length=m/\RowIs w (some ad) j l:=by
 intro m
 induction m with
 |zero=>intro j _;exact⟨[],rfl,.nil _ _⟩
 |succ m ih =>
  intro j hj
  obtain⟨l,hl,hr⟩:=ih (j+1) (by omega)
  obtain⟨h1,h2⟩:=hf j (by omega)
  exact⟨(f j).2::l,by rw [List.length_cons,hl],.cons ad j _ l _ h1 h2 hr⟩
theorem el_four {H:Type} {en:TypeId × Value->H} {P:Program} {w:World} {base fuel:Nat} {spare:Nat->Bool} {held:Bool} {e:TypeId} {cs:List Value} {y:DataW H × List MemPlace} {f0 f1 f2 f3:Field}
  (he:P.underlying e=some (.struct #[f0,f1,f2,f3])) (hone:oneCellFields P #[f0,f1,f2,f3]=true) (hC:P.cellsOf e=4) (h:DataW.trod en P w base spare held fuel e cs=some y) :
  ∃ u v x z m y0 y1 y2 y3,fuel=m+1/\cs=[u,v,x,z]/\DataW.trod en P w base spare held m f0.type [u]=some y0/\DataW.trod en P w base spare held m f1.type [v]=some y1/\DataW.trod en P w base spare held m f2.type [x]=some y2/\DataW.trod en P w base spare held m f3.type [z]=some y3:=by
 obtain⟨xs,m,rfl,_,hl,hx,hf⟩:=DataW.trod_struct he h
 rw [hC] at hl
 obtain⟨o0,c0⟩:=hone_of hone 0 f0 rfl
 obtain⟨o1,c1⟩:=hone_of hone 1 f1 rfl
 obtain⟨o2,c2⟩:=hone_of hone 2 f2 rfl
 obtain⟨o3,c3⟩:=hone_of hone 3 f3 rfl
 have h0:=hf 0 f0 rfl
 have h1:=hf 1 f1 rfl
 have h2:=hf 2 f2 rfl
 have h3:=hf 3 f3 rfl
 rw [o0,c0] at h0
 rw [o1,c1] at h1
 rw [o2,c2] at h2
 rw [o3,c3] at h3
 match cs,hl with
 |[u,v,x,z],_ =>
  simp at hx
  rw [List.getElem?_eq_getElem (by omega)] at h0 h1 h2 h3
  exact⟨u,v,x,z,m,_,_,_,_,rfl,rfl,by simpa using h0,by simpa using h1,by simpa using h2,by simpa using h3⟩
set_option maxHeartbeats 1000000 in
theorem vt_el {H:Type} {en:TypeId × Value->H} {w:World} {base:Nat} {spare:Nat->Bool} {held:Bool}:∀ (fuel:Nat) (cs:List Value) (y:DataW H × List MemPlace),DataW.trod en Tryz.prog w base spare held fuel 24 cs=some y->∃ (c:VC) (t:VT),cs=c.cells/\ValIs w t c:=by
 intro fuel
 induction fuel using Nat.strongRecOn with
 |_ fuel ih =>
  intro cs y h
  obtain⟨u,v,x,z,m,y0,y1,y2,y3,rfl,rfl,h0,h1,h2,h3⟩:=el_four Tryz.underlying24 (by kernel_rfl) (by kernel_rfl) h
  obtain⟨z0,e0,g0⟩:=el_int Tryz.underlying3 h0
  obtain⟨z1,e1,g1⟩:=el_int Tryz.underlying3 h1
  obtain⟨s,e2,_,g2⟩:=DataW.trod_string Tryz.underlying9 h2
  simp only [List.cons.injEq,and_true] at e0 e1 e2
  subst e0 e1 e2
  rcases DataW.trod_slice Tryz.underlying22 h3 with⟨e3,_⟩|⟨a,len,cap,elems,rest,n,rfl,e3,_,hb,hl,hm,hlen,hel,_,_⟩
  ·simp only [List.cons.injEq,and_true] at e3
   subst e3
   exact⟨⟨z0,z1,s,none,0,0⟩,_,rfl,.mk ⟨z0,z1,s,none,0,0⟩ [] ⟨bounds_i64 g0,bounds_i64 g1,g2,fun _=>⟨rfl,rfl⟩,Nat.le_refl _,Nat.zero_le _⟩ rfl (.nil _ _)⟩
  ·simp only [List.cons.injEq,and_true] at e3
   subst e3
   have hex:∀ j,j<len->∃ p:VC × VT,(∀ i,i<4->w.cell? (a.add (j*4+i))=p.1.cells[i]?)/\ValIs w p.2 p.1:=by
    intro j hj
    have h4:=hel j hj
    rw [List.getElem?_eq_getElem (by omega)] at h4
    obtain⟨cs',hcs',ht'⟩:=Option.bind_eq_some_iff.1 h4
    rw [show Tryz.prog.cellsOf 24=4 from by kernel_rfl] at hcs'
    obtain⟨_,hcl,hat⟩:=World.cells?_some hcs'
    obtain⟨c,t,rfl,hv⟩:=ih n (by omega) cs' _ ht'
    exact⟨(c,t),fun i hi=>by rw [<- Go.Deep.add_add];exact hat i hi,hv⟩
   haveI:Inhabited VT:=⟨.mk 0 0 ⟨#[]⟩ []⟩
   obtain⟨f,hf⟩:=choose_lt hex
   obtain⟨l,hll,hr⟩:=row_of f hf len 0 (by omega)
   exact⟨⟨z0,z1,s,some a,len,cap⟩,_,rfl,.mk ⟨z0,z1,s,some a,len,cap⟩ l ⟨bounds_i64 g0,bounds_i64 g1,g2,fun e=>(by cases e),hl,Nat.le_trans hl hm⟩ hll hr⟩
set_option maxRecDepth 100000 in
theorem open_vt {H:Type} {enc:TypeId × Value->H} {w:World} {base b0:Nat} {spare:Nat->Bool} {held:Bool} {r:Reach} {v:Value} {d:DataW H} {p:List MemPlace} (hv:Value.okWide Tryz.prog w r b0 24 v)
  (h:DataW.Trod enc Tryz.prog w base spare held 24 v d p):∃ (c:VC) (t:VT),v=c.val/\ValIs w t c:=by
 obtain⟨cs,rfl,hsz⟩:=okWide_struct Tryz.underlying24 hv
 obtain⟨fuel,hf⟩:=h
 obtain⟨c,t,hc,hv⟩:=vt_el fuel _ _ hf
 refine⟨c,t,?_,hv⟩
 unfold VC.val
 unfold VC.cells at hc
 simp only [Value.cells] at hc
 congr 1
 exact Array.ext' hc
end Go.Proofs.YtcehpobjnbgpdaaGreatDoor
