import Derived.Test.YtmibnkddappgiaaGreatDoorK08
import Derived.Test.YtmibnkddappgiaaGreatDoorK09
import Derived.Test.YtmibnkddappgiaaGreatDoorK13
set_option linter.unusedVariables false
set_option maxHeartbeats 64000000
set_option maxRecDepth 100000
set_option linter.unusedSimpArgs false
namespace Go.Proofs.YtmibnkddappgiaaGreatDoor
open Go.RowKit
def z9l (t:Tkn):Value:=.agg #[.int .i64 (t.kind:Nat),.int .i64 (t.from_:Nat),.int .i64 (t.to:Nat),.int .i64 (t.vk:Nat),.int .i64 t.vn,.string (sb t.vs),.slice none 0 0,.string (sb t.s)]
def y8m (w:World) (r:Int × Tkn) (e:Ending) (w':World):Prop:=e=.returned (.tuple #[z9l r.2,.int .i64 r.1])/\Chg NoS w w'
def z0a (bs:List Nat) (p:Int) (last:Bool):Int × Tkn:=if p<0\/(bs.length:Int)<p then(2,noT 0) else z0i bs p.toNat last
section
variable {last:Bool} {p x:Nat} {l:List Nat}
theorem v6i:z2t last p 91 l=(0,⟨2,p,p+1,0,0,[],[]⟩):=rfl
theorem v6h:z2t last p 93 l=(0,⟨3,p,p+1,0,0,[],[]⟩):=rfl
theorem y91 (h:l.head?=some 60):z2t last p 60 l=(0,⟨4,p,p+2,0,0,[],[]⟩):=by
 unfold z2t;rw [if_neg (show ¬60=91 by decide),if_neg (show ¬60=93 by decide),if_pos (show 60=60/\l.head?=some 60 from⟨rfl,h⟩)]
theorem y90 (h:l.head?=some 62):z2t last p 62 l=(0,⟨5,p,p+2,0,0,[],[]⟩):=by
 unfold z2t;rw [if_neg (show ¬62=91 by decide),if_neg (show ¬62=93 by decide),if_neg (show ¬(62=60/\l.head?=some 60) from fun e=>absurd e.1 (by decide)),if_pos (show 62=62/\l.head?=some 62 from⟨rfl,h⟩)]
theorem v3a (h:l=[]) (h2:last=false):z2t last p 62 l=(6,noT p):=by
 subst h h2;rfl
theorem v3b (h:¬l.head?=some 62) (h2:¬(l=[]/\last=false)):z2t last p 62 l=(11,noT p):=by
 unfold z2t;rw [if_neg (show ¬62=91 by decide),if_neg (show ¬62=93 by decide),if_neg (show ¬(62=60/\l.head?=some 60) from fun e=>absurd e.1 (by decide)),if_neg (show ¬(62=62/\l.head?=some 62) from fun e=>h e.2),if_neg (show ¬(62=62/\l=[]/\last=false) from fun e=>h2 e.2),if_neg (show ¬62=60 by decide),if_neg (show ¬62=40 by decide),if_neg (show ¬62=47 by decide),if_pos (show z6b 62=true from rfl)]
theorem v6k:z2t last p 40 l=if (z13 last 1 [] (p+1) l).1≠0 then((z13 last 1 [] (p+1) l).1,noT p) else(0,⟨1,p,(z13 last 1 [] (p+1) l).2.2,4,0,(z13 last 1 [] (p+1) l).2.1,[]⟩):=by
 unfold z2t;rw [if_neg (show ¬40=91 by decide),if_neg (show ¬40=93 by decide),if_neg (show ¬(40=60/\l.head?=some 60) from fun e=>absurd e.1 (by decide)),if_neg (show ¬(40=62/\l.head?=some 62) from fun e=>absurd e.1 (by decide)),if_neg (show ¬(40=62/\l=[]/\last=false) from fun e=>absurd e.1 (by decide)),if_neg (show ¬40=60 by decide),if_pos (show 40=40 from rfl)]
theorem v6j:z2t last p 47 l=if rgs l=l.length/\last=false then(6,noT p) else if (z5l (l.take (rgs l))).1≠0 then((z5l (l.take (rgs l))).1,noT p) else(0,⟨1,p,p+1+rgs l,5,0,(z5l (l.take (rgs l))).2,[]⟩):=by
 unfold z2t;rw [if_neg (show ¬47=91 by decide),if_neg (show ¬47=93 by decide),if_neg (show ¬(47=60/\l.head?=some 60) from fun e=>absurd e.1 (by decide)),if_neg (show ¬(47=62/\l.head?=some 62) from fun e=>absurd e.1 (by decide)),if_neg (show ¬(47=62/\l=[]/\last=false) from fun e=>absurd e.1 (by decide)),if_neg (show ¬47=60 by decide),if_neg (show ¬47=40 by decide),if_pos (show 47=47 from rfl)]
theorem y2b (h1:x≠91) (h2:x≠93) (h3:x≠60) (h4:x≠62) (h5:x≠40) (h6:x≠47):z2t last p x l =
  if z6b x then(11,noT p)
  else if rgs l=l.length/\last=false then(6,noT p)
  else if y6y x then
   if (z0o ((x::l).take (rgs l+1))).1≠0 then((z0o ((x::l).take (rgs l+1))).1,noT p) else(0,⟨1,p,p+1+rgs l,(z0o ((x::l).take (rgs l+1))).2.1,(z0o ((x::l).take (rgs l+1))).2.2,[],[]⟩)
  else(0,⟨6,p,p+1+rgs l,0,0,[],(x::l).take (rgs l+1)⟩):=by
 unfold z2t;rw [if_neg h1,if_neg h2,if_neg (fun e=>h3 e.1),if_neg (fun e=>h4 e.1),if_neg (fun e=>h4 e.1),if_neg h3,if_neg h5,if_neg h6]
end
theorem y71 (V f:Value) (a:Nat) (ha:a<=100) (w:World):Calls Tryz.prog 80 #[V,.int .i64 a,.int .i64 a,f] w fun e w'=>e=.returned (.tuple #[])/\w'=w:=by
 go_enter Tryz.func80,Tryz.ntmps80;go_wp2_with fail;go_loopw [8] (fun v wr=>v=.int .i64 ((a+1:Nat):Int)/\wr=w) (fun _ _=>0)
 case atStart=>exact⟨by go_num,rfl⟩
 case round =>
  obtain⟨rfl,rfl⟩:=hrel;have d1:decide (((a+1:Nat):Int)<(a:Int))=false:=by simp;omega
  have d2:decide (a+1<a)=false:=by simp
  go_wp2_with fail;go_end0;exact⟨rfl,rfl⟩
theorem z9t (V f:Value) (w:World):Calls Tryz.prog 55 #[V,.int .i64 0,f] w fun e w'=>e=.returned (.tuple #[])/\w'=w:=by
 have HE:=kf (fun(W:World)=>y71 V f 0 (by omega) W);go_enter Tryz.func55,Tryz.ntmps55;go_upto_region 2 with fail;go_loopw [7,8] (fun va vb wr=>va=.int .i64 0/\vb=.int .i64 20/\wr=w) (fun _ _ _=>0)
 case atStart=>exact⟨rfl,rfl,rfl⟩
 case round =>
  obtain⟨rfl,rfl,rfl⟩:=hrel;go_upto_region 7 with(go_at_call 80;refine(HE.out _).mono ?_;rintro e w2 ⟨rfl,rfl⟩);go_loopw [6] (fun v wx=>v=.int .i64 20/\wx=w2) (fun _ _=>0)
  case atStart=>exact⟨rfl,rfl⟩
  case round =>
   obtain⟨rfl,rfl⟩:=hrel;go_wp2_with fail;go_end0;exact⟨rfl,rfl⟩
theorem z7t (A:Option Addr) (c:Nat) (f:Value) (w:World):Calls Tryz.prog 31 #[.slice A 0 c,f] w fun e w'=>e=.returned (.tuple #[])/\w'=w:=by
 have HI:=kf (fun W=>z9t (.slice A 0 c) f W);go_enter Tryz.func31,Tryz.ntmps31;go_wp2_with (go_at_call 55;refine(HI.out _).mono ?_;rintro e w2 ⟨rfl,rfl⟩);go_end0;exact⟨rfl,rfl⟩
variable {P:Program} {ops:Array Oper} {Q:Exit->Act->World->Prop} {md:Region.Mode} {S:World->Prop} {z:Nat}
def y4w (P:Program) (md:Region.Mode) (ops:Array Oper) (Q:Exit->Act->World->Prop) (S:World->Prop) (z:Nat):Nat->Array Bool->Act->World->Prop
 |0,li,a,w=>Region.ready md ops li=[]/\Q .normal a w
 |n+1,li,a,w=>(Region.ready md ops li=[]->Q .normal a w)/\∀ i∈Region.ready md ops li,wpOp P ops Q i (fun b u=>(i≠z->S u)/\y4w P md ops Q S z n (li.setIfInBounds i true) b u) a w
theorem y3p:∀ (n:Nat) (li:Array Bool) (a:Act) (w:World),y4w P md ops Q S z n li a w->wpAny P md ops Q n li a w
 |0,_,_,_,h=>h
 |n+1,_,_,_,h=>⟨h.1,fun i hi=>wpOp_mono (fun b u k=>y3p n _ b u k.2) (h.2 i hi)⟩
theorem z8l {i:Nat} {li:Array Bool} (h:i∈Region.ready md ops li):li.getD i false=false:=by
 have h0:=(mem_ready.1 h).1;rcases Nat.lt_or_ge i li.size with h1|h1
 ·simpa [h1] using h0
 ·simp [Array.getElem?_eq_none h1] at h0
theorem v7x {i:Nat} {oi:Oper} {v:Value} (hi:ops[i]?=some oi) (hs:Region.noSelect ops=true) (hz:Region.waitsFor md ops z i=true) (hQ:∀ c a w,Q (.panic c) (a.put oi.dst v) w->Q (.panic c) a w) :
  ∀ (n:Nat) (li:Array Bool) (a:Act) (w:World),(∀ j oj,ops[j]?=some oj->j≠i->li.getD j true=false->(∀ e∈oj.after,Region.binds md e=true->e.on≠i)->oi.apart ops oj=true) ->
   i∈Region.ready md ops li->YieldsIf P ops S oi v a->S w->y4w P md ops Q S z n (li.setIfInBounds i true) (a.put oi.dst v) w->y4w P md ops Q S z (n+1) li a w:=by
 intro n;induction n with
 |zero =>
  intro li a w _ hr hy hS H;refine⟨fun h=>(by rw [h] at hr;cases hr),fun j hj=>?_⟩;rcases Nat.decEq j i with hne|rfl
  ·have h1:=ready_mono hj hne;rw [H.1] at h1;cases h1
  ·exact hy.wpOp hi hS ⟨fun _=>hS,H⟩
 |succ n ih =>
  intro li a w hap hr hy hS H;refine⟨fun h=>(by rw [h] at hr;cases hr),fun j hj=>?_⟩;rcases Nat.decEq j i with hne|rfl
  ·have hun:=z8l hr
   have waits:∀ k ok,k∈Region.ready md ops li->ops[k]?=some ok->∀ e∈ok.after,Region.binds md e=true->e.on≠i:=by
    intro k ok hk hok e he hb heq;obtain⟨_,o',ho',hall⟩:=mem_ready.1 hk;rw [hok] at ho';cases ho'
    have h2:=hall e he hb;rw [heq,hun] at h2;cases h2
   have hjz:j≠z:=by
    rintro rfl;obtain⟨oz,hoz,e,he,hb,heq⟩:=Region.waitsFor_spec hz;exact waits j oz hj hoz e he hb heq
   obtain⟨hju,oj,hoj,_⟩:=mem_ready.1 hj;have h3:=wpOp_putIf hoj (hap j oj hoj hne hju (waits j oj hj hoj)) (fun cs b=>Region.noSelect_spec hs i oi cs b hi) (fun cs b=>Region.noSelect_spec hs j oj cs b hoj) hQ hy (H.2 j (ready_mono hj hne));refine wpOp_mono (fun b u k=>⟨k.2.1,ih (li.setIfInBounds j true) b u (fun q oq hq hqi hqu hno=>hap q oq hq hqi ?_ hno) (ready_mono hr (Ne.symm hne)) k.1 (k.2.1 hjz) ?_⟩) h3
   ·rcases Nat.decEq j q with hjq|rfl
    ·rwa [getD_set_ne true hjq] at hqu
    ·exact hju
   ·rw [Array.setIfInBounds_comm _ _ hne];exact k.2.2
  ·exact hy.wpOp hi hS ⟨fun _=>hS,H⟩
theorem z06 {i:Nat} {oi:Oper} {v:Value} {n:Nat} {li:Array Bool} {a:Act} {w:World} (hi:ops[i]?=some oi) (hs:Region.noSelect ops=true) (hz:Region.waitsFor md ops z i=true) (hf:Region.free md ops li i=true) (hr:(Region.ready md ops li).contains i=true)
  (hQ:∀ c a w,Q (.panic c) (a.put oi.dst v) w->Q (.panic c) a w) (hy:YieldsIf P ops S oi v a) (hS:S w) (h:y4w P md ops Q S z n (li.setIfInBounds i true) (a.put oi.dst v) w):y4w P md ops Q S z (n+1) li a w :=
 v7x hi hs hz hQ n li a w (Region.free_spec hi hf) (by simpa using hr) hy hS h
theorem z5i {i n:Nat} {o:Oper} {li:Array Bool} {a:Act} {w:World} (hr:Region.ready md ops li=[i]) (ho:ops[i]?=some o) (hne:i≠z)
  (h:∀ K:Act->World->Prop,Hid (∀ a w,S w->(S w->y4w P md ops Q S z n (li.setIfInBounds i true) a w)->K a w)->if Region.wanted o (yielded ops a.tmps)=true then Oper.wp P o a w K Q else K (a.put o.dst undef) w):y4w P md ops Q S z (n+1) li a w:=by
 refine⟨fun h0=>(by rw [hr] at h0;cases h0),fun j hj=>?_⟩;rw [hr] at hj;obtain rfl:=List.mem_singleton.1 hj;exact wpOp_step ho (fun K hK=>h K (fun a w hS hW=>hK a w ⟨fun _=>hS,hW hS⟩))
theorem v9z {i j n:Nat} {o o':Oper} {li:Array Bool} {a:Act} {w:World} (hr:Region.ready md ops li=[i,j]) (ho:ops[i]?=some o) (ho':ops[j]?=some o') (hne:i≠z) (hne':j≠z)
  (h:∀ K:Act->World->Prop,Hid (∀ a w,S w->(S w->y4w P md ops Q S z n (li.setIfInBounds i true) a w)->K a w)->if Region.wanted o (yielded ops a.tmps)=true then Oper.wp P o a w K Q else K (a.put o.dst undef) w)
  (h':∀ K:Act->World->Prop,Hid (∀ a w,S w->(S w->y4w P md ops Q S z n (li.setIfInBounds j true) a w)->K a w)->if Region.wanted o' (yielded ops a.tmps)=true then Oper.wp P o' a w K Q else K (a.put o'.dst undef) w):y4w P md ops Q S z (n+1) li a w:=by
 refine⟨fun h0=>(by rw [hr] at h0;cases h0),fun k hk=>?_⟩;rw [hr] at hk;simp only [List.mem_cons,List.not_mem_nil,or_false] at hk;rcases hk with rfl|rfl
 ·exact wpOp_step ho (fun K hK=>h K (fun a w hS hW=>hK a w ⟨fun _=>hS,hW hS⟩))
 ·exact wpOp_step ho' (fun K hK=>h' K (fun a w hS hW=>hK a w ⟨fun _=>hS,hW hS⟩))
theorem z60 {n:Nat} {o:Oper} {li:Array Bool} {a:Act} {w:World} (hr:Region.ready md ops li=[z]) (ho:ops[z]?=some o) (hr2:Region.ready md ops (li.setIfInBounds z true)=[])
  (h:∀ K:Act->World->Prop,Hid (∀ a w,Q .normal a w->K a w)->if Region.wanted o (yielded ops a.tmps)=true then Oper.wp P o a w K Q else K (a.put o.dst undef) w):y4w P md ops Q S z (n+1) li a w:=by
 refine⟨fun h0=>(by rw [hr] at h0;cases h0),fun j hj=>?_⟩;rw [hr] at hj;obtain rfl:=List.mem_singleton.1 hj;refine wpOp_step ho (fun K hK=>h K (fun a w hq=>hK a w ⟨fun h=>absurd rfl h,?_⟩));cases n with
 |zero=>exact⟨hr2,hq⟩
 |succ n=>exact⟨fun _=>hq,fun i hi=>(by rw [hr2] at hi;cases hi)⟩
theorem z3b {id:Nat} {a:Act} {w:World} (S:World->Prop) (z:Nat) (hm:P.follows .mixedOrders=true) (hS:S w.drew) (h:S w.drew->y4w P .any ops Q S z ops.size (Array.replicate ops.size false) a w.drew):(Code.region id ops true).wp P Q a w :=
 wp_region_any hm (y3p _ _ _ _ (h hS))
theorem z5k (s:ByteArray) (w:World):Calls Tryz.prog 34 #[.string s] w fun e w'=>e=.returned (.agg #[.int .i64 5,.int .i64 0,.string s,.slice none 0 0])/\Chg NoS w w':=by
 have HO:=kf (⟨Blk.new w 24 #[.int .i64 0,.int .i64 0,.string ⟨#[]⟩,.slice none 0 0],Nat.le_refl _⟩:PB w _ _ _);have HC:=kf ((Chg.refl NoS w).alloc (.cells #[.int .i64 0,.int .i64 0,.string ⟨#[]⟩,.slice none 0 0] 24));have HF:=kf (Blk.new w 24 #[.int .i64 5,.int .i64 0,.string s,.slice none 0 0]);have HD:=kf ((Chg.refl NoS w).alloc (.cells #[.int .i64 5,.int .i64 0,.string s,.slice none 0 0] 24));go_enter Tryz.func34,Tryz.ntmps34;go_wp2_with fail;try simp only [Exit.noGoto_ret]
 have r0:=HF.out.cell 0;have r1:=HF.out.cell 1;have r2:=HF.out.cell 2;have r3:=HF.out.cell 3;simp at r0 r1 r2 r3;refine bodyPost_ret (v:=.agg #[.int .i64 5,.int .i64 0,.string s,.slice none 0 0]) (by simp [results,Tryz.results34,go_sem,r0,r1,r2,r3]) rfl ?_;exact⟨rfl,HD.out⟩
theorem z6v (n:Int) (w:World):Calls Tryz.prog 15 #[.int .i64 n] w fun e w'=>e=.returned (.agg #[.int .i64 2,.int .i64 n,.string ⟨#[]⟩,.slice none 0 0])/\Chg NoS w w':=by
 have HF:=kf (Blk.new w 24 #[.int .i64 2,.int .i64 n,.string ⟨#[]⟩,.slice none 0 0]);have HD:=kf ((Chg.refl NoS w).alloc (.cells #[.int .i64 2,.int .i64 n,.string ⟨#[]⟩,.slice none 0 0] 24));go_enter Tryz.func15,Tryz.ntmps15;go_wp2_with fail;try simp only [Exit.noGoto_ret]
 have r0:=HF.out.cell 0;have r1:=HF.out.cell 1;have r2:=HF.out.cell 2;have r3:=HF.out.cell 3;simp at r0 r1 r2 r3;refine bodyPost_ret (v:=.agg #[.int .i64 2,.int .i64 n,.string ⟨#[]⟩,.slice none 0 0]) (by simp [results,Tryz.results15,go_sem,r0,r1,r2,r3]) rfl ?_;exact⟨rfl,HD.out⟩
theorem y5w (n:Int) (w:World):Calls Tryz.prog 128 #[.int .i64 n] w fun e w'=>e=.returned (.agg #[.int .i64 8,.int .i64 n,.string ⟨#[]⟩,.slice none 0 0])/\Chg NoS w w':=by
 have HF:=kf (Blk.new w 24 #[.int .i64 8,.int .i64 n,.string ⟨#[]⟩,.slice none 0 0]);have HD:=kf ((Chg.refl NoS w).alloc (.cells #[.int .i64 8,.int .i64 n,.string ⟨#[]⟩,.slice none 0 0] 24));go_enter Tryz.func128,Tryz.ntmps128;go_wp2_with fail;try simp only [Exit.noGoto_ret]
 have r0:=HF.out.cell 0;have r1:=HF.out.cell 1;have r2:=HF.out.cell 2;have r3:=HF.out.cell 3;simp at r0 r1 r2 r3;refine bodyPost_ret (v:=.agg #[.int .i64 8,.int .i64 n,.string ⟨#[]⟩,.slice none 0 0]) (by simp [results,Tryz.results128,go_sem,r0,r1,r2,r3]) rfl ?_;exact⟨rfl,HD.out⟩
def emF (S:Nat->ByteArray) (V:Nat->VT):List Nat->List VT
 |[]=>[]
 |[p]=>[nmT (S p),V p]
 |p::q::r=>(if S q=S p then [] else [nmT (S p),V p])++emF S V (q::r)
theorem v1i {S:Nat->ByteArray} {V:Nat->VT} {p:Nat}:emF S V [p]=[nmT (S p),V p]++emF S V []:=rfl
theorem v86 {S:Nat->ByteArray} {V:Nat->VT} {p q:Nat} {r:List Nat} (h:S q=S p):emF S V (p::q::r)=emF S V (q::r):=by rw [emF,if_pos h];rfl
theorem v85 {S:Nat->ByteArray} {V:Nat->VT} {p q:Nat} {r:List Nat} (h:S q≠S p):emF S V (p::q::r)=[nmT (S p),V p]++emF S V (q::r):=by rw [emF,if_neg h]
theorem PRow.blk {w:World} {g cap b off:Nat} {d:List Nat} (h:PRow w g cap b off d):∃ cs,Blk w g 22 cs/\∀ w':World,Blk w' g 22 cs->PRow w' g cap b off d:=by
 rcases h.2 with⟨h1,_⟩|⟨g',cap',cur,h1,h2,hh,h3⟩
 ·cases h1
 ·simp only [Value.slice.injEq,Option.some.injEq,Addr.mk.injEq] at h1;obtain⟨⟨rfl,_,_⟩,_,rfl⟩:=h1;exact⟨cur,hh,fun w' hb=>⟨h.1,.inr ⟨_,_,cur,rfl,h2,hb,h3⟩⟩⟩
theorem v02 {W:World} {B:Nat} {e:TypeId} {size:Nat} {v:Value} {n:Nat} {xs:List Value} (h:W.ownsRow B e size v n xs):W.ownsRow 0 e size v n xs :=
 ⟨h.1,h.2.imp id (fun⟨g,cap,cur,h1,_,h2⟩=>⟨g,cap,cur,h1,Nat.zero_le _,h2⟩)⟩
theorem v5p {W:World} {B b off m:Nat} {A1:Option Addr} {c1:Nat} (h:W.ownsRow B 22 1 (.slice A1 m c1) m (z4m b off m)) (h0:0<m):∃ gs,A1=some ⟨gs,0,none⟩/\B<=gs/\PRow W gs c1 b off (List.range m):=by
 rcases h.2 with⟨_,h1⟩|⟨g,cap,cur,h1,h2,h3,h4⟩
 ·omega
 ·simp only [Value.slice.injEq] at h1;obtain⟨rfl,_,rfl⟩:=h1;refine⟨g,rfl,h2,?_⟩;unfold PRow;rw [List.length_range];exact v02 h
def z3e (l:List VT) (x:Nat):ByteArray:=((l[2*x]?).getD z1i).str
def z34 (l:List VT) (x:Nat):VT:=(l[2*x+1]?).getD z1i
noncomputable def z1p (l:List VT):List VT:=emF (z3e l) (z34 l) (z3t (z3e l) (List.range (l.length / 2))).reverse
def emR (S:Nat->ByteArray) (V:Nat->VT):Option ByteArray->List Nat->List VT
 |_,[]=>[]
 |prev,p::R=>emR S V (some (S p)) R++(if prev=some (S p) then [] else [nmT (S p),V p])
theorem y7z {S:Nat->ByteArray} {V:Nat->VT}:∀ (R:List Nat) (p:Nat) (t:List Nat),emF S V (R.reverse++p::t)=emR S V (some (S p)) R++emF S V (p::t)
 |[],p,t=>by rw [emR];rfl
 |q::R,p,t=>by
  rw [List.reverse_cons,List.append_assoc,List.singleton_append,y7z R q (p::t),emF,emR];by_cases h:S p=S q
  ·rw [if_pos h,if_pos (by rw [h])];simp
  ·rw [if_neg h,if_neg (fun e=>h (Option.some.inj e))];simp
theorem v1h {S:Nat->ByteArray} {V:Nat->VT}:∀ R:List Nat,emF S V R.reverse=emR S V none R
 |[]=>by rw [emR];rfl
 |p::R=>by
  rw [List.reverse_cons,y7z R p [],emR,if_neg (by simp)];rfl
def y4g (key:ByteArray):List VT->Prop
 |[]=>True
 |[_]=>False
 |t::_::l=>Op.bytesLess t.str.toList key.toList=true/\y4g key l
theorem z5m {P:List VT->Prop} {key:ByteArray} (h0:P []) (h2:∀ t u l,Op.bytesLess t.str.toList key.toList=true->y4g key l->P l->P (t::u::l)):∀ l:List VT,y4g key l->P l
 |[],_=>h0
 |[t],h=>h.elim
 |t::u::l,h=>h2 t u l h.1 h.2 (z5m h0 h2 l h.2)
theorem v2m {key:ByteArray} {t:VT} (h:Op.bytesLess t.str.toList key.toList=true):¬z7g key t:=fun e=>by
 rw [e.2,z1l] at h;cases h
theorem v9c {key:ByteArray} {t:VT} (h:Op.bytesLess t.str.toList key.toList=true):¬gtT key t:=fun e=>by
 have:=z5n h e.2;rw [z1l] at this;cases this
theorem y37 {a b:ByteArray} (hab:Op.bytesLess a.toList b.toList=true):∀ l:List VT,y4g a l->y4g b l:=z5m trivial (fun t u l h _ ih=>⟨z5n h hab,ih⟩)
theorem y6v {key s:ByteArray} {v:VT} (hs:Op.bytesLess s.toList key.toList=true):∀ l:List VT,y4g key l->y4g key (l++[nmT s,v]):=z5m ⟨hs,trivial⟩ (fun t u l h _ ih=>⟨h,ih⟩)
theorem v0h {key:ByteArray}:∀ l:List VT,y4g key l->z0n key l=none:=z5m (z16 key) (fun t u l h _ ih=>by rw [z2g (v2m h),ih];rfl)
theorem v4p {key:ByteArray} {x:VT}:∀ l:List VT,y4g key l->z6c key x l=l++[nmT key,x]:=z5m (by rw [z6c];rfl) (fun t u l h _ ih=>by rw [y0i (v9c h),ih];rfl)
theorem y6u {key:ByteArray} {x:VT} {l:List VT} (h:y4g key l):z9f key x l=l++[nmT key,x]:=by
 unfold z9f;rw [v0h l h,v4p l h]
theorem v0g {key:ByteArray} {x v:VT}:∀ l:List VT,y4g key l->∃ j,z0n key (l++[nmT key,v])=some j/\z58 j x (l++[nmT key,v])=l++[nmT key,x] :=
 z5m ⟨0,z1b (v7k key),rfl⟩ (fun t u l h _ ih=>by
  obtain⟨j,h1,h2⟩:=ih;refine⟨j+1,?_,?_⟩
  ·show z0n key (t::u::(l++[nmT key,v]))=_;rw [z2g (v2m h),h1];rfl
  ·show z58 (j+1) x (t::u::(l++[nmT key,v]))=_;rw [y04,h2];rfl)
theorem v7f {key:ByteArray} {x v:VT} {l:List VT} (h:y4g key l):z9f key x (l++[nmT key,v])=l++[nmT key,x]:=by
 obtain⟨j,h1,h2⟩:=v0g (x:=x) (v:=v) l h;unfold z9f;rw [h1];exact h2
theorem v14 {key s:ByteArray} {v:VT} (hs:Op.bytesLess key.toList s.toList=true):∀ l:List VT,l.length%2=0->z0n key (l++[nmT s,v])=z0n key l:=by
 have hno:¬z7g key (nmT s):=fun e=>by
  have h2:s=key:=e.2;rw [h2,z1l] at hs;cases hs
 refine y17 ?_ (fun t u l hl ih=>?_)
 ·show z0n key [nmT s,v]=_;rw [z2g hno,z16];rfl
 ·show z0n key (t::u::(l++[nmT s,v]))=_;by_cases ht:z7g key t
  ·rw [z1b ht,z1b ht]
  ·rw [z2g ht,z2g ht,ih]
theorem v4w {key s:ByteArray} {x v:VT} (hs:Op.bytesLess key.toList s.toList=true):∀ l:List VT,l.length%2=0->z6c key x (l++[nmT s,v])=z6c key x l++[nmT s,v]:=by
 refine y17 ?_ (fun t u l hl ih=>?_)
 ·show z6c key x [nmT s,v]=_;rw [y0j ⟨rfl,hs⟩,z6c];rfl
 ·show z6c key x (t::u::(l++[nmT s,v]))=_;by_cases hg:gtT key t
  ·rw [y0j hg,y0j hg];rfl
  ·rw [y0i hg,y0i hg,ih];rfl
theorem y9m {x:VT} {T:List VT} {j:Nat} {l:List VT} (h:2*j+2<=l.length):z58 j x (l++T)=z58 j x l++T:=by
 unfold z58;rw [List.take_append_of_le_length (by omega),List.drop_append_of_le_length (by omega),List.append_assoc,List.cons_append]
theorem v41 {key s:ByteArray} {x v:VT} {l:List VT} (hs:Op.bytesLess key.toList s.toList=true) (hl:l.length%2=0):z9f key x (l++[nmT s,v])=z9f key x l++[nmT s,v]:=by
 unfold z9f;rw [v14 hs l hl];cases hf:z0n key l with
 |none=>exact v4w hs l hl
 |some j =>
  have:=z92 key _ l (Nat.le_refl _) j hf;exact y9m (by omega)
def z7k (S:Nat->ByteArray):List Nat->Prop
 |[]=>True
 |[_]=>True
 |p::q::R=>Op.bytesLess (S p).toList (S q).toList≠true/\z7k S (q::R)
theorem y7v {S:Nat->ByteArray} {p:Nat}:∀ {R:List Nat},z7k S (p::R)->z7k S R
 |[],_=>trivial
 |q::R,h=>h.2
theorem y6w {a b:ByteArray} (h:Op.bytesLess a.toList b.toList=true):Op.bytesLess b.toList a.toList≠true:=fun e=>by
 have:=z5n h e;rw [z1l] at this;cases this
theorem y0r {S:Nat->ByteArray} {k:Nat}:∀ (R:List Nat) (p:Nat),Op.bytesLess (S k).toList (S p).toList=true->z7k S (p::R)->z7k S (p::z6w S k R)
 |[],p,h,_=>⟨y6w h,trivial⟩
 |q::R,p,h,hf=>by
  rw [z6w];by_cases hq:Op.bytesLess (S k).toList (S q).toList=true
  ·rw [if_pos hq];exact⟨hf.1,y0r R q hq hf.2⟩
  ·rw [if_neg hq];exact⟨y6w h,hq,hf.2⟩
theorem v1e {S:Nat->ByteArray} {k:Nat}:∀ {R:List Nat},z7k S R->z7k S (z6w S k R)
 |[],_=>trivial
 |p::R,h=>by
  rw [z6w];by_cases hp:Op.bytesLess (S k).toList (S p).toList=true
  ·rw [if_pos hp];exact y0r R p hp h
  ·rw [if_neg hp];exact⟨hp,h⟩
theorem y3e {S:Nat->ByteArray} {V:Nat->VT}:∀ (R:List Nat) (prev:Option ByteArray),(emR S V prev R).length%2=0
 |[],_=>by rw [emR];rfl
 |p::R,prev=>by
  rw [emR,List.length_append];have:=y3e (S:=S) (V:=V) R (some (S p));split
  ·simp only [List.length_nil];omega
  ·simp only [List.length_cons,List.length_nil];omega
theorem y7y {S:Nat->ByteArray} {V:Nat->VT}:∀ (R:List Nat) (p:Nat),z7k S (p::R)->y4g (S p) (emR S V (some (S p)) R)
 |[],_,_=>by rw [emR];trivial
 |q::R,p,h=>by
  rw [emR];have ih:=y7y (V:=V) R q h.2;by_cases hq:S p=S q
  ·rw [if_pos (by rw [hq]),List.append_nil,hq];exact ih
  ·rw [if_neg (fun e=>hq (Option.some.inj e))];have hl:=z2x h.1 hq;exact y6v hl _ (y37 hl _ ih)
theorem v2j {S:Nat->ByteArray} {V:Nat->VT} {k:Nat}:∀ (R:List Nat) (prev:Option ByteArray),(∀ s,prev=some s->Op.bytesLess (S k).toList s.toList=true)->z7k S R->z9f (S k) (V k) (emR S V prev R)=emR S V prev (z6w S k R)
 |[],prev,hp,_=>by
  have hne:prev≠some (S k):=fun e=>by
   have:=hp _ e;rw [z1l] at this;cases this
  rw [z6w,emR,emR,emR,if_neg hne];exact y6u (l:=[]) trivial
 |p::R,prev,hp,hf=>by
  have hne:prev≠some (S k):=fun e=>by
   have:=hp _ e;rw [z1l] at this;cases this
  rw [z6w];by_cases h:Op.bytesLess (S k).toList (S p).toList=true
  ·rw [if_pos h,emR,emR,<- v2j R (some (S p)) (fun s e=>by cases e;exact h) (y7v hf)];by_cases h2:prev=some (S p)
   ·rw [if_pos h2,List.append_nil,List.append_nil]
   ·rw [if_neg h2];exact v41 h (y3e R _)
  ·have h2:prev≠some (S p):=fun e=>h (hp _ e);have hlow:=y7y (V:=V) R p hf;rw [if_neg h,emR,if_neg h2,emR,if_neg hne,emR];by_cases hk:S k=S p
   ·rw [if_pos (by rw [hk]),List.append_nil,hk];exact v7f hlow
   ·rw [if_neg (fun e=>hk (Option.some.inj e))];have hl:=z2x h hk;exact y6u (y6v hl _ (y37 hl _ hlow))
noncomputable def z71 (S:Nat->ByteArray) (V:Nat->VT) (d:List Nat):List VT:=d.foldl (fun D k=>z9f (S k) (V k) D) []
theorem z1q (S:Nat->ByteArray) (V:Nat->VT) (d:List Nat) (k:Nat):z71 S V (d++[k])=z9f (S k) (V k) (z71 S V d):=by simp [z71]
theorem y3h {S:Nat->ByteArray} {V:Nat->VT}:∀ m:Nat,z7k S (z3t S (List.range m))/\z71 S V (List.range m)=emR S V none (z3t S (List.range m))
 |0=>by
  refine⟨trivial,?_⟩;show []=emR S V none [];rw [emR]
 |m+1=>by
  obtain⟨h1,h2⟩:=y3h (S:=S) (V:=V) m;rw [List.range_succ,z7s,z1q,h2];exact⟨v1e h1,v2j _ none (fun s e=>by cases e) h1⟩
theorem z6z (l:List VT):z71 (z3e l) (z34 l) (List.range (l.length / 2))=z1p l:=by
 unfold z1p;rw [v1h,(y3h _).2]
def z1v (st:List (Int × List VT)) (kind:Int):Int :=
 match st with
 |[]=>0
 |(k,l)::r=>if k=7/\l.length%2=0/\kind≠5 then 11 else if 64<=r.length+1 then 15 else 0
def z7b (s:List Nat):Int × VT :=
 if sb s=⟨#[110,117,108,108]⟩ then(0,z1i) else if sb s=⟨#[102,97,108,115,101]⟩ then(0,.mk 1 0 ⟨#[]⟩ []) else if sb s=⟨#[116,114,117,101]⟩ then(0,.mk 1 1 ⟨#[]⟩ []) else(11,z1i)
def y4x (t:Tkn):VT:=.mk (t.vk:Nat) t.vn (sb t.vs) []
def z26 (bs:List Nat) (last:Bool) (r2:Int × Tkn):Int × Tkn:=if r2.2.vk=2 then z0i bs r2.2.to last else(r2.1,noT 0)
def z3o (bs:List Nat) (last:Bool) (t:Tkn):Int × VT × Nat :=
 if t.vk≠2 then(0,y4x t,t.to)
 else if (z26 bs last (z0i bs t.to last)).1=6 then(6,z1i,0)
 else if (z26 bs last (z0i bs t.to last)).2.kind≠6\/sb (z26 bs last (z0i bs t.to last)).2.s≠⟨#[82]⟩ then(0,y4x t,t.to)
 else if t.vn<1\/4096<t.vn\/(z0i bs t.to last).2.vn≠0 then(26,z1i,0)
 else(0,.mk 8 t.vn ⟨#[]⟩ [],(z26 bs last (z0i bs t.to last)).2.to)
noncomputable def z97 (l:List VT):Int × VT:=if l.length%2≠0 then(11,z1i) else if (z1p l).length<l.length then(16,z1i) else(0,.mk 7 0 ⟨#[]⟩ (z1p l))
noncomputable def z8s (st:List (Int × List VT)) (kind:Int):Int × VT :=
 match st with
 |[]=>(11,z1i)
 |(k,l)::_=>if k≠kind then(11,z1i) else if kind=7 then z97 l else(0,.mk k 0 ⟨#[]⟩ l)
inductive Out
 |done (er:Int) (v:VT) (tz:Nat)
 |next (p:Nat) (st:List (Int × List VT))
def z2v (er:Int) (v:VT) (tz:Nat) (st:List (Int × List VT)):Out :=
 if er≠0 then .done er z1i 0
 else match st with
  |[]=>.done 0 v tz
  |(k,l)::r=>if z1v ((k,l)::r) v.kind≠0 then .done (z1v ((k,l)::r) v.kind) z1i 0 else .next tz ((k,l++[v])::r)
def y12 (kind:Int) (tz:Nat) (st:List (Int × List VT)):Out:=if z1v st kind≠0 then .done (z1v st kind) z1i 0 else .next tz ((kind,[])::st)
noncomputable def z32 (bs:List Nat) (last:Bool) (r:Int × Tkn) (st:List (Int × List VT)):Out :=
 if r.1≠0 then .done r.1 z1i 0
 else if r.2.kind=0 then .done 10 z1i 0
 else if r.2.kind=2 then y12 6 r.2.to st
 else if r.2.kind=4 then y12 7 r.2.to st
 else if r.2.kind=3 then z2v (z8s st 6).1 (z8s st 6).2 r.2.to st.tail
 else if r.2.kind=5 then z2v (z8s st 7).1 (z8s st 7).2 r.2.to st.tail
 else if r.2.kind=6 then z2v (z7b r.2.s).1 (z7b r.2.s).2 r.2.to st
 else z2v (z3o bs last r.2).1 (z3o bs last r.2).2.1 (z3o bs last r.2).2.2 st
noncomputable def z4e (bs:List Nat) (last:Bool) (p:Nat) (st:List (Int × List VT)):Out:=z32 bs last (z0i bs p last) st
noncomputable def y11 (bs:List Nat) (last:Bool) (p:Nat) (st:List (Int × List VT)):Int × VT × Nat :=
 match z4e bs last p st with
 |.done er v tz=>(er,v,tz)
 |.next q st'=>if h:p<q/\q<=bs.length then y11 bs last q st' else(0,z1i,0)
termination_by bs.length-p
decreasing_by omega
theorem z4h {bs:List Nat} {last:Bool} {p:Nat} {st:List (Int × List VT)} {er:Int} {v:VT} {tz:Nat} (h:z4e bs last p st=.done er v tz):y11 bs last p st=(er,v,tz):=by
 rw [y11,h]
theorem z8k {bs:List Nat} {last:Bool} {p q:Nat} {st st':List (Int × List VT)} (h:z4e bs last p st=.next q st') (hq:p<q/\q<=bs.length):y11 bs last p st=y11 bs last q st':=by
 rw [y11,h];simp only [dif_pos hq]
theorem z1s (bs:List Nat) (p:Nat) (last:Bool) (hp:p<=bs.length):((z0i bs p last).2.kind=0/\(z0i bs p last).2.vk=0/\(z0i bs p last).2.s=[])\/((z0i bs p last).1=0/\(z0i bs p last).2.kind≠0/\p<(z0i bs p last).2.to/\(z0i bs p last).2.to<=bs.length):=by
 rcases y1m bs p last hp with⟨q,_,_,h,_⟩|⟨h1,h2,h3,h4,h5,_⟩
 ·rw [h];exact .inl ⟨rfl,rfl,rfl⟩
 ·exact .inr ⟨h1,h2,by omega,h5⟩
theorem v0b {bs:List Nat} {p:Nat} {last:Bool} (hp:p<=bs.length) (h:(z0i bs p last).1≠0):(z0i bs p last).2.vk=0:=by
 rcases z1s bs p last hp with h1|h1
 ·exact h1.2.1
 ·exact absurd h1.1 h
theorem v2h {bs:List Nat} {last:Bool} {t:Tkn} (ht:t.to<=bs.length) (h:(z3o bs last t).1=0):t.to<=(z3o bs last t).2.2/\(z3o bs last t).2.2<=bs.length:=by
 unfold z3o at h ⊢;by_cases h1:t.vk≠2
 ·rw [if_pos h1];exact⟨Nat.le_refl _,ht⟩
 rw [if_neg h1] at h ⊢;by_cases h2:(z26 bs last (z0i bs t.to last)).1=6
 ·rw [if_pos h2] at h;cases h
 rw [if_neg h2] at h ⊢;by_cases h3:(z26 bs last (z0i bs t.to last)).2.kind≠6\/sb (z26 bs last (z0i bs t.to last)).2.s≠⟨#[82]⟩
 ·rw [if_pos h3];exact⟨Nat.le_refl _,ht⟩
 rw [if_neg h3] at h ⊢;by_cases h4:t.vn<1\/4096<t.vn\/(z0i bs t.to last).2.vn≠0
 ·rw [if_pos h4] at h;cases h
 rw [if_neg h4];simp only [];have h5:(z26 bs last (z0i bs t.to last)).2.kind=6:=by omega
 unfold z26 at h5 ⊢;by_cases h6:(z0i bs t.to last).2.vk=2
 ·rw [if_pos h6] at h5 ⊢;rcases z1s bs t.to last ht with h7|h7
  ·rw [h7.2.1] at h6;cases h6
  ·rcases z1s bs _ last h7.2.2.2 with h8|h8
   ·rw [h8.1] at h5;cases h5
   ·omega
 ·rw [if_neg h6] at h5;cases h5
theorem y07 {er:Int} {v:VT} {tz q:Nat} {st st':List (Int × List VT)} (h:z2v er v tz st=.next q st'):q=tz/\er=0:=by
 unfold z2v at h;by_cases h1:er≠0
 ·rw [if_pos h1] at h;cases h
 rw [if_neg h1] at h;refine⟨?_,by omega⟩;cases st with
 |nil=>cases h
 |cons x r =>
  obtain⟨k,l⟩:=x;simp only [] at h;split at h
  ·cases h
  ·cases h;rfl
theorem y6g {kind:Int} {tz q:Nat} {st st':List (Int × List VT)} (h:y12 kind tz st=.next q st'):q=tz:=by
 unfold y12 at h;split at h
 ·cases h
 ·cases h;rfl
theorem z6i {bs:List Nat} {last:Bool} {p q:Nat} {st st':List (Int × List VT)} (hp:p<=bs.length) (h:z4e bs last p st=.next q st'):p<q/\q<=bs.length:=by
 unfold z4e z32 at h;rcases z1s bs p last hp with⟨h1,_⟩|⟨h1,h2,h3,h4⟩
 ·by_cases h0:(z0i bs p last).1≠0
  ·rw [if_pos h0] at h;cases h
  ·rw [if_neg h0,if_pos h1] at h;cases h
 rw [if_neg (by rw [h1];decide),if_neg h2] at h;split at h
 ·rw [y6g h];exact⟨h3,h4⟩
 split at h
 ·rw [y6g h];exact⟨h3,h4⟩
 split at h
 ·rw [(y07 h).1];exact⟨h3,h4⟩
 split at h
 ·rw [(y07 h).1];exact⟨h3,h4⟩
 split at h
 ·rw [(y07 h).1];exact⟨h3,h4⟩
 ·have h5:=y07 h;have h6:=v2h h4 h5.2;rw [h5.1];omega
theorem z6o (k:Nat) (n er:Int) (s:ByteArray) (w:World):Calls Tryz.prog 132 #[.agg #[.int .i64 (k:Nat),.int .i64 n,.string s,.slice none 0 0],.int .i64 er] w
  fun e w'=>e=.returned (.tuple #[.agg #[.int .i64 1,.int .i64 0,.int .i64 0,.int .i64 (k:Nat),.int .i64 n,.string s,.slice none 0 0,.string ⟨#[]⟩],.int .i64 er])/\Chg NoS w w':=by
 go_enter Tryz.func132,Tryz.ntmps132;go_wp2_with fail;refine bodyPost_ret (v:=.tuple #[.agg #[.int .i64 1,.int .i64 0,.int .i64 0,.int .i64 (k:Nat),.int .i64 n,.string s,.slice none 0 0,.string ⟨#[]⟩],.int .i64 er]) (by simp [results,Tryz.results132,go_sem]) rfl ?_;exact⟨rfl,((Chg.refl _ _).alloc _).alloc _⟩
def PTk (V w:World) (R:Nat) (r:Int × Tkn) (e:Ending) (W:World):Prop :=
 ∃ (t:Tkn) (p:Nat),e=.returned (.tuple #[z9l t,.int .i64 r.1])/\(r.1=0->t=⟨r.2.kind,0,0,r.2.vk,r.2.vn,r.2.vs,r.2.s⟩/\p=r.2.to)/\RE V w W R p
def noK:Tkn:=⟨0,0,0,0,0,[],[]⟩
theorem v9d:z9l noK=.agg #[.int .i64 0,.int .i64 0,.int .i64 0,.int .i64 0,.int .i64 0,.string ⟨#[]⟩,.slice none 0 0,.string ⟨#[]⟩]:=rfl
theorem PTk.err {V w:World} {R p:Nat} {r:Int × Tkn} {er:Int} {W:World} (h:r.1=er) (he:er≠0) (hR:RE V w W R p):PTk V w R r (.returned (.tuple #[.agg #[.int .i64 0,.int .i64 0,.int .i64 0,.int .i64 0,.int .i64 0,.string ⟨#[]⟩,.slice none 0 0,.string ⟨#[]⟩],.int .i64 er])) W :=
 ⟨noK,p,by rw [h,v9d],fun e=>absurd (h.symm.trans e) he,hR⟩
def z7m (last:Bool) (f p:Nat) (l:List Nat):Int × Tkn:=if l.head?=some 62 then(0,⟨5,f,p+1,0,0,[],[]⟩) else if l=[]/\last=false then(6,noT f) else(11,noT f)
theorem y1f {V w W:World} {A:Option Addr} {bs:List Nat} {c R p:Nat} {last:Bool} {out:List Nat} (h:RD V w W A bs.length c last R p out) (hS:Src w 1 A bs.length c (z09 bs)) (hl:bs.length<=1000000) (hc:bs.length<=c) (hp:p<=bs.length) (f:Nat) :
  Calls Tryz.prog 136 #[.pointer (some ⟨R,0,none⟩)] W (PTk V w R (z7m last f p (bs.drop p))):=by
 have HKB:=kf h.kb;have HR0:=kf h.here;have hRW:=h.lt;have hwW:=h.chg.size;obtain⟨g,hg⟩:∃ g,g=W.heap.size:=⟨_,rfl⟩
 have HG:=kf hg;have hgR:g≠R:=by omega
 have hgW:W.heap.size<=g:=by omega
 have hgw:w.heap.size<=g:=by omega
 have HBW:=kf (show Blk (W.alloc (.cells #[.int .i64 0,.int .i64 0,.int .i64 0,.int .i64 0,.int .i64 0,.string ⟨#[]⟩,.slice none 0 0,.string ⟨#[]⟩] 111)) g 111 #[.int .i64 0,.int .i64 0,.int .i64 0,.int .i64 0,.int .i64 0,.string ⟨#[]⟩,.slice none 0 0,.string ⟨#[]⟩] from by rw [hg];exact Blk.new _ _ _);have HPE:=kf (fun X (hX:RD X w X A bs.length c last R bs.length out)=>z6q hX 62);have HPN:=kf (fun X x (hX:RD X w X A bs.length c last R p out) (hx:bs[p]?=some x) (hy:x≠62)=>z8p hX hS hl hc hx 62 hy);have HPA:=kf (fun X (hX:RD X w X A bs.length c last R p out) (hx:bs[p]?=some 62)=>z8q hX hS hl hc hx);have HCU:=kf (fun X k (hX:RD X w X A bs.length c last R k out)=>z4l hX 11);have HW1:=kf (HR0.out.alloc (.cells #[.int .i64 0,.int .i64 0,.int .i64 0,.int .i64 0,.int .i64 0,.string ⟨#[]⟩,.slice none 0 0,.string ⟨#[]⟩] 111));obtain⟨W1,hW1⟩:∃ W1,W1=W.alloc (.cells #[.int .i64 0,.int .i64 0,.int .i64 0,.int .i64 0,.int .i64 0,.string ⟨#[]⟩,.slice none 0 0,.string ⟨#[]⟩] 111):=⟨_,rfl⟩
 rw [<- hW1] at HW1 HBW;have HWW:=kf hW1;clear h hS hg hwW hRW hW1;by_cases hpn:p=bs.length
 ·have HD:=kf (show z7m last f p (bs.drop p)=if last=false then(6,noT f) else(11,noT f) from by
   rw [hpn,List.drop_of_length_le (Nat.le_refl _)];unfold z7m;rw [if_neg (by simp)];cases last<;>simp)
  have HCU1:=kf (fun X hX=>HCU.out X p hX);have HPE1:=kf (show ∀ X,RD X w X A bs.length c last R p out->Calls Tryz.prog 134 #[.pointer (some ⟨R,0,none⟩),.int .u8 (62:Nat)] X fun e W'=>e=.returned (.bool false)/\RD X w W' A bs.length c last R p out from fun X hX=>by rw [hpn] at hX ⊢;exact HPE.out X hX);have k2:((p:Int)==bs.length)=true:=by simp;omega
  have k3:(p==bs.length)=true:=by simp;omega
  obtain⟨er,her⟩:∃ er,er=(if last then(11:Int) else 6):=⟨_,rfl⟩
  have HER:=kf (show(z7m last f p (bs.drop p)).1=er/\er≠0 from by rw [HD.out,her];cases last<;>exact⟨rfl,by decide⟩);rw [<- her] at HCU1;clear hpn her;go_enter Tryz.func136,Tryz.ntmps136;go_upto_region 1 with fail;rw [<- HWW.out,<- HG.out];go_upto_region 3 with(go_at_call 134;refine(HPE1.out _ HW1.out.here).mono ?_;rintro e w3 ⟨rfl,h3⟩;obtain⟨c2,c3,c4,f3⟩:=h3.cells;have HB3:=kf (h3.kb _ _ _ hgR (by decide) HBW.out);have HR3:=kf (h3.base (HW1.out.kb.trans h3.kb));clear h3);go_quiet (fail);obtain⟨r0,r1,r2,r3,r4,r5,r6,r7,z0,z1,z2,z3,z4,z5,z6,z7⟩:=(HB3.out.drewN nq).cl8;go_wp2_with (go_at_call 131;refine(HCU1.out _ (HR3.out.drewN nq).here).mono ?_;rintro e w4 ⟨rfl,rfl⟩);refine bodyPost_ret (v:=.tuple #[.agg #[.int .i64 0,.int .i64 0,.int .i64 0,.int .i64 0,.int .i64 0,.string ⟨#[]⟩,.slice none 0 0,.string ⟨#[]⟩],.int .i64 er]) (by simp [results,Tryz.results136,go_sem,r0,r1,r2,r3,r4,r5,r6,r7]) rfl ?_;exact PTk.err HER.out.1 HER.out.2 (((HR3.out.drewN nq).re.set8 hgR hgW hgw _ _ _ _ _ _ _ _).back HKB.out)
 obtain⟨x,hx,hd⟩:=z1f (bs:=bs) (k:=p) (by omega);by_cases h62:x=62
 ·subst h62;have HD:=kf (show z7m last f p (bs.drop p)=(0,⟨5,f,p+1,0,0,[],[]⟩) from by rw [hd];exact if_pos rfl);have HPA1:=kf (fun X hX=>HPA.out X hX hx);clear hx hd hpn;go_enter Tryz.func136,Tryz.ntmps136;go_upto_region 1 with fail;rw [<- HWW.out,<- HG.out];go_wp2_with (go_at_call 134;refine(HPA1.out _ HW1.out.here).mono ?_;rintro e w3 ⟨rfl,h3⟩;have HB3:=kf (h3.kb _ _ _ hgR (by decide) HBW.out);have HR3:=kf (h3.base (HW1.out.kb.trans h3.kb));clear h3;obtain⟨r0,r1,r2,r3,r4,r5,r6,r7,z0,z1,z2,z3,z4,z5,z6,z7⟩:=HB3.out.cl8);refine bodyPost_ret (v:=.tuple #[.agg #[.int .i64 5,.int .i64 0,.int .i64 0,.int .i64 0,.int .i64 0,.string ⟨#[]⟩,.slice none 0 0,.string ⟨#[]⟩],.int .i64 0]) (by simp [results,Tryz.results136,go_sem,r0,r1,r2,r3,r4,r5,r6,r7]) rfl ?_;exact⟨⟨5,0,0,0,0,[],[]⟩,p+1,by rw [HD.out];rfl,fun _=>by rw [HD.out];exact⟨rfl,rfl⟩,(HR3.out.re.set8 hgR hgW hgw _ _ _ _ _ _ _ _).back HKB.out⟩
 ·have HD:=kf (show(z7m last f p (bs.drop p)).1=11 from by rw [hd];unfold z7m;rw [if_neg (by simpa using h62),if_neg (by simp)]);have HPN1:=kf (fun X hX=>HPN.out X x hX hx h62);have k2:((p:Int)==bs.length)=false:=by simp;omega
  have k3:(p==bs.length)=false:=by simp;omega
  clear hx hd hpn;go_enter Tryz.func136,Tryz.ntmps136;go_upto_region 1 with fail;rw [<- HWW.out,<- HG.out];go_upto_region 3 with(go_at_call 134;refine(HPN1.out _ HW1.out.here).mono ?_;rintro e w3 ⟨rfl,h3⟩;obtain⟨c2,c3,c4,f3⟩:=h3.cells;have HB3:=kf (h3.kb _ _ _ hgR (by decide) HBW.out);have HR3:=kf (h3.base (HW1.out.kb.trans h3.kb));clear h3);go_quiet (fail);obtain⟨r0,r1,r2,r3,r4,r5,r6,r7,z0,z1,z2,z3,z4,z5,z6,z7⟩:=(HB3.out.drewN nq).cl8;go_wp2_with fail;refine bodyPost_ret (v:=.tuple #[.agg #[.int .i64 0,.int .i64 0,.int .i64 0,.int .i64 0,.int .i64 0,.string ⟨#[]⟩,.slice none 0 0,.string ⟨#[]⟩],.int .i64 11]) (by simp [results,Tryz.results136,go_sem,r0,r1,r2,r3,r4,r5,r6,r7]) rfl ?_;exact PTk.err HD.out (by decide) (((HR3.out.drewN nq).re.set8 hgR hgW hgw _ _ _ _ _ _ _ _).back HKB.out)
def y4v (last:Bool) (f p x:Nat) (l:List Nat):Int × Tkn :=
 if z9e last l≠0 then(6,noT f)
 else if y6y x then
  if (z0o (l.take (rgs l))).1≠0 then((z0o (l.take (rgs l))).1,noT f) else(0,⟨1,f,p+rgs l,(z0o (l.take (rgs l))).2.1,(z0o (l.take (rgs l))).2.2,[],[]⟩)
 else(0,⟨6,f,p+rgs l,0,0,[],l.take (rgs l)⟩)
theorem y6c {V w W:World} {A:Option Addr} {bs:List Nat} {c R p x:Nat} {last:Bool} (h:RD V w W A bs.length c last R p []) (hS:Src w 1 A bs.length c (z09 bs)) (hl:bs.length<=500000) (hc:bs.length<=c) (hb:∀ d∈bs,d<256) (hx:bs[p]?=some x) (hr:y0h x=true) (f:Nat) :
  Calls Tryz.prog 138 #[.pointer (some ⟨R,0,none⟩)] W (PTk V w R (y4v last f p x (bs.drop p))):=by
 have hp:p<bs.length:=(List.getElem?_eq_some_iff.1 hx).1;have hx256:x<256:=hb x (List.mem_of_getElem? hx);have HRU:=kf (fun X (hX:RD X w X A bs.length c last R p [])=>y2r hX hS hl hc (by omega) (by omega));have HCR:=kf (fun X=>y83 x hx256 X);have HVA:=kf (fun k n er X=>z6o k n er ⟨#[]⟩ X);have HKB:=kf h.kb;have HR0:=kf h.here;have hRW:=h.lt;have hwW:=h.chg.size;obtain⟨g,hg⟩:∃ g,g=W.heap.size:=⟨_,rfl⟩
 have HG:=kf hg;have hgR:g≠R:=by omega
 have hgW:W.heap.size<=g:=by omega
 have hgw:w.heap.size<=g:=by omega
 have HBW:=kf (show Blk (W.alloc (.cells #[.int .i64 0,.int .i64 0,.int .i64 0,.int .i64 0,.int .i64 0,.string ⟨#[]⟩,.slice none 0 0,.string ⟨#[]⟩] 111)) g 111 #[.int .i64 0,.int .i64 0,.int .i64 0,.int .i64 0,.int .i64 0,.string ⟨#[]⟩,.slice none 0 0,.string ⟨#[]⟩] from by rw [hg];exact Blk.new _ _ _);have HW1:=kf (HR0.out.alloc (.cells #[.int .i64 0,.int .i64 0,.int .i64 0,.int .i64 0,.int .i64 0,.string ⟨#[]⟩,.slice none 0 0,.string ⟨#[]⟩] 111));obtain⟨W1,hW1⟩:∃ W1,W1=W.alloc (.cells #[.int .i64 0,.int .i64 0,.int .i64 0,.int .i64 0,.int .i64 0,.string ⟨#[]⟩,.slice none 0 0,.string ⟨#[]⟩] 111):=⟨_,rfl⟩
 rw [<- hW1] at HW1 HBW;have HWW:=kf hW1;obtain⟨l,hl0⟩:∃ l,l=bs.drop p:=⟨_,rfl⟩
 obtain⟨m,hm⟩:∃ m,l=x::m:=by
  obtain⟨y,hy,hd⟩:=z1f (bs:=bs) hp;rw [hx] at hy;injection hy with hy
  exact⟨bs.drop (p+1),by rw [hl0,hd,hy]⟩
 have hlb:∀ d∈l,d<256:=fun d hd=>hb d (by rw [hl0] at hd;exact List.mem_of_mem_drop hd);have hll:l.length<=500000:=by rw [hl0,List.length_drop];omega
 obtain⟨ws,hws⟩:∃ ws,ws=l.take (rgs l):=⟨_,rfl⟩
 have hwsx:ws=x::m.take (rgs m):=by rw [hws,hm,y03 hr,List.take_succ_cons]
 have hwsb:∀ d∈ws,d<256:=fun d hd=>hlb d (by rw [hws] at hd;exact List.mem_of_mem_take hd);have hwsl:ws.length<=500000:=by rw [hws,List.length_take];omega
 have hsl:=z8j ws hwsb;have hsz:=z0k ws;have HPA:=kf (fun X=>y6d (sb ws) X (by rw [z0k];exact hwsl));rw [hsl] at HPA;obtain⟨L,hL⟩:∃ L,L=p+rgs l:=⟨_,rfl⟩
 have HB:=kf (show y4v last f p x l=if z9e last l≠0 then(6,noT f) else if y6y x then(if (z0o ws).1≠0 then((z0o ws).1,noT f) else(0,⟨1,f,L,(z0o ws).2.1,(z0o ws).2.2,[],[]⟩)) else(0,⟨6,f,L,0,0,[],ws⟩) from by unfold y4v;rw [hws,hL]);rw [<- hl0] at HRU ⊢;rw [<- hws,<- hL] at HRU;obtain⟨t,ht⟩:∃ t,sb ws=t:=⟨_,rfl⟩
 have HTS:=kf ht;rw [ht] at HRU HPA hsl hsz;have g0:∀ k:0<t.size,(t[0]'k).toNat=x:=fun k=>by rw [z9x,hsl,hwsx];rfl
 obtain⟨N,hN⟩:∃ N,t.size=N:=⟨_,rfl⟩
 have hN0:0<N:=by rw [<- hN,hsz,hwsx];exact Nat.zero_lt_succ _
 have hN1:(0:Int)<N:=by omega
 obtain⟨er0,K,n,hNu⟩:∃ er0 K n,z0o ws=(er0,K,n):=⟨_,_,_,rfl⟩
 rw [hNu] at HB
 have HPA1:=kf (fun X=>(show Calls Tryz.prog 175 #[.string t] X fun e w'=>e=.returned (.tuple #[.agg #[.int .i64 (K:Nat),.int .i64 n,.string ⟨#[]⟩,.slice none 0 0],.int .i64 er0])/\Chg NoS X w' from by
  have h9:=HPA.out X;unfold PaTo at h9;rw [hNu] at h9;exact h9))
 have hw32:IntKind.i32.wrap (x:Int)=(x:Int):=by rw [IntKind.wrap_i32];omega
 clear h hS hg hwW hRW hW1 hl0 hm hlb hll hws hwsx hwsb hwsl hsl hsz hL ht hb hx hNu HPA hl hc hp;rcases y2l last l with hE|hE
 case inr =>
  rw [hE] at HRU HB;clear hE;have HB2:=kf (HB.out.trans (if_pos (show(6:Int)≠0 by decide)));go_enter Tryz.func138,Tryz.ntmps138;go_upto_region 1 with fail;rw [<- HWW.out,<- HG.out];go_wp2_with (go_at_call 170;refine(HRU.out _ HW1.out.here).mono ?_;rintro e w3 ⟨rfl,h3⟩;have HB3:=kf (h3.kb _ _ _ hgR (by decide) HBW.out);have HR3:=kf (h3.base (HW1.out.kb.trans h3.kb));clear h3;obtain⟨r0,r1,r2,r3,r4,r5,r6,r7,z0,z1,z2,z3,z4,z5,z6,z7⟩:=HB3.out.cl8);refine bodyPost_ret (v:=.tuple #[.agg #[.int .i64 0,.int .i64 0,.int .i64 0,.int .i64 0,.int .i64 0,.string ⟨#[]⟩,.slice none 0 0,.string ⟨#[]⟩],.int .i64 6]) (by simp [results,Tryz.results138,go_sem,r0,r1,r2,r3,r4,r5,r6,r7]) rfl ?_;exact PTk.err (by rw [HB2.out]) (by decide) ((HR3.out.re.set8 hgR hgW hgw _ _ _ _ _ _ _ _).back HKB.out)
 rw [hE] at HRU HB;clear hE;have HB1:=kf (HB.out.trans (if_neg (fun h9=>h9 rfl)));cases hNm:y6y x with
 |false =>
  rw [hNm] at HCR HB1;have HB2:=kf (HB1.out.trans (if_neg (by decide)));clear hNm;go_enter Tryz.func138,Tryz.ntmps138;go_upto_region 1 with fail;rw [<- HWW.out,<- HG.out]
  go_wp2_with first
   |(go_at_call 170;refine(HRU.out _ HW1.out.here).mono ?_;rintro e w3 ⟨rfl,h3⟩;have HB3:=kf (h3.kb _ _ _ hgR (by decide) HBW.out);have HR3:=kf (h3.base (HW1.out.kb.trans h3.kb));clear h3)
   |(go_at_call 174;refine(HCR.out _).mono ?_;rintro e w4 ⟨rfl,hc4⟩;have HR4:=kf (HR3.out.call hc4);have HB4:=kf (HB3.out.chg hc4 (fun h=>h));clear hc4;obtain⟨r0,r1,r2,r3,r4,r5,r6,r7,z0,z1,z2,z3,z4,z5,z6,z7⟩:=HB4.out.cl8)
  refine bodyPost_ret (v:=.tuple #[.agg #[.int .i64 6,.int .i64 0,.int .i64 0,.int .i64 0,.int .i64 0,.string ⟨#[]⟩,.slice none 0 0,.string t],.int .i64 0]) (by simp [results,Tryz.results138,go_sem,r0,r1,r2,r3,r4,r5,r6,r7]) rfl ?_;exact⟨⟨6,0,0,0,0,[],ws⟩,L,by rw [HB2.out,<- HTS.out];rfl,fun _=>by rw [HB2.out];exact⟨rfl,rfl⟩,(HR4.out.re.set8 hgR hgW hgw _ _ _ _ _ _ _ _).back HKB.out⟩
 |true =>
  rw [hNm] at HCR HB1;have HB2:=kf (HB1.out.trans (if_pos rfl));clear hNm;go_enter Tryz.func138,Tryz.ntmps138;go_upto_region 1 with fail;rw [<- HWW.out,<- HG.out]
  go_wp2_with first
   |(go_at_call 170;refine(HRU.out _ HW1.out.here).mono ?_;rintro e w3 ⟨rfl,h3⟩;have HB3:=kf (h3.kb _ _ _ hgR (by decide) HBW.out);have HR3:=kf (h3.base (HW1.out.kb.trans h3.kb));clear h3)
   |(go_at_call 174;refine(HCR.out _).mono ?_;rintro e w4 ⟨rfl,hc4⟩;have HR4:=kf (HR3.out.call hc4);have HB4:=kf (HB3.out.chg hc4 (fun h=>h));clear hc4)
   |(go_at_call 175;refine(HPA1.out _).mono ?_;rintro e w5 ⟨rfl,hc5⟩;have HR5:=kf (HR4.out.call hc5);have HB5:=kf (HB4.out.chg hc5 (fun h=>h));clear hc5)
   |(go_at_call 132;refine(HVA.out _ _ _ _).mono ?_;rintro e w6 ⟨rfl,hc6⟩;have HR6:=kf (HR5.out.call hc6);have HB6:=kf (HB5.out.chg hc6 (fun h=>h));clear hc6;obtain⟨r0,r1,r2,r3,r4,r5,r6,r7,z0,z1,z2,z3,z4,z5,z6,z7⟩:=HB6.out.cl8)
  refine bodyPost_ret (v:=.tuple #[.agg #[.int .i64 1,.int .i64 0,.int .i64 0,.int .i64 (K:Nat),.int .i64 n,.string ⟨#[]⟩,.slice none 0 0,.string ⟨#[]⟩],.int .i64 er0]) (by simp [results,Tryz.results138,go_sem,r0,r1,r2,r3,r4,r5,r6,r7]) rfl ?_;have HRF:=kf ((HR6.out.re.set8 hgR hgW hgw (.int .i64 1) (.int .i64 0) (.int .i64 0) (.int .i64 (K:Nat)) (.int .i64 n) (.string ⟨#[]⟩) (.slice none 0 0) (.string ⟨#[]⟩)).back HKB.out);by_cases he:er0=0
  ·have HB3:=kf (HB2.out.trans (if_neg (fun h9=>h9 he)));exact⟨⟨1,0,0,K,n,[],[]⟩,L,by rw [HB3.out,he];rfl,fun _=>by rw [HB3.out];exact⟨rfl,rfl⟩,HRF.out⟩
  ·have HB3:=kf (HB2.out.trans (if_pos he));exact⟨⟨1,0,0,K,n,[],[]⟩,L,by rw [HB3.out];rfl,fun h9=>absurd (by rw [HB3.out] at h9;exact h9) he,HRF.out⟩
theorem z48 (A:Option Addr) (len cap:Nat) (w:World) (hA:A=none->len=0/\cap=0) (h1:len<=1) :
  Calls Tryz.prog 17 #[.slice A len cap] w (v8m w (.mk 7 0 ⟨#[]⟩ [])):=by
 have t1:(len:Int).tdiv 2=0:=by rw [Int.tdiv_eq_ediv_of_nonneg (by omega)];omega
 have t2:(len:Int) / 2=0:=by omega
 have j1:(0:Int)<=cap:=by omega
 have HCK:=kf (fun W=>z5q W A 0 cap);have HSN:=kf (fun(A1:Option Addr) (c1:Nat) (W:World)=>z7t A1 c1 (.func (.func 32) #[] #[]) W);have HC1:=kf ((Chg.refl NoS w).alloc (.cells #[.int .i64 0,.int .i64 0,.string ⟨#[]⟩,.slice none 0 0] 24));have HO:=kf (⟨Blk.new w 24 #[.int .i64 0,.int .i64 0,.string ⟨#[]⟩,.slice none 0 0],Nat.le_refl _⟩:PB w _ _ _);have hbs:=(Blk.new (w.alloc (.cells #[.int .i64 0,.int .i64 0,.string ⟨#[]⟩,.slice none 0 0] 24)) 22 #[.slice A 0 cap]).alloc (.cells #[.int .i64 2] 3);have hbn:=Blk.new ((w.alloc (.cells #[.int .i64 0,.int .i64 0,.string ⟨#[]⟩,.slice none 0 0] 24)).alloc (.cells #[.slice A 0 cap] 22)) 3 #[.int .i64 2];simp only [World.size_alloc] at hbs hbn;have HCC:=kf (z4b 0 _ _ 0 0 cap A _ (by omega) (fun h=>absurd h (by omega)) (by omega) (hbs.cell 0) (hbn.cell 0));clear hbs hbn;cases A with
 |none =>
  obtain⟨rfl,rfl⟩:=hA rfl;go_enter Tryz.func17,Tryz.ntmps17
  go_upto_region 5 with(first
   |(go_at_call 30;refine(HCK.out _).mono ?_;rintro e w3 ⟨rfl,rfl⟩)
   |(go_at_call 29;refine HCC.out.mono ?_;rintro e w4 ⟨v,rfl,hrow,hb4⟩;obtain⟨A1,c1,rfl,_⟩:=z0t hrow;have HC4:=kf (((HC1.out.alloc _).alloc _).trans (Chg.of_below (S:=NoS) hb4) (fun _ _ e=>e));have HO4:=kf (((HO.out.alloc _).alloc _).call (Chg.of_below (S:=NoS) hb4));clear hrow hb4)
   |(go_at_call 31;refine(HSN.out _ _ _).mono ?_;rintro e w5 ⟨rfl,h5⟩;subst h5))
  have HX:Hid (Bx w (w5.alloc (.cells #[.int .i64 7,.int .i64 0,.string ⟨#[]⟩,.slice none 0 0] 24)) w5.heap.size w.heap.size #[.int .i64 7,.int .i64 0,.string ⟨#[]⟩,.slice none 0 0] #[.int .i64 0,.int .i64 0,.string ⟨#[]⟩,.slice none 0 0] [] [] 0 none 0) :=
   ⟨⟨Blk.new _ _ _,HC4.out.size⟩,⟨HO4.out.blk.alloc _,HO4.out.new⟩,GV.start (HC4.out.alloc _),fun e=>(by cases e),fun e=>(by cases e),fun e=>by have:=HO4.out.blk.lt;omega⟩
  go_loopw [20] (fun v wr=>v=.int .i64 0/\wr=w5.alloc (.cells #[.int .i64 7,.int .i64 0,.string ⟨#[]⟩,.slice none 0 0] 24)) (fun _ _=>0)
  case atStart=>exact⟨rfl,rfl⟩
  case round =>
   obtain⟨rfl,hwr⟩:=hrel;rw [<- hwr] at HX;obtain⟨g4,hg4⟩:∃ g,g=w5.heap.size:=⟨_,rfl⟩
   rw [<- hg4] at HX ⊢;clear hwr hg4;have q0:=HX.out.b.blk.cell 0;have q1:=HX.out.b.blk.cell 1;have q2:=HX.out.b.blk.cell 2;have q3:=HX.out.b.blk.cell 3;have z0:=HX.out.o.blk.frozen 0;have z1:=HX.out.o.blk.frozen 1;have z2:=HX.out.o.blk.frozen 2;have z3:=HX.out.o.blk.frozen 3;have y0:=HX.out.o.blk.cell 0;have y1:=HX.out.o.blk.cell 1;have y2:=HX.out.o.blk.cell 2;have y3:=HX.out.o.blk.cell 3;simp at q0 q1 q2 q3 y0 y1 y2 y3;go_wp2_with fail;try simp only [Exit.noGoto_ret]
   clear y0 y1 y2 y3;obtain⟨hb,hvv,hcc⟩:=HX.out.fin (k:=7) (n:=0) (s:=⟨#[]⟩) rfl (by unfold maxLen;omega) (by decide) (by decide) (by decide) _ rfl;have r0:=hb.blk.cell 0;have r1:=hb.blk.cell 1;have r2:=hb.blk.cell 2;have r3:=hb.blk.cell 3;simp at r0 r1 r2 r3;refine bodyPost_ret (v:=.agg #[.int .i64 7,.int .i64 0,.string ⟨#[]⟩,.slice none 0 0]) (by simp [results,Tryz.results17,go_sem,r0,r1,r2,r3]) rfl ?_;exact⟨⟨7,0,⟨#[]⟩,none,0,0⟩,rfl,hvv,hcc⟩
 |some ad =>
  go_enter Tryz.func17,Tryz.ntmps17
  go_upto_region 5 with(first
   |(go_at_call 30;refine(HCK.out _).mono ?_;rintro e w3 ⟨rfl,rfl⟩)
   |(go_at_call 29;refine HCC.out.mono ?_;rintro e w4 ⟨v,rfl,hrow,hb4⟩;obtain⟨A1,c1,rfl,_⟩:=z0t hrow;have HC4:=kf (((HC1.out.alloc _).alloc _).trans (Chg.of_below (S:=NoS) hb4) (fun _ _ e=>e));have HO4:=kf (((HO.out.alloc _).alloc _).call (Chg.of_below (S:=NoS) hb4));clear hrow hb4)
   |(go_at_call 31;refine(HSN.out _ _ _).mono ?_;rintro e w5 ⟨rfl,h5⟩;subst h5))
  have HX:Hid (Bx w (w5.alloc (.cells #[.int .i64 7,.int .i64 0,.string ⟨#[]⟩,.slice none 0 0] 24)) w5.heap.size w.heap.size #[.int .i64 7,.int .i64 0,.string ⟨#[]⟩,.slice none 0 0] #[.int .i64 0,.int .i64 0,.string ⟨#[]⟩,.slice none 0 0] [] [] 0 none 0) :=
   ⟨⟨Blk.new _ _ _,HC4.out.size⟩,⟨HO4.out.blk.alloc _,HO4.out.new⟩,GV.start (HC4.out.alloc _),fun e=>(by cases e),fun e=>(by cases e),fun e=>by have:=HO4.out.blk.lt;omega⟩
  go_loopw [20] (fun v wr=>v=.int .i64 0/\wr=w5.alloc (.cells #[.int .i64 7,.int .i64 0,.string ⟨#[]⟩,.slice none 0 0] 24)) (fun _ _=>0)
  case atStart=>exact⟨rfl,rfl⟩
  case round =>
   obtain⟨rfl,hwr⟩:=hrel;rw [<- hwr] at HX;obtain⟨g4,hg4⟩:∃ g,g=w5.heap.size:=⟨_,rfl⟩
   rw [<- hg4] at HX ⊢;clear hwr hg4;have q0:=HX.out.b.blk.cell 0;have q1:=HX.out.b.blk.cell 1;have q2:=HX.out.b.blk.cell 2;have q3:=HX.out.b.blk.cell 3;have z0:=HX.out.o.blk.frozen 0;have z1:=HX.out.o.blk.frozen 1;have z2:=HX.out.o.blk.frozen 2;have z3:=HX.out.o.blk.frozen 3;have y0:=HX.out.o.blk.cell 0;have y1:=HX.out.o.blk.cell 1;have y2:=HX.out.o.blk.cell 2;have y3:=HX.out.o.blk.cell 3;simp at q0 q1 q2 q3 y0 y1 y2 y3;go_wp2_with fail;try simp only [Exit.noGoto_ret]
   clear y0 y1 y2 y3;obtain⟨hb,hvv,hcc⟩:=HX.out.fin (k:=7) (n:=0) (s:=⟨#[]⟩) rfl (by unfold maxLen;omega) (by decide) (by decide) (by decide) _ rfl;have r0:=hb.blk.cell 0;have r1:=hb.blk.cell 1;have r2:=hb.blk.cell 2;have r3:=hb.blk.cell 3;simp at r0 r1 r2 r3;refine bodyPost_ret (v:=.agg #[.int .i64 7,.int .i64 0,.string ⟨#[]⟩,.slice none 0 0]) (by simp [results,Tryz.results17,go_sem,r0,r1,r2,r3]) rfl ?_;exact⟨⟨7,0,⟨#[]⟩,none,0,0⟩,rfl,hvv,hcc⟩
theorem y1z {l:List VT} (h:l.length<=1):z1p l=[]:=by
 unfold z1p;rw [show l.length / 2=0 by omega];rfl
end Go.Proofs.YtmibnkddappgiaaGreatDoor
namespace Go.Proofs.YtmibnkddappgiaaGreatDoor.HY
open Go.RowKit
variable {P:Program} {ops:Array Oper} {Q:Exit->Act->World->Prop} {md:Region.Mode} {S:World->Prop} {z:List Nat}
def y10 (P:Program) (md:Region.Mode) (ops:Array Oper) (Q:Exit->Act->World->Prop) (S:World->Prop) (z:List Nat):Nat->Array Bool->Act->World->Prop
 |0,li,a,w=>Region.ready md ops li=[]/\Q .normal a w
 |n+1,li,a,w=>(Region.ready md ops li=[]->Q .normal a w)/\∀ i∈Region.ready md ops li,wpOp P ops Q i (fun b u=>(i ∉ z->S u)/\y10 P md ops Q S z n (li.setIfInBounds i true) b u) a w
theorem y3q:∀ (n:Nat) (li:Array Bool) (a:Act) (w:World),y10 P md ops Q S z n li a w->wpAny P md ops Q n li a w
 |0,_,_,_,h=>h
 |n+1,_,_,_,h=>⟨h.1,fun i hi=>wpOp_mono (fun b u k=>y3q n _ b u k.2) (h.2 i hi)⟩
theorem v7y {i:Nat} {oi:Oper} {v:Value} (hi:ops[i]?=some oi) (hs:Region.noSelect ops=true) (hz:∀ j∈z,Region.waitsFor md ops j i=true) (hQ:∀ c a w,Q (.panic c) (a.put oi.dst v) w->Q (.panic c) a w) :
  ∀ (n:Nat) (li:Array Bool) (a:Act) (w:World),(∀ j oj,ops[j]?=some oj->j≠i->li.getD j true=false->(∀ e∈oj.after,Region.binds md e=true->e.on≠i)->oi.apart ops oj=true) ->
   i∈Region.ready md ops li->YieldsIf P ops S oi v a->S w->y10 P md ops Q S z n (li.setIfInBounds i true) (a.put oi.dst v) w->y10 P md ops Q S z (n+1) li a w:=by
 intro n;induction n with
 |zero =>
  intro li a w _ hr hy hS H;refine⟨fun h=>(by rw [h] at hr;cases hr),fun j hj=>?_⟩;rcases Nat.decEq j i with hne|rfl
  ·have h1:=ready_mono hj hne;rw [H.1] at h1;cases h1
  ·exact hy.wpOp hi hS ⟨fun _=>hS,H⟩
 |succ n ih =>
  intro li a w hap hr hy hS H;refine⟨fun h=>(by rw [h] at hr;cases hr),fun j hj=>?_⟩;rcases Nat.decEq j i with hne|rfl
  ·have hun:=z8l hr
   have waits:∀ k ok,k∈Region.ready md ops li->ops[k]?=some ok->∀ e∈ok.after,Region.binds md e=true->e.on≠i:=by
    intro k ok hk hok e he hb heq;obtain⟨_,o',ho',hall⟩:=mem_ready.1 hk;rw [hok] at ho';cases ho'
    have h2:=hall e he hb;rw [heq,hun] at h2;cases h2
   have hjz:j ∉ z:=by
    intro hm;obtain⟨oz,hoz,e,he,hb,heq⟩:=Region.waitsFor_spec (hz j hm);exact waits j oz hj hoz e he hb heq
   obtain⟨hju,oj,hoj,_⟩:=mem_ready.1 hj;have h3:=wpOp_putIf hoj (hap j oj hoj hne hju (waits j oj hj hoj)) (fun cs b=>Region.noSelect_spec hs i oi cs b hi) (fun cs b=>Region.noSelect_spec hs j oj cs b hoj) hQ hy (H.2 j (ready_mono hj hne));refine wpOp_mono (fun b u k=>⟨k.2.1,ih (li.setIfInBounds j true) b u (fun q oq hq hqi hqu hno=>hap q oq hq hqi ?_ hno) (ready_mono hr (Ne.symm hne)) k.1 (k.2.1 hjz) ?_⟩) h3
   ·rcases Nat.decEq j q with hjq|rfl
    ·rwa [getD_set_ne true hjq] at hqu
    ·exact hju
   ·rw [Array.setIfInBounds_comm _ _ hne];exact k.2.2
  ·exact hy.wpOp hi hS ⟨fun _=>hS,H⟩
theorem v9g {i:Nat} {oi:Oper} {v:Value} (hi:ops[i]?=some oi) (hs:Region.noSelect ops=true) (hz:i∈z) (hQ:∀ c a w,Q (.panic c) (a.put oi.dst v) w->Q (.panic c) a w) :
  ∀ (n:Nat) (li:Array Bool) (a:Act) (w:World),(∀ j oj,ops[j]?=some oj->j≠i->li.getD j true=false->(∀ e∈oj.after,Region.binds md e=true->e.on≠i)->oi.apart ops oj=true) ->
   i∈Region.ready md ops li->YieldsIf P ops (fun _=>True) oi v a->y10 P md ops Q S z n (li.setIfInBounds i true) (a.put oi.dst v) w->y10 P md ops Q S z (n+1) li a w:=by
 intro n;induction n with
 |zero =>
  intro li a w _ hr hy H;refine⟨fun h=>(by rw [h] at hr;cases hr),fun j hj=>?_⟩;rcases Nat.decEq j i with hne|rfl
  ·have h1:=ready_mono hj hne;rw [H.1] at h1;cases h1
  ·exact hy.wpOp hi trivial ⟨fun h=>absurd hz h,H⟩
 |succ n ih =>
  intro li a w hap hr hy H;refine⟨fun h=>(by rw [h] at hr;cases hr),fun j hj=>?_⟩;rcases Nat.decEq j i with hne|rfl
  ·have hun:=z8l hr
   have waits:∀ k ok,k∈Region.ready md ops li->ops[k]?=some ok->∀ e∈ok.after,Region.binds md e=true->e.on≠i:=by
    intro k ok hk hok e he hb heq;obtain⟨_,o',ho',hall⟩:=mem_ready.1 hk;rw [hok] at ho';cases ho'
    have h2:=hall e he hb;rw [heq,hun] at h2;cases h2
   obtain⟨hju,oj,hoj,_⟩:=mem_ready.1 hj;have h3:=wpOp_putIf hoj (hap j oj hoj hne hju (waits j oj hj hoj)) (fun cs b=>Region.noSelect_spec hs i oi cs b hi) (fun cs b=>Region.noSelect_spec hs j oj cs b hoj) hQ hy (H.2 j (ready_mono hj hne));refine wpOp_mono (fun b u k=>⟨k.2.1,ih (li.setIfInBounds j true) b u (fun q oq hq hqi hqu hno=>hap q oq hq hqi ?_ hno) (ready_mono hr (Ne.symm hne)) k.1 ?_⟩) h3
   ·rcases Nat.decEq j q with hjq|rfl
    ·rwa [getD_set_ne true hjq] at hqu
    ·exact hju
   ·rw [Array.setIfInBounds_comm _ _ hne];exact k.2.2
  ·exact hy.wpOp hi trivial ⟨fun h=>absurd hz h,H⟩
theorem takeY {i:Nat} {oi:Oper} {v:Value} {n:Nat} {li:Array Bool} {a:Act} {w:World} (hi:ops[i]?=some oi) (hs:Region.noSelect ops=true) (hz:(z.all fun j=>Region.waitsFor md ops j i)=true) (hf:Region.free md ops li i=true) (hr:(Region.ready md ops li).contains i=true)
  (hQ:∀ c a w,Q (.panic c) (a.put oi.dst v) w->Q (.panic c) a w) (hy:YieldsIf P ops S oi v a) (hS:S w) (h:y10 P md ops Q S z n (li.setIfInBounds i true) (a.put oi.dst v) w):y10 P md ops Q S z (n+1) li a w :=
 v7y hi hs (fun j hj=>List.all_eq_true.1 hz j hj) hQ n li a w (Region.free_spec hi hf) (by simpa using hr) hy hS h
theorem soonY {i:Nat} {oi:Oper} {v:Value} {n:Nat} {li:Array Bool} {a:Act} {w:World} (hi:ops[i]?=some oi) (hs:Region.noSelect ops=true) (hz:i∈z) (hf:Region.free md ops li i=true) (hr:(Region.ready md ops li).contains i=true)
  (hQ:∀ c a w,Q (.panic c) (a.put oi.dst v) w->Q (.panic c) a w) (hy:YieldsIf P ops (fun _=>True) oi v a) (h:y10 P md ops Q S z n (li.setIfInBounds i true) (a.put oi.dst v) w):y10 P md ops Q S z (n+1) li a w :=
 v9g hi hs hz hQ n li a w (Region.free_spec hi hf) (by simpa using hr) hy h
theorem oneY {i n:Nat} {o:Oper} {li:Array Bool} {a:Act} {w:World} (hr:Region.ready md ops li=[i]) (ho:ops[i]?=some o)
  (h:∀ K:Act->World->Prop,Hid (∀ a w,S w->(S w->y10 P md ops Q S z n (li.setIfInBounds i true) a w)->K a w)->if Region.wanted o (yielded ops a.tmps)=true then Oper.wp P o a w K Q else K (a.put o.dst undef) w):y10 P md ops Q S z (n+1) li a w:=by
 refine⟨fun h0=>(by rw [hr] at h0;cases h0),fun j hj=>?_⟩;rw [hr] at hj;obtain rfl:=List.mem_singleton.1 hj;exact wpOp_step ho (fun K hK=>h K (fun a w hS hW=>hK a w ⟨fun _=>hS,hW hS⟩))
theorem twoY {i j n:Nat} {o o':Oper} {li:Array Bool} {a:Act} {w:World} (hr:Region.ready md ops li=[i,j]) (ho:ops[i]?=some o) (ho':ops[j]?=some o') (hi:i∈z) (hj:j∈z)
  (h:∀ K:Act->World->Prop,Hid (∀ a w,y10 P md ops Q S z n (li.setIfInBounds i true) a w->K a w)->if Region.wanted o (yielded ops a.tmps)=true then Oper.wp P o a w K Q else K (a.put o.dst undef) w)
  (h':∀ K:Act->World->Prop,Hid (∀ a w,y10 P md ops Q S z n (li.setIfInBounds j true) a w->K a w)->if Region.wanted o' (yielded ops a.tmps)=true then Oper.wp P o' a w K Q else K (a.put o'.dst undef) w):y10 P md ops Q S z (n+1) li a w:=by
 refine⟨fun h0=>(by rw [hr] at h0;cases h0),fun k hk=>?_⟩;rw [hr] at hk;simp only [List.mem_cons,List.not_mem_nil,or_false] at hk;rcases hk with rfl|rfl
 ·exact wpOp_step ho (fun K hK=>h K (fun a w hW=>hK a w ⟨fun hn=>absurd hi hn,hW⟩))
 ·exact wpOp_step ho' (fun K hK=>h' K (fun a w hW=>hK a w ⟨fun hn=>absurd hj hn,hW⟩))
theorem lastY {i n:Nat} {o:Oper} {li:Array Bool} {a:Act} {w:World} (hr:Region.ready md ops li=[i]) (ho:ops[i]?=some o) (hi:i∈z) (hr2:Region.ready md ops (li.setIfInBounds i true)=[])
  (h:∀ K:Act->World->Prop,Hid (∀ a w,Q .normal a w->K a w)->if Region.wanted o (yielded ops a.tmps)=true then Oper.wp P o a w K Q else K (a.put o.dst undef) w):y10 P md ops Q S z (n+1) li a w:=by
 refine⟨fun h0=>(by rw [hr] at h0;cases h0),fun j hj=>?_⟩;rw [hr] at hj;obtain rfl:=List.mem_singleton.1 hj;refine wpOp_step ho (fun K hK=>h K (fun a w hq=>hK a w ⟨fun hn=>absurd hi hn,?_⟩));cases n with
 |zero=>exact⟨hr2,hq⟩
 |succ n=>exact⟨fun _=>hq,fun i hi=>(by rw [hr2] at hi;cases hi)⟩
theorem startY {id:Nat} {a:Act} {w:World} (S:World->Prop) (z:List Nat) (hm:P.follows .mixedOrders=true) (hS:S w.drew) (h:S w.drew->y10 P .any ops Q S z ops.size (Array.replicate ops.size false) a w.drew):(Code.region id ops true).wp P Q a w :=
 wp_region_any hm (y3q _ _ _ _ (h hS))
end Go.Proofs.YtmibnkddappgiaaGreatDoor.HY
