import Derived.Test.YtnhlalkeaaiefaaGreatDoorE09
set_option linter.unusedVariables false
set_option maxHeartbeats 64000000
set_option maxRecDepth 100000
set_option linter.unusedSimpArgs false
namespace Go.Proofs.YtnhlalkeaaiefaaGreatDoor
open Go.RowKit
theorem y7t (V f:Value) (a:Nat) (ha:a<=100) (w:World):Calls Tryz.prog 128 #[V,.int .i64 a,.int .i64 a,f] w fun e w'=>e=.returned (.tuple #[])/\w'=w:=by
 go_enter Tryz.func128,Tryz.ntmps128;go_wp2_with fail;go_loopw [8] (fun v wr=>v=.int .i64 ((a+1:Nat):Int)/\wr=w) (fun _ _=>0)
 case atStart=>exact⟨by go_num,rfl⟩
 case round =>
  obtain⟨rfl,rfl⟩:=hrel;have d1:decide (((a+1:Nat):Int)<(a:Int))=false:=by simp;omega
  have d2:decide (a+1<a)=false:=by simp
  go_wp2_with fail;go_end0;exact⟨rfl,rfl⟩
theorem z9p (V f:Value) (w:World):Calls Tryz.prog 93 #[V,.int .i64 0,f] w fun e w'=>e=.returned (.tuple #[])/\w'=w:=by
 have HE:=kf (fun(W:World)=>y7t V f 0 (by omega) W);go_enter Tryz.func93,Tryz.ntmps93;go_upto_region 2 with fail;go_loopw [7,8] (fun va vb wr=>va=.int .i64 0/\vb=.int .i64 20/\wr=w) (fun _ _ _=>0)
 case atStart=>exact⟨rfl,rfl,rfl⟩
 case round =>
  obtain⟨rfl,rfl,rfl⟩:=hrel;go_upto_region 7 with(go_at_call 128;refine(HE.out _).mono ?_;rintro e w2 ⟨rfl,rfl⟩);go_loopw [6] (fun v wx=>v=.int .i64 20/\wx=w2) (fun _ _=>0)
  case atStart=>exact⟨rfl,rfl⟩
  case round =>
   obtain⟨rfl,rfl⟩:=hrel;go_wp2_with fail;go_end0;exact⟨rfl,rfl⟩
theorem z7p (A:Option Addr) (c:Nat) (f:Value) (w:World):Calls Tryz.prog 54 #[.slice A 0 c,f] w fun e w'=>e=.returned (.tuple #[])/\w'=w:=by
 have HI:=kf (fun W=>z9p (.slice A 0 c) f W);go_enter Tryz.func54,Tryz.ntmps54;go_wp2_with (go_at_call 93;refine(HI.out _).mono ?_;rintro e w2 ⟨rfl,rfl⟩);go_end0;exact⟨rfl,rfl⟩
variable {P:Program} {ops:Array Oper} {Q:Exit->Act->World->Prop} {md:Region.Mode} {S:World->Prop} {z:Nat}
def y57 (P:Program) (md:Region.Mode) (ops:Array Oper) (Q:Exit->Act->World->Prop) (S:World->Prop) (z:Nat):Nat->Array Bool->Act->World->Prop
 |0,li,a,w=>Region.ready md ops li=[]/\Q .normal a w
 |n+1,li,a,w=>(Region.ready md ops li=[]->Q .normal a w)/\∀ i∈Region.ready md ops li,wpOp P ops Q i (fun b u=>(i≠z->S u)/\y57 P md ops Q S z n (li.setIfInBounds i true) b u) a w
theorem y3r:∀ (n:Nat) (li:Array Bool) (a:Act) (w:World),y57 P md ops Q S z n li a w->wpAny P md ops Q n li a w
 |0,_,_,_,h=>h
 |n+1,_,_,_,h=>⟨h.1,fun i hi=>wpOp_mono (fun b u k=>y3r n _ b u k.2) (h.2 i hi)⟩
theorem z8g {i:Nat} {li:Array Bool} (h:i∈Region.ready md ops li):li.getD i false=false:=by
 have h0:=(mem_ready.1 h).1;rcases Nat.lt_or_ge i li.size with h1|h1
 ·simpa [h1] using h0
 ·simp [Array.getElem?_eq_none h1] at h0
theorem v7t {i:Nat} {oi:Oper} {v:Value} (hi:ops[i]?=some oi) (hs:Region.noSelect ops=true) (hz:Region.waitsFor md ops z i=true) (hQ:∀ c a w,Q (.panic c) (a.put oi.dst v) w->Q (.panic c) a w) :
  ∀ (n:Nat) (li:Array Bool) (a:Act) (w:World),(∀ j oj,ops[j]?=some oj->j≠i->li.getD j true=false->(∀ e∈oj.after,Region.binds md e=true->e.on≠i)->oi.apart ops oj=true) ->
   i∈Region.ready md ops li->YieldsIf P ops S oi v a->S w->y57 P md ops Q S z n (li.setIfInBounds i true) (a.put oi.dst v) w->y57 P md ops Q S z (n+1) li a w:=by
 intro n;induction n with
 |zero =>
  intro li a w _ hr hy hS H;refine⟨fun h=>(by rw [h] at hr;cases hr),fun j hj=>?_⟩;rcases Nat.decEq j i with hne|rfl
  ·have h1:=ready_mono hj hne;rw [H.1] at h1;cases h1
  ·exact hy.wpOp hi hS ⟨fun _=>hS,H⟩
 |succ n ih =>
  intro li a w hap hr hy hS H;refine⟨fun h=>(by rw [h] at hr;cases hr),fun j hj=>?_⟩;rcases Nat.decEq j i with hne|rfl
  ·have hun:=z8g hr
   have waits:∀ k ok,k∈Region.ready md ops li->ops[k]?=some ok->∀ e∈ok.after,Region.binds md e=true->e.on≠i:=by
    intro k ok hk hok e he hb heq;obtain⟨_,o',ho',hall⟩:=mem_ready.1 hk;rw [hok] at ho';cases ho'
    have h2:=hall e he hb;rw [heq,hun] at h2;cases h2
   have hjz:j≠z:=by
    rintro rfl;obtain⟨oz,hoz,e,he,hb,heq⟩:=Region.waitsFor_spec hz;exact waits j oz hj hoz e he hb heq
   obtain⟨hju,oj,hoj,_⟩:=mem_ready.1 hj;have h3:=wpOp_putIf hoj (hap j oj hoj hne hju (waits j oj hj hoj)) (fun cs b=>Region.noSelect_spec hs i oi cs b hi) (fun cs b=>Region.noSelect_spec hs j oj cs b hoj) hQ hy (H.2 j (ready_mono hj hne));refine wpOp_mono (fun b u k=>⟨k.2.1,ih (li.setIfInBounds j true) b u (fun q oq hq hqi hqu hno=>hap q oq hq hqi ?_ hno) (ready_mono hr (Ne.symm hne)) k.1 (k.2.1 hjz) ?_⟩) h3
   ·rcases Nat.decEq j q with hjq|rfl
    ·rwa [getD_set_ne true hjq] at hqu
    ·exact hju
   ·rw [Array.setIfInBounds_comm _ _ hne];exact k.2.2
  ·exact hy.wpOp hi hS ⟨fun _=>hS,H⟩
theorem z0b {i:Nat} {oi:Oper} {v:Value} {n:Nat} {li:Array Bool} {a:Act} {w:World} (hi:ops[i]?=some oi) (hs:Region.noSelect ops=true) (hz:Region.waitsFor md ops z i=true) (hf:Region.free md ops li i=true) (hr:(Region.ready md ops li).contains i=true)
  (hQ:∀ c a w,Q (.panic c) (a.put oi.dst v) w->Q (.panic c) a w) (hy:YieldsIf P ops S oi v a) (hS:S w) (h:y57 P md ops Q S z n (li.setIfInBounds i true) (a.put oi.dst v) w):y57 P md ops Q S z (n+1) li a w :=
 v7t hi hs hz hQ n li a w (Region.free_spec hi hf) (by simpa using hr) hy hS h
theorem y59 {i n:Nat} {o:Oper} {li:Array Bool} {a:Act} {w:World} (hr:Region.ready md ops li=[i]) (ho:ops[i]?=some o) (hne:i≠z)
  (h:∀ K:Act->World->Prop,Hid (∀ a w,S w->(S w->y57 P md ops Q S z n (li.setIfInBounds i true) a w)->K a w)->if Region.wanted o (yielded ops a.tmps)=true then Oper.wp P o a w K Q else K (a.put o.dst undef) w):y57 P md ops Q S z (n+1) li a w:=by
 refine⟨fun h0=>(by rw [hr] at h0;cases h0),fun j hj=>?_⟩;rw [hr] at hj;obtain rfl:=List.mem_singleton.1 hj;exact wpOp_step ho (fun K hK=>h K (fun a w hS hW=>hK a w ⟨fun _=>hS,hW hS⟩))
theorem v9j {i j n:Nat} {o o':Oper} {li:Array Bool} {a:Act} {w:World} (hr:Region.ready md ops li=[i,j]) (ho:ops[i]?=some o) (ho':ops[j]?=some o') (hne:i≠z) (hne':j≠z)
  (h:∀ K:Act->World->Prop,Hid (∀ a w,S w->(S w->y57 P md ops Q S z n (li.setIfInBounds i true) a w)->K a w)->if Region.wanted o (yielded ops a.tmps)=true then Oper.wp P o a w K Q else K (a.put o.dst undef) w)
  (h':∀ K:Act->World->Prop,Hid (∀ a w,S w->(S w->y57 P md ops Q S z n (li.setIfInBounds j true) a w)->K a w)->if Region.wanted o' (yielded ops a.tmps)=true then Oper.wp P o' a w K Q else K (a.put o'.dst undef) w):y57 P md ops Q S z (n+1) li a w:=by
 refine⟨fun h0=>(by rw [hr] at h0;cases h0),fun k hk=>?_⟩;rw [hr] at hk;simp only [List.mem_cons,List.not_mem_nil,or_false] at hk;rcases hk with rfl|rfl
 ·exact wpOp_step ho (fun K hK=>h K (fun a w hS hW=>hK a w ⟨fun _=>hS,hW hS⟩))
 ·exact wpOp_step ho' (fun K hK=>h' K (fun a w hS hW=>hK a w ⟨fun _=>hS,hW hS⟩))
theorem y7o {n:Nat} {o:Oper} {li:Array Bool} {a:Act} {w:World} (hr:Region.ready md ops li=[z]) (ho:ops[z]?=some o) (hr2:Region.ready md ops (li.setIfInBounds z true)=[])
  (h:∀ K:Act->World->Prop,Hid (∀ a w,Q .normal a w->K a w)->if Region.wanted o (yielded ops a.tmps)=true then Oper.wp P o a w K Q else K (a.put o.dst undef) w):y57 P md ops Q S z (n+1) li a w:=by
 refine⟨fun h0=>(by rw [hr] at h0;cases h0),fun j hj=>?_⟩;rw [hr] at hj;obtain rfl:=List.mem_singleton.1 hj;refine wpOp_step ho (fun K hK=>h K (fun a w hq=>hK a w ⟨fun h=>absurd rfl h,?_⟩));cases n with
 |zero=>exact⟨hr2,hq⟩
 |succ n=>exact⟨fun _=>hq,fun i hi=>(by rw [hr2] at hi;cases hi)⟩
theorem y2d {id:Nat} {a:Act} {w:World} (S:World->Prop) (z:Nat) (hm:P.follows .mixedOrders=true) (hS:S w.drew) (h:S w.drew->y57 P .any ops Q S z ops.size (Array.replicate ops.size false) a w.drew):(Code.region id ops true).wp P Q a w :=
 wp_region_any hm (y3r _ _ _ _ (h hS))
theorem z7z (s:ByteArray) (w:World):Calls Tryz.prog 57 #[.string s] w fun e w'=>e=.returned (.agg #[.int .i64 5,.int .i64 0,.string s,.slice none 0 0])/\Chg NoS w w':=by
 have HO:=kf (⟨Blk.new w 25 #[.int .i64 0,.int .i64 0,.string ⟨#[]⟩,.slice none 0 0],Nat.le_refl _⟩:PB w _ _ _);have HC:=kf ((Chg.refl NoS w).alloc (.cells #[.int .i64 0,.int .i64 0,.string ⟨#[]⟩,.slice none 0 0] 25));have HF:=kf (Blk.new w 25 #[.int .i64 5,.int .i64 0,.string s,.slice none 0 0]);have HD:=kf ((Chg.refl NoS w).alloc (.cells #[.int .i64 5,.int .i64 0,.string s,.slice none 0 0] 25));go_enter Tryz.func57,Tryz.ntmps57;go_wp2_with fail;try simp only [Exit.noGoto_ret]
 have r0:=HF.out.cell 0;have r1:=HF.out.cell 1;have r2:=HF.out.cell 2;have r3:=HF.out.cell 3;simp at r0 r1 r2 r3;refine bodyPost_ret (v:=.agg #[.int .i64 5,.int .i64 0,.string s,.slice none 0 0]) (by simp [results,Tryz.results57,go_sem,r0,r1,r2,r3]) rfl ?_;exact⟨rfl,HD.out⟩
theorem y0d (n:Int) (w:World):Calls Tryz.prog 135 #[.int .i64 n] w fun e w'=>e=.returned (.agg #[.int .i64 2,.int .i64 n,.string ⟨#[]⟩,.slice none 0 0])/\Chg NoS w w':=by
 have HF:=kf (Blk.new w 25 #[.int .i64 2,.int .i64 n,.string ⟨#[]⟩,.slice none 0 0]);have HD:=kf ((Chg.refl NoS w).alloc (.cells #[.int .i64 2,.int .i64 n,.string ⟨#[]⟩,.slice none 0 0] 25));go_enter Tryz.func135,Tryz.ntmps135;go_wp2_with fail;try simp only [Exit.noGoto_ret]
 have r0:=HF.out.cell 0;have r1:=HF.out.cell 1;have r2:=HF.out.cell 2;have r3:=HF.out.cell 3;simp at r0 r1 r2 r3;refine bodyPost_ret (v:=.agg #[.int .i64 2,.int .i64 n,.string ⟨#[]⟩,.slice none 0 0]) (by simp [results,Tryz.results135,go_sem,r0,r1,r2,r3]) rfl ?_;exact⟨rfl,HD.out⟩
theorem y6k (n:Int) (w:World):Calls Tryz.prog 157 #[.int .i64 n] w fun e w'=>e=.returned (.agg #[.int .i64 8,.int .i64 n,.string ⟨#[]⟩,.slice none 0 0])/\Chg NoS w w':=by
 have HF:=kf (Blk.new w 25 #[.int .i64 8,.int .i64 n,.string ⟨#[]⟩,.slice none 0 0]);have HD:=kf ((Chg.refl NoS w).alloc (.cells #[.int .i64 8,.int .i64 n,.string ⟨#[]⟩,.slice none 0 0] 25));go_enter Tryz.func157,Tryz.ntmps157;go_wp2_with fail;try simp only [Exit.noGoto_ret]
 have r0:=HF.out.cell 0;have r1:=HF.out.cell 1;have r2:=HF.out.cell 2;have r3:=HF.out.cell 3;simp at r0 r1 r2 r3;refine bodyPost_ret (v:=.agg #[.int .i64 8,.int .i64 n,.string ⟨#[]⟩,.slice none 0 0]) (by simp [results,Tryz.results157,go_sem,r0,r1,r2,r3]) rfl ?_;exact⟨rfl,HD.out⟩
def emF (S:Nat->ByteArray) (V:Nat->VT):List Nat->List VT
 |[]=>[]
 |[p]=>[nmT (S p),V p]
 |p::q::r=>(if S q=S p then [] else [nmT (S p),V p])++emF S V (q::r)
theorem v25 {S:Nat->ByteArray} {V:Nat->VT} {p:Nat}:emF S V [p]=[nmT (S p),V p]++emF S V []:=rfl
theorem v82 {S:Nat->ByteArray} {V:Nat->VT} {p q:Nat} {r:List Nat} (h:S q=S p):emF S V (p::q::r)=emF S V (q::r):=by rw [emF,if_pos h];rfl
theorem v81 {S:Nat->ByteArray} {V:Nat->VT} {p q:Nat} {r:List Nat} (h:S q≠S p):emF S V (p::q::r)=[nmT (S p),V p]++emF S V (q::r):=by rw [emF,if_neg h]
theorem PRow.blk {w:World} {g cap b off:Nat} {d:List Nat} (h:PRow w g cap b off d):∃ cs,Blk w g 23 cs/\∀ w':World,Blk w' g 23 cs->PRow w' g cap b off d:=by
 rcases h.2 with⟨h1,_⟩|⟨g',cap',cur,h1,h2,hh,h3⟩
 ·cases h1
 ·simp only [Value.slice.injEq,Option.some.injEq,Addr.mk.injEq] at h1;obtain⟨⟨rfl,_,_⟩,_,rfl⟩:=h1;exact⟨cur,hh,fun w' hb=>⟨h.1,.inr ⟨_,_,cur,rfl,h2,hb,h3⟩⟩⟩
theorem v14 {W:World} {B:Nat} {e:TypeId} {size:Nat} {v:Value} {n:Nat} {xs:List Value} (h:W.ownsRow B e size v n xs):W.ownsRow 0 e size v n xs :=
 ⟨h.1,h.2.imp id (fun⟨g,cap,cur,h1,_,h2⟩=>⟨g,cap,cur,h1,Nat.zero_le _,h2⟩)⟩
theorem v5m {W:World} {B b off m:Nat} {A1:Option Addr} {c1:Nat} (h:W.ownsRow B 23 1 (.slice A1 m c1) m (z4g b off m)) (h0:0<m):∃ gs,A1=some ⟨gs,0,none⟩/\B<=gs/\PRow W gs c1 b off (List.range m):=by
 rcases h.2 with⟨_,h1⟩|⟨g,cap,cur,h1,h2,h3,h4⟩
 ·omega
 ·simp only [Value.slice.injEq] at h1;obtain⟨rfl,_,rfl⟩:=h1;refine⟨g,rfl,h2,?_⟩;unfold PRow;rw [List.length_range];exact v14 h
def v1d (l:List VT) (x:Nat):ByteArray:=((l[2*x]?).getD z28).str
def v3h (l:List VT) (x:Nat):VT:=(l[2*x+1]?).getD z28
noncomputable def z5j (l:List VT):List VT:=emF (v1d l) (v3h l) (z49 (v1d l) (List.range (l.length / 2))).reverse
theorem z41 (A:Option Addr) (len cap:Nat) (w:World) (hA:A=none->len=0/\cap=0) (h1:len<=1) :
  Calls Tryz.prog 26 #[.slice A len cap] w (v8e w (.mk 7 0 ⟨#[]⟩ [])):=by
 have t1:(len:Int).tdiv 2=0:=by rw [Int.tdiv_eq_ediv_of_nonneg (by omega)];omega
 have t2:(len:Int) / 2=0:=by omega
 have j1:(0:Int)<=cap:=by omega
 have HCK:=kf (fun W=>z5m W A 0 cap);have HSN:=kf (fun(A1:Option Addr) (c1:Nat) (W:World)=>z7p A1 c1 (.func (.func 55) #[] #[]) W);have HC1:=kf ((Chg.refl NoS w).alloc (.cells #[.int .i64 0,.int .i64 0,.string ⟨#[]⟩,.slice none 0 0] 25));have HO:=kf (⟨Blk.new w 25 #[.int .i64 0,.int .i64 0,.string ⟨#[]⟩,.slice none 0 0],Nat.le_refl _⟩:PB w _ _ _);have hbs:=(Blk.new (w.alloc (.cells #[.int .i64 0,.int .i64 0,.string ⟨#[]⟩,.slice none 0 0] 25)) 23 #[.slice A 0 cap]).alloc (.cells #[.int .i64 2] 3);have hbn:=Blk.new ((w.alloc (.cells #[.int .i64 0,.int .i64 0,.string ⟨#[]⟩,.slice none 0 0] 25)).alloc (.cells #[.slice A 0 cap] 23)) 3 #[.int .i64 2];simp only [World.size_alloc] at hbs hbn;have HCC:=kf (z44 0 _ _ 0 0 cap A _ (by omega) (fun h=>absurd h (by omega)) (by omega) (hbs.cell 0) (hbn.cell 0));clear hbs hbn;cases A with
 |none =>
  obtain⟨rfl,rfl⟩:=hA rfl;go_enter Tryz.func26,Tryz.ntmps26
  go_upto_region 5 with(first
   |(go_at_call 53;refine(HCK.out _).mono ?_;rintro e w3 ⟨rfl,rfl⟩)
   |(go_at_call 52;refine HCC.out.mono ?_;rintro e w4 ⟨v,rfl,hrow,hb4⟩;obtain⟨A1,c1,rfl,_⟩:=z0n hrow;have HC4:=kf (((HC1.out.alloc _).alloc _).trans (Chg.of_below (S:=NoS) hb4) (fun _ _ e=>e));have HO4:=kf (((HO.out.alloc _).alloc _).call (Chg.of_below (S:=NoS) hb4));clear hrow hb4)
   |(go_at_call 54;refine(HSN.out _ _ _).mono ?_;rintro e w5 ⟨rfl,h5⟩;subst h5))
  have HX:Hid (Bx w (w5.alloc (.cells #[.int .i64 7,.int .i64 0,.string ⟨#[]⟩,.slice none 0 0] 25)) w5.heap.size w.heap.size #[.int .i64 7,.int .i64 0,.string ⟨#[]⟩,.slice none 0 0] #[.int .i64 0,.int .i64 0,.string ⟨#[]⟩,.slice none 0 0] [] [] 0 none 0) :=
   ⟨⟨Blk.new _ _ _,HC4.out.size⟩,⟨HO4.out.blk.alloc _,HO4.out.new⟩,GV.start (HC4.out.alloc _),fun e=>(by cases e),fun e=>(by cases e),fun e=>by have:=HO4.out.blk.lt;omega⟩
  go_loopw [20] (fun v wr=>v=.int .i64 0/\wr=w5.alloc (.cells #[.int .i64 7,.int .i64 0,.string ⟨#[]⟩,.slice none 0 0] 25)) (fun _ _=>0)
  case atStart=>exact⟨rfl,rfl⟩
  case round =>
   obtain⟨rfl,hwr⟩:=hrel;rw [<- hwr] at HX;obtain⟨g4,hg4⟩:∃ g,g=w5.heap.size:=⟨_,rfl⟩
   rw [<- hg4] at HX ⊢;clear hwr hg4;have q0:=HX.out.b.blk.cell 0;have q1:=HX.out.b.blk.cell 1;have q2:=HX.out.b.blk.cell 2;have q3:=HX.out.b.blk.cell 3;have z0:=HX.out.o.blk.frozen 0;have z1:=HX.out.o.blk.frozen 1;have z2:=HX.out.o.blk.frozen 2;have z3:=HX.out.o.blk.frozen 3;have y0:=HX.out.o.blk.cell 0;have y1:=HX.out.o.blk.cell 1;have y2:=HX.out.o.blk.cell 2;have y3:=HX.out.o.blk.cell 3;simp at q0 q1 q2 q3 y0 y1 y2 y3;go_wp2_with fail;try simp only [Exit.noGoto_ret]
   clear y0 y1 y2 y3;obtain⟨hb,hvv,hcc⟩:=HX.out.fin (k:=7) (n:=0) (s:=⟨#[]⟩) rfl (by unfold maxLen;omega) (by decide) (by decide) (by decide) _ rfl;have r0:=hb.blk.cell 0;have r1:=hb.blk.cell 1;have r2:=hb.blk.cell 2;have r3:=hb.blk.cell 3;simp at r0 r1 r2 r3;refine bodyPost_ret (v:=.agg #[.int .i64 7,.int .i64 0,.string ⟨#[]⟩,.slice none 0 0]) (by simp [results,Tryz.results26,go_sem,r0,r1,r2,r3]) rfl ?_;exact⟨⟨7,0,⟨#[]⟩,none,0,0⟩,rfl,hvv,hcc⟩
 |some ad =>
  go_enter Tryz.func26,Tryz.ntmps26
  go_upto_region 5 with(first
   |(go_at_call 53;refine(HCK.out _).mono ?_;rintro e w3 ⟨rfl,rfl⟩)
   |(go_at_call 52;refine HCC.out.mono ?_;rintro e w4 ⟨v,rfl,hrow,hb4⟩;obtain⟨A1,c1,rfl,_⟩:=z0n hrow;have HC4:=kf (((HC1.out.alloc _).alloc _).trans (Chg.of_below (S:=NoS) hb4) (fun _ _ e=>e));have HO4:=kf (((HO.out.alloc _).alloc _).call (Chg.of_below (S:=NoS) hb4));clear hrow hb4)
   |(go_at_call 54;refine(HSN.out _ _ _).mono ?_;rintro e w5 ⟨rfl,h5⟩;subst h5))
  have HX:Hid (Bx w (w5.alloc (.cells #[.int .i64 7,.int .i64 0,.string ⟨#[]⟩,.slice none 0 0] 25)) w5.heap.size w.heap.size #[.int .i64 7,.int .i64 0,.string ⟨#[]⟩,.slice none 0 0] #[.int .i64 0,.int .i64 0,.string ⟨#[]⟩,.slice none 0 0] [] [] 0 none 0) :=
   ⟨⟨Blk.new _ _ _,HC4.out.size⟩,⟨HO4.out.blk.alloc _,HO4.out.new⟩,GV.start (HC4.out.alloc _),fun e=>(by cases e),fun e=>(by cases e),fun e=>by have:=HO4.out.blk.lt;omega⟩
  go_loopw [20] (fun v wr=>v=.int .i64 0/\wr=w5.alloc (.cells #[.int .i64 7,.int .i64 0,.string ⟨#[]⟩,.slice none 0 0] 25)) (fun _ _=>0)
  case atStart=>exact⟨rfl,rfl⟩
  case round =>
   obtain⟨rfl,hwr⟩:=hrel;rw [<- hwr] at HX;obtain⟨g4,hg4⟩:∃ g,g=w5.heap.size:=⟨_,rfl⟩
   rw [<- hg4] at HX ⊢;clear hwr hg4;have q0:=HX.out.b.blk.cell 0;have q1:=HX.out.b.blk.cell 1;have q2:=HX.out.b.blk.cell 2;have q3:=HX.out.b.blk.cell 3;have z0:=HX.out.o.blk.frozen 0;have z1:=HX.out.o.blk.frozen 1;have z2:=HX.out.o.blk.frozen 2;have z3:=HX.out.o.blk.frozen 3;have y0:=HX.out.o.blk.cell 0;have y1:=HX.out.o.blk.cell 1;have y2:=HX.out.o.blk.cell 2;have y3:=HX.out.o.blk.cell 3;simp at q0 q1 q2 q3 y0 y1 y2 y3;go_wp2_with fail;try simp only [Exit.noGoto_ret]
   clear y0 y1 y2 y3;obtain⟨hb,hvv,hcc⟩:=HX.out.fin (k:=7) (n:=0) (s:=⟨#[]⟩) rfl (by unfold maxLen;omega) (by decide) (by decide) (by decide) _ rfl;have r0:=hb.blk.cell 0;have r1:=hb.blk.cell 1;have r2:=hb.blk.cell 2;have r3:=hb.blk.cell 3;simp at r0 r1 r2 r3;refine bodyPost_ret (v:=.agg #[.int .i64 7,.int .i64 0,.string ⟨#[]⟩,.slice none 0 0]) (by simp [results,Tryz.results26,go_sem,r0,r1,r2,r3]) rfl ?_;exact⟨⟨7,0,⟨#[]⟩,none,0,0⟩,rfl,hvv,hcc⟩
theorem y1u {l:List VT} (h:l.length<=1):z5j l=[]:=by
 unfold z5j;rw [show l.length / 2=0 by omega];rfl
end Go.Proofs.YtnhlalkeaaiefaaGreatDoor
