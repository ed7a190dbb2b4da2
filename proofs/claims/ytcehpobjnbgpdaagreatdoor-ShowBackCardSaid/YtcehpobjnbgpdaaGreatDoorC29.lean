/- Merged by program. -/
import Derived.Test.YtcehpobjnbgpdaaGreatDoorC23
import Derived.Test.YtcehpobjnbgpdaaGreatDoorC26
set_option linter.unusedVariables false
set_option linter.unusedSimpArgs false
namespace Go.Proofs.YtcehpobjnbgpdaaGreatDoor
open Go.RowKit
def V12To (w:World) (v:VT) (q:Nat) (e:Ending) (w':World):Prop:=∃ u:VC,e=.returned (.tuple #[u.val,.int .i64 (q:Nat),.int .i64 0])/\Ins (fun i=>i<w.heap.size) w' v u/\Chg NoS w w'
set_option maxHeartbeats 4000000 in
set_option maxRecDepth 100000 in
theorem r12val_tok (bs:List Nat) (A:Option Addr) (c:Nat) (last:Bool) (w:World) (hl:bs.length<=400000) (t:Tkn) (deep:Nat) (hd:deep<64) (hk:t.kind=1) (h2:t.vk≠2) (hv:TokV bs.length t) :
  Calls Tryz.prog 68 #[.slice A bs.length c,tknV t,.bool last,.int .i64 (deep:Nat)] w (V12To w (tokV t) t.to):=by
 have HIN:=kf (fun W=>tokV_ins (O:=fun i=>i<w.heap.size) (w:=W) hv hl)
 have HWH:=kf (fun W=>r12whole_any t W)
 obtain⟨tk,tf,tt_,tvk,tvn,tvs,ts⟩:=t
 simp only [] at hk h2 HIN HWH
 obtain⟨S6,hS6⟩:∃ S6,S6=sb tvs:=⟨_,rfl⟩
 obtain⟨S7,hS7⟩:∃ S7,S7=sb ts:=⟨_,rfl⟩
 subst hk
 unfold tknV at HWH ⊢
 unfold tokV at HIN ⊢
 simp only [] at HIN HWH ⊢
 rw [decide_eq_false (fun h=>h2 h.2)] at HWH
 rw [<- hS6,<- hS7] at HWH ⊢
 rw [<- hS6] at HIN
 have e1:decide ((64:Int)<=deep)=false:=by simp;omega
 have e2:decide ((deep:Int) ≥ 64)=false:=by simp;omega
 have e3:((tvk:Int)==6)=false\/True:=.inr trivial
 obtain⟨N,hN⟩:∃ N,N=bs.length:=⟨_,rfl⟩
 rw [<- hN]
 clear hl hd h2 hv hS6 hS7 hN e3
 rw [show((1:Nat):Int)=1 from rfl] at HWH ⊢
 have HB5:=kf ((((Blk.new w 67 #[.int .i64 1,.int .i64 (tf:Nat),.int .i64 (tt_:Nat),.int .i64 (tvk:Nat),.int .i64 tvn,.string S6,.slice none 0 0,.string S7]).alloc (.cells #[.int .i64 0,.int .i64 0,.string ⟨#[]⟩,.slice none 0 0] 24)).alloc (.cells #[.int .i64 0,.int .i64 0,.string ⟨#[]⟩,.slice none 0 0] 24)).alloc (.cells #[.int .i64 (tvk:Nat),.int .i64 tvn,.string S6,.slice none 0 0] 24))
 have HB8:=kf (((Blk.new (w.alloc (.cells #[.int .i64 1,.int .i64 (tf:Nat),.int .i64 (tt_:Nat),.int .i64 (tvk:Nat),.int .i64 tvn,.string S6,.slice none 0 0,.string S7] 67)) 24 #[.int .i64 0,.int .i64 0,.string ⟨#[]⟩,.slice none 0 0]).alloc (.cells #[.int .i64 0,.int .i64 0,.string ⟨#[]⟩,.slice none 0 0] 24)).alloc (.cells #[.int .i64 (tvk:Nat),.int .i64 tvn,.string S6,.slice none 0 0] 24))
 have HB11:=kf ((Blk.new ((w.alloc (.cells #[.int .i64 1,.int .i64 (tf:Nat),.int .i64 (tt_:Nat),.int .i64 (tvk:Nat),.int .i64 tvn,.string S6,.slice none 0 0,.string S7] 67)).alloc (.cells #[.int .i64 0,.int .i64 0,.string ⟨#[]⟩,.slice none 0 0] 24)) 24 #[.int .i64 0,.int .i64 0,.string ⟨#[]⟩,.slice none 0 0]).alloc (.cells #[.int .i64 (tvk:Nat),.int .i64 tvn,.string S6,.slice none 0 0] 24))
 have HB12:=kf (Blk.new (((w.alloc (.cells #[.int .i64 1,.int .i64 (tf:Nat),.int .i64 (tt_:Nat),.int .i64 (tvk:Nat),.int .i64 tvn,.string S6,.slice none 0 0,.string S7] 67)).alloc (.cells #[.int .i64 0,.int .i64 0,.string ⟨#[]⟩,.slice none 0 0] 24)).alloc (.cells #[.int .i64 0,.int .i64 0,.string ⟨#[]⟩,.slice none 0 0] 24)) 24 #[.int .i64 (tvk:Nat),.int .i64 tvn,.string S6,.slice none 0 0])
 have HC4:=kf (((((Chg.refl NoS w).alloc (.cells #[.int .i64 1,.int .i64 (tf:Nat),.int .i64 (tt_:Nat),.int .i64 (tvk:Nat),.int .i64 tvn,.string S6,.slice none 0 0,.string S7] 67)).alloc (.cells #[.int .i64 0,.int .i64 0,.string ⟨#[]⟩,.slice none 0 0] 24)).alloc (.cells #[.int .i64 0,.int .i64 0,.string ⟨#[]⟩,.slice none 0 0] 24)).alloc (.cells #[.int .i64 (tvk:Nat),.int .i64 tvn,.string S6,.slice none 0 0] 24))
 simp only [World.size_alloc] at HB8 HB11 HB12
 go_enter Tryz.func68,Tryz.ntmps68
 go_upto_region 23 with fail
 obtain⟨W4,hW4⟩:∃ W4,W4=((((w.alloc (.cells #[.int .i64 1,.int .i64 (tf:Nat),.int .i64 (tt_:Nat),.int .i64 (tvk:Nat),.int .i64 tvn,.string S6,.slice none 0 0,.string S7] 67)).alloc (.cells #[.int .i64 0,.int .i64 0,.string ⟨#[]⟩,.slice none 0 0] 24)).alloc (.cells #[.int .i64 0,.int .i64 0,.string ⟨#[]⟩,.slice none 0 0] 24)).alloc (.cells #[.int .i64 (tvk:Nat),.int .i64 tvn,.string S6,.slice none 0 0] 24)):=⟨_,rfl⟩
 rw [<- hW4] at HB5 HB8 HB11 HB12 HC4 ⊢
 obtain⟨g12,hg12⟩:∃ g12,g12=w.heap.size+1+1+1:=⟨_,rfl⟩
 rw [<- hg12] at HB12 ⊢
 obtain⟨g11,hg11⟩:∃ g11,g11=w.heap.size+1+1:=⟨_,rfl⟩
 rw [<- hg11] at HB11 ⊢
 obtain⟨g8,hg8⟩:∃ g8,g8=w.heap.size+1:=⟨_,rfl⟩
 rw [<- hg8] at HB8 ⊢
 obtain⟨g5,hg5⟩:∃ g5,g5=w.heap.size:=⟨_,rfl⟩
 rw [<- hg5] at HB5 ⊢
 have hge8:w.heap.size<=g8:=by omega
 have hge12:w.heap.size<=g12:=by omega
 have n812:g8≠g12:=by omega
 have n128:g12≠g8:=by omega
 have n512:g5≠g12:=by omega
 have n1112:g11≠g12:=by omega
 have n58:g5≠g8:=by omega
 have n118:g11≠g8:=by omega
 clear hW4 hg12 hg11 hg8 hg5
 obtain⟨q0,q1,q2,q3,q4,q5,q6,q7,_,_,_,_,_,_,_,_⟩:=HB5.out.cl8
 go_wp2_with (go_at_call 108;refine(HWH.out _).mono ?_;rintro e w6 ⟨rfl,hc6⟩;have HC6:=kf (HC4.out.trans hc6 (fun _ _ e=>e));have HB86:=kf (HB8.out.chg hc6 (fun e=>e));have HB126:=kf (HB12.out.chg hc6 (fun e=>e));clear q0 q1 q2 q3 q4 q5 q6 q7;obtain⟨r0,r1,r2,r3,z0,z1,z2,z3⟩:=HB86.out.cl4;obtain⟨k0,k1,k2,k3,l0,l1,l2,l3⟩:=HB126.out.cl4;clear hc6)
 refine bodyPost_ret (v:=.tuple #[.agg #[.int .i64 (tvk:Nat),.int .i64 tvn,.string S6,.slice none 0 0],.int .i64 (tt_:Nat),.int .i64 0]) (by simp [results,Tryz.results68,go_sem,r0,r1,r2,r3]) rfl ?_
 exact⟨_,rfl,HIN.out _,Chg.newc hge8 (Chg.newc hge8 (Chg.newc hge8 (Chg.newc hge8 HC6.out)))⟩
set_option maxHeartbeats 4000000 in
set_option maxRecDepth 100000 in
theorem r12val_true (bs:List Nat) (A:Option Addr) (c:Nat) (last:Bool) (w:World) (hl:bs.length<=400000) (t:Tkn) (deep:Nat) (hd:deep<64) (hk:t.kind=6) (h2:t.vk=0) (hn:t.vn=0) (hvs:t.vs=[]) (hs:sb t.s=⟨#[116,114,117,101]⟩) :
  Calls Tryz.prog 68 #[.slice A bs.length c,tknV t,.bool last,.int .i64 (deep:Nat)] w (V12To w (.mk 1 1 ⟨#[]⟩ []) t.to):=by
 have HIN:=kf (fun W=>ins_leaf (fun i=>i<w.heap.size) W 1 1 ⟨#[]⟩ (by decide) (by decide) (by decide))
 have HWH:=kf (fun W=>r12whole_any t W)
 obtain⟨tk,tf,tt_,tvk,tvn,tvs,ts⟩:=t
 simp only [] at hk h2 hn hvs hs HWH
 obtain⟨S6,hS6⟩:∃ S6,S6=sb tvs:=⟨_,rfl⟩
 obtain⟨S7,hS7⟩:∃ S7,S7=sb ts:=⟨_,rfl⟩
 subst hk h2 hn hvs
 unfold tknV at HWH ⊢
 simp only [] at HWH ⊢
 rw [decide_eq_false (fun h=>absurd h.1 (by decide))] at HWH
 rw [hs] at HWH ⊢
 rw [sb_nil] at HWH ⊢
 have e1:decide ((64:Int)<=deep)=false:=by simp;omega
 have e2:decide ((deep:Int) ≥ 64)=false:=by simp;omega
 obtain⟨N,hN⟩:∃ N,N=bs.length:=⟨_,rfl⟩
 rw [<- hN]
 clear hl hd hS6 hS7 hN hs
 rw [show((6:Nat):Int)=6 from rfl,show((0:Nat):Int)=0 from rfl] at HWH ⊢
 have HB5:=kf ((((Blk.new w 67 #[.int .i64 6,.int .i64 (tf:Nat),.int .i64 (tt_:Nat),.int .i64 0,.int .i64 0,.string ⟨#[]⟩,.slice none 0 0,.string ⟨#[116,114,117,101]⟩]).alloc (.cells #[.int .i64 0,.int .i64 0,.string ⟨#[]⟩,.slice none 0 0] 24)).alloc (.cells #[.int .i64 0,.int .i64 0,.string ⟨#[]⟩,.slice none 0 0] 24)).alloc (.cells #[.int .i64 0,.int .i64 0,.string ⟨#[]⟩,.slice none 0 0] 24))
 have HB8:=kf (((Blk.new (w.alloc (.cells #[.int .i64 6,.int .i64 (tf:Nat),.int .i64 (tt_:Nat),.int .i64 0,.int .i64 0,.string ⟨#[]⟩,.slice none 0 0,.string ⟨#[116,114,117,101]⟩] 67)) 24 #[.int .i64 0,.int .i64 0,.string ⟨#[]⟩,.slice none 0 0]).alloc (.cells #[.int .i64 0,.int .i64 0,.string ⟨#[]⟩,.slice none 0 0] 24)).alloc (.cells #[.int .i64 0,.int .i64 0,.string ⟨#[]⟩,.slice none 0 0] 24))
 have HB11:=kf ((Blk.new ((w.alloc (.cells #[.int .i64 6,.int .i64 (tf:Nat),.int .i64 (tt_:Nat),.int .i64 0,.int .i64 0,.string ⟨#[]⟩,.slice none 0 0,.string ⟨#[116,114,117,101]⟩] 67)).alloc (.cells #[.int .i64 0,.int .i64 0,.string ⟨#[]⟩,.slice none 0 0] 24)) 24 #[.int .i64 0,.int .i64 0,.string ⟨#[]⟩,.slice none 0 0]).alloc (.cells #[.int .i64 0,.int .i64 0,.string ⟨#[]⟩,.slice none 0 0] 24))
 have HB12:=kf (Blk.new (((w.alloc (.cells #[.int .i64 6,.int .i64 (tf:Nat),.int .i64 (tt_:Nat),.int .i64 0,.int .i64 0,.string ⟨#[]⟩,.slice none 0 0,.string ⟨#[116,114,117,101]⟩] 67)).alloc (.cells #[.int .i64 0,.int .i64 0,.string ⟨#[]⟩,.slice none 0 0] 24)).alloc (.cells #[.int .i64 0,.int .i64 0,.string ⟨#[]⟩,.slice none 0 0] 24)) 24 #[.int .i64 0,.int .i64 0,.string ⟨#[]⟩,.slice none 0 0])
 have HC4:=kf (((((Chg.refl NoS w).alloc (.cells #[.int .i64 6,.int .i64 (tf:Nat),.int .i64 (tt_:Nat),.int .i64 0,.int .i64 0,.string ⟨#[]⟩,.slice none 0 0,.string ⟨#[116,114,117,101]⟩] 67)).alloc (.cells #[.int .i64 0,.int .i64 0,.string ⟨#[]⟩,.slice none 0 0] 24)).alloc (.cells #[.int .i64 0,.int .i64 0,.string ⟨#[]⟩,.slice none 0 0] 24)).alloc (.cells #[.int .i64 0,.int .i64 0,.string ⟨#[]⟩,.slice none 0 0] 24))
 simp only [World.size_alloc] at HB8 HB11 HB12
 go_enter Tryz.func68,Tryz.ntmps68
 go_upto_region 14 with fail
 obtain⟨W4,hW4⟩:∃ W4,W4=((((w.alloc (.cells #[.int .i64 6,.int .i64 (tf:Nat),.int .i64 (tt_:Nat),.int .i64 0,.int .i64 0,.string ⟨#[]⟩,.slice none 0 0,.string ⟨#[116,114,117,101]⟩] 67)).alloc (.cells #[.int .i64 0,.int .i64 0,.string ⟨#[]⟩,.slice none 0 0] 24)).alloc (.cells #[.int .i64 0,.int .i64 0,.string ⟨#[]⟩,.slice none 0 0] 24)).alloc (.cells #[.int .i64 0,.int .i64 0,.string ⟨#[]⟩,.slice none 0 0] 24)):=⟨_,rfl⟩
 rw [<- hW4] at HB5 HB8 HB11 HB12 HC4 ⊢
 obtain⟨g12,hg12⟩:∃ g12,g12=w.heap.size+1+1+1:=⟨_,rfl⟩
 rw [<- hg12] at HB12 ⊢
 obtain⟨g11,hg11⟩:∃ g11,g11=w.heap.size+1+1:=⟨_,rfl⟩
 rw [<- hg11] at HB11 ⊢
 obtain⟨g8,hg8⟩:∃ g8,g8=w.heap.size+1:=⟨_,rfl⟩
 rw [<- hg8] at HB8 ⊢
 obtain⟨g5,hg5⟩:∃ g5,g5=w.heap.size:=⟨_,rfl⟩
 rw [<- hg5] at HB5 ⊢
 have hge8:w.heap.size<=g8:=by omega
 have hge12:w.heap.size<=g12:=by omega
 have n812:g8≠g12:=by omega
 have n128:g12≠g8:=by omega
 have n512:g5≠g12:=by omega
 have n1112:g11≠g12:=by omega
 have n58:g5≠g8:=by omega
 have n118:g11≠g8:=by omega
 clear hW4 hg12 hg11 hg8 hg5
 obtain⟨q0,q1,q2,q3,q4,q5,q6,q7,_,_,_,_,_,_,_,_⟩:=HB5.out.cl8
 obtain⟨r0,r1,r2,r3,z0,z1,z2,z3⟩:=HB8.out.cl4
 obtain⟨p0,p1,p2,p3,_,_,_,_⟩:=HB11.out.cl4
 obtain⟨k0,k1,k2,k3,l0,l1,l2,l3⟩:=HB12.out.cl4
 go_upto_region 23 with fail
 have HS:=kf (set4_chg W4 g12 (.int .i64 1) (.int .i64 1) (.string ⟨#[]⟩) (.slice none 0 0))
 have HX5:=kf (HB5.out.chg HS.out n512)
 have HX8:=kf (HB8.out.chg HS.out n812)
 have HX11:=kf (HB11.out.chg HS.out n1112)
 have HX12:=kf (Blk.set4 HB12.out (.int .i64 1) (.int .i64 1) (.string ⟨#[]⟩) (.slice none 0 0))
 have HX:=kf (HC4.out.trans HS.out (fun i hi e=>by omega:∀ i,i<w.heap.size->i=g12->NoS i))
 clear q0 q1 q2 q3 q4 q5 q6 q7 r0 r1 r2 r3 z0 z1 z2 z3 p0 p1 p2 p3 k0 k1 k2 k3 l0 l1 l2 l3 HB5 HB8 HB11 HB12 HC4 HS
 have HB5:=HX5
 have HB8:=HX8
 have HB11:=HX11
 have HB12:=HX12
 have HC4:=HX
 clear HX5 HX8 HX11 HX12 HX
 generalize ((((W4.setCell ⟨g12,0,none⟩ (.int .i64 1)).setCell ⟨g12,1,none⟩ (.int .i64 1)).setCell ⟨g12,2,none⟩ (.string ⟨#[]⟩)).setCell ⟨g12,3,none⟩ (.slice none 0 0))=W5 at HB5 HB8 HB11 HB12 HC4 ⊢
 obtain⟨q0,q1,q2,q3,q4,q5,q6,q7,_,_,_,_,_,_,_,_⟩:=HB5.out.cl8
 go_wp2_with (go_at_call 108;refine(HWH.out _).mono ?_;rintro e w6 ⟨rfl,hc6⟩;have HC6:=kf (HC4.out.trans hc6 (fun _ _ e=>e));have HB86:=kf (HB8.out.chg hc6 (fun e=>e));have HB126:=kf (HB12.out.chg hc6 (fun e=>e));clear q0 q1 q2 q3 q4 q5 q6 q7;obtain⟨r0,r1,r2,r3,z0,z1,z2,z3⟩:=HB86.out.cl4;obtain⟨k0,k1,k2,k3,l0,l1,l2,l3⟩:=HB126.out.cl4;clear hc6)
 refine bodyPost_ret (v:=.tuple #[.agg #[.int .i64 1,.int .i64 1,.string ⟨#[]⟩,.slice none 0 0],.int .i64 (tt_:Nat),.int .i64 0]) (by simp [results,Tryz.results68,go_sem,r0,r1,r2,r3]) rfl ?_
 exact⟨_,rfl,HIN.out _,Chg.newc hge8 (Chg.newc hge8 (Chg.newc hge8 (Chg.newc hge8 HC6.out)))⟩
set_option maxHeartbeats 4000000 in
set_option maxRecDepth 100000 in
theorem r12val_false (bs:List Nat) (A:Option Addr) (c:Nat) (last:Bool) (w:World) (hl:bs.length<=400000) (t:Tkn) (deep:Nat) (hd:deep<64) (hk:t.kind=6) (h2:t.vk=0) (hn:t.vn=0) (hvs:t.vs=[]) (hs:sb t.s=⟨#[102,97,108,115,101]⟩) :
  Calls Tryz.prog 68 #[.slice A bs.length c,tknV t,.bool last,.int .i64 (deep:Nat)] w (V12To w (.mk 1 0 ⟨#[]⟩ []) t.to):=by
 have HIN:=kf (fun W=>ins_leaf (fun i=>i<w.heap.size) W 1 0 ⟨#[]⟩ (by decide) (by decide) (by decide))
 have HWH:=kf (fun W=>r12whole_any t W)
 obtain⟨tk,tf,tt_,tvk,tvn,tvs,ts⟩:=t
 simp only [] at hk h2 hn hvs hs HWH
 obtain⟨S6,hS6⟩:∃ S6,S6=sb tvs:=⟨_,rfl⟩
 obtain⟨S7,hS7⟩:∃ S7,S7=sb ts:=⟨_,rfl⟩
 subst hk h2 hn hvs
 unfold tknV at HWH ⊢
 simp only [] at HWH ⊢
 rw [decide_eq_false (fun h=>absurd h.1 (by decide))] at HWH
 rw [hs] at HWH ⊢
 rw [sb_nil] at HWH ⊢
 have e1:decide ((64:Int)<=deep)=false:=by simp;omega
 have e2:decide ((deep:Int) ≥ 64)=false:=by simp;omega
 obtain⟨N,hN⟩:∃ N,N=bs.length:=⟨_,rfl⟩
 rw [<- hN]
 clear hl hd hS6 hS7 hN hs
 rw [show((6:Nat):Int)=6 from rfl,show((0:Nat):Int)=0 from rfl] at HWH ⊢
 have HB5:=kf ((((Blk.new w 67 #[.int .i64 6,.int .i64 (tf:Nat),.int .i64 (tt_:Nat),.int .i64 0,.int .i64 0,.string ⟨#[]⟩,.slice none 0 0,.string ⟨#[102,97,108,115,101]⟩]).alloc (.cells #[.int .i64 0,.int .i64 0,.string ⟨#[]⟩,.slice none 0 0] 24)).alloc (.cells #[.int .i64 0,.int .i64 0,.string ⟨#[]⟩,.slice none 0 0] 24)).alloc (.cells #[.int .i64 0,.int .i64 0,.string ⟨#[]⟩,.slice none 0 0] 24))
 have HB8:=kf (((Blk.new (w.alloc (.cells #[.int .i64 6,.int .i64 (tf:Nat),.int .i64 (tt_:Nat),.int .i64 0,.int .i64 0,.string ⟨#[]⟩,.slice none 0 0,.string ⟨#[102,97,108,115,101]⟩] 67)) 24 #[.int .i64 0,.int .i64 0,.string ⟨#[]⟩,.slice none 0 0]).alloc (.cells #[.int .i64 0,.int .i64 0,.string ⟨#[]⟩,.slice none 0 0] 24)).alloc (.cells #[.int .i64 0,.int .i64 0,.string ⟨#[]⟩,.slice none 0 0] 24))
 have HB11:=kf ((Blk.new ((w.alloc (.cells #[.int .i64 6,.int .i64 (tf:Nat),.int .i64 (tt_:Nat),.int .i64 0,.int .i64 0,.string ⟨#[]⟩,.slice none 0 0,.string ⟨#[102,97,108,115,101]⟩] 67)).alloc (.cells #[.int .i64 0,.int .i64 0,.string ⟨#[]⟩,.slice none 0 0] 24)) 24 #[.int .i64 0,.int .i64 0,.string ⟨#[]⟩,.slice none 0 0]).alloc (.cells #[.int .i64 0,.int .i64 0,.string ⟨#[]⟩,.slice none 0 0] 24))
 have HB12:=kf (Blk.new (((w.alloc (.cells #[.int .i64 6,.int .i64 (tf:Nat),.int .i64 (tt_:Nat),.int .i64 0,.int .i64 0,.string ⟨#[]⟩,.slice none 0 0,.string ⟨#[102,97,108,115,101]⟩] 67)).alloc (.cells #[.int .i64 0,.int .i64 0,.string ⟨#[]⟩,.slice none 0 0] 24)).alloc (.cells #[.int .i64 0,.int .i64 0,.string ⟨#[]⟩,.slice none 0 0] 24)) 24 #[.int .i64 0,.int .i64 0,.string ⟨#[]⟩,.slice none 0 0])
 have HC4:=kf (((((Chg.refl NoS w).alloc (.cells #[.int .i64 6,.int .i64 (tf:Nat),.int .i64 (tt_:Nat),.int .i64 0,.int .i64 0,.string ⟨#[]⟩,.slice none 0 0,.string ⟨#[102,97,108,115,101]⟩] 67)).alloc (.cells #[.int .i64 0,.int .i64 0,.string ⟨#[]⟩,.slice none 0 0] 24)).alloc (.cells #[.int .i64 0,.int .i64 0,.string ⟨#[]⟩,.slice none 0 0] 24)).alloc (.cells #[.int .i64 0,.int .i64 0,.string ⟨#[]⟩,.slice none 0 0] 24))
 simp only [World.size_alloc] at HB8 HB11 HB12
 go_enter Tryz.func68,Tryz.ntmps68
 go_upto_region 14 with fail
 obtain⟨W4,hW4⟩:∃ W4,W4=((((w.alloc (.cells #[.int .i64 6,.int .i64 (tf:Nat),.int .i64 (tt_:Nat),.int .i64 0,.int .i64 0,.string ⟨#[]⟩,.slice none 0 0,.string ⟨#[102,97,108,115,101]⟩] 67)).alloc (.cells #[.int .i64 0,.int .i64 0,.string ⟨#[]⟩,.slice none 0 0] 24)).alloc (.cells #[.int .i64 0,.int .i64 0,.string ⟨#[]⟩,.slice none 0 0] 24)).alloc (.cells #[.int .i64 0,.int .i64 0,.string ⟨#[]⟩,.slice none 0 0] 24)):=⟨_,rfl⟩
 rw [<- hW4] at HB5 HB8 HB11 HB12 HC4 ⊢
 obtain⟨g12,hg12⟩:∃ g12,g12=w.heap.size+1+1+1:=⟨_,rfl⟩
 rw [<- hg12] at HB12 ⊢
 obtain⟨g11,hg11⟩:∃ g11,g11=w.heap.size+1+1:=⟨_,rfl⟩
 rw [<- hg11] at HB11 ⊢
 obtain⟨g8,hg8⟩:∃ g8,g8=w.heap.size+1:=⟨_,rfl⟩
 rw [<- hg8] at HB8 ⊢
 obtain⟨g5,hg5⟩:∃ g5,g5=w.heap.size:=⟨_,rfl⟩
 rw [<- hg5] at HB5 ⊢
 have hge8:w.heap.size<=g8:=by omega
 have hge12:w.heap.size<=g12:=by omega
 have n812:g8≠g12:=by omega
 have n128:g12≠g8:=by omega
 have n512:g5≠g12:=by omega
 have n1112:g11≠g12:=by omega
 have n58:g5≠g8:=by omega
 have n118:g11≠g8:=by omega
 clear hW4 hg12 hg11 hg8 hg5
 obtain⟨q0,q1,q2,q3,q4,q5,q6,q7,_,_,_,_,_,_,_,_⟩:=HB5.out.cl8
 obtain⟨r0,r1,r2,r3,z0,z1,z2,z3⟩:=HB8.out.cl4
 obtain⟨p0,p1,p2,p3,_,_,_,_⟩:=HB11.out.cl4
 obtain⟨k0,k1,k2,k3,l0,l1,l2,l3⟩:=HB12.out.cl4
 go_upto_region 23 with fail
 have HS:=kf (set4_chg W4 g12 (.int .i64 1) (.int .i64 0) (.string ⟨#[]⟩) (.slice none 0 0))
 have HX5:=kf (HB5.out.chg HS.out n512)
 have HX8:=kf (HB8.out.chg HS.out n812)
 have HX11:=kf (HB11.out.chg HS.out n1112)
 have HX12:=kf (Blk.set4 HB12.out (.int .i64 1) (.int .i64 0) (.string ⟨#[]⟩) (.slice none 0 0))
 have HX:=kf (HC4.out.trans HS.out (fun i hi e=>by omega:∀ i,i<w.heap.size->i=g12->NoS i))
 clear q0 q1 q2 q3 q4 q5 q6 q7 r0 r1 r2 r3 z0 z1 z2 z3 p0 p1 p2 p3 k0 k1 k2 k3 l0 l1 l2 l3 HB5 HB8 HB11 HB12 HC4 HS
 have HB5:=HX5
 have HB8:=HX8
 have HB11:=HX11
 have HB12:=HX12
 have HC4:=HX
 clear HX5 HX8 HX11 HX12 HX
 generalize ((((W4.setCell ⟨g12,0,none⟩ (.int .i64 1)).setCell ⟨g12,1,none⟩ (.int .i64 0)).setCell ⟨g12,2,none⟩ (.string ⟨#[]⟩)).setCell ⟨g12,3,none⟩ (.slice none 0 0))=W5 at HB5 HB8 HB11 HB12 HC4 ⊢
 obtain⟨q0,q1,q2,q3,q4,q5,q6,q7,_,_,_,_,_,_,_,_⟩:=HB5.out.cl8
 go_wp2_with (go_at_call 108;refine(HWH.out _).mono ?_;rintro e w6 ⟨rfl,hc6⟩;have HC6:=kf (HC4.out.trans hc6 (fun _ _ e=>e));have HB86:=kf (HB8.out.chg hc6 (fun e=>e));have HB126:=kf (HB12.out.chg hc6 (fun e=>e));clear q0 q1 q2 q3 q4 q5 q6 q7;obtain⟨r0,r1,r2,r3,z0,z1,z2,z3⟩:=HB86.out.cl4;obtain⟨k0,k1,k2,k3,l0,l1,l2,l3⟩:=HB126.out.cl4;clear hc6)
 refine bodyPost_ret (v:=.tuple #[.agg #[.int .i64 1,.int .i64 0,.string ⟨#[]⟩,.slice none 0 0],.int .i64 (tt_:Nat),.int .i64 0]) (by simp [results,Tryz.results68,go_sem,r0,r1,r2,r3]) rfl ?_
 exact⟨_,rfl,HIN.out _,Chg.newc hge8 (Chg.newc hge8 (Chg.newc hge8 (Chg.newc hge8 HC6.out)))⟩
set_option maxHeartbeats 4000000 in
set_option maxRecDepth 100000 in
theorem r12val_null (bs:List Nat) (A:Option Addr) (c:Nat) (last:Bool) (w:World) (hl:bs.length<=400000) (t:Tkn) (deep:Nat) (hd:deep<64) (hk:t.kind=6) (h2:t.vk=0) (hn:t.vn=0) (hvs:t.vs=[]) (hs:sb t.s=⟨#[110,117,108,108]⟩) :
  Calls Tryz.prog 68 #[.slice A bs.length c,tknV t,.bool last,.int .i64 (deep:Nat)] w (V12To w (.mk 0 0 ⟨#[]⟩ []) t.to):=by
 have HIN:=kf (fun W=>ins_leaf (fun i=>i<w.heap.size) W 0 0 ⟨#[]⟩ (by decide) (by decide) (by decide))
 have HWH:=kf (fun W=>r12whole_any t W)
 obtain⟨tk,tf,tt_,tvk,tvn,tvs,ts⟩:=t
 simp only [] at hk h2 hn hvs hs HWH
 obtain⟨S6,hS6⟩:∃ S6,S6=sb tvs:=⟨_,rfl⟩
 obtain⟨S7,hS7⟩:∃ S7,S7=sb ts:=⟨_,rfl⟩
 subst hk h2 hn hvs
 unfold tknV at HWH ⊢
 simp only [] at HWH ⊢
 rw [decide_eq_false (fun h=>absurd h.1 (by decide))] at HWH
 rw [hs] at HWH ⊢
 rw [sb_nil] at HWH ⊢
 have e1:decide ((64:Int)<=deep)=false:=by simp;omega
 have e2:decide ((deep:Int) ≥ 64)=false:=by simp;omega
 obtain⟨N,hN⟩:∃ N,N=bs.length:=⟨_,rfl⟩
 rw [<- hN]
 clear hl hd hS6 hS7 hN hs
 rw [show((6:Nat):Int)=6 from rfl,show((0:Nat):Int)=0 from rfl] at HWH ⊢
 have HB5:=kf ((((Blk.new w 67 #[.int .i64 6,.int .i64 (tf:Nat),.int .i64 (tt_:Nat),.int .i64 0,.int .i64 0,.string ⟨#[]⟩,.slice none 0 0,.string ⟨#[110,117,108,108]⟩]).alloc (.cells #[.int .i64 0,.int .i64 0,.string ⟨#[]⟩,.slice none 0 0] 24)).alloc (.cells #[.int .i64 0,.int .i64 0,.string ⟨#[]⟩,.slice none 0 0] 24)).alloc (.cells #[.int .i64 0,.int .i64 0,.string ⟨#[]⟩,.slice none 0 0] 24))
 have HB8:=kf (((Blk.new (w.alloc (.cells #[.int .i64 6,.int .i64 (tf:Nat),.int .i64 (tt_:Nat),.int .i64 0,.int .i64 0,.string ⟨#[]⟩,.slice none 0 0,.string ⟨#[110,117,108,108]⟩] 67)) 24 #[.int .i64 0,.int .i64 0,.string ⟨#[]⟩,.slice none 0 0]).alloc (.cells #[.int .i64 0,.int .i64 0,.string ⟨#[]⟩,.slice none 0 0] 24)).alloc (.cells #[.int .i64 0,.int .i64 0,.string ⟨#[]⟩,.slice none 0 0] 24))
 have HB11:=kf ((Blk.new ((w.alloc (.cells #[.int .i64 6,.int .i64 (tf:Nat),.int .i64 (tt_:Nat),.int .i64 0,.int .i64 0,.string ⟨#[]⟩,.slice none 0 0,.string ⟨#[110,117,108,108]⟩] 67)).alloc (.cells #[.int .i64 0,.int .i64 0,.string ⟨#[]⟩,.slice none 0 0] 24)) 24 #[.int .i64 0,.int .i64 0,.string ⟨#[]⟩,.slice none 0 0]).alloc (.cells #[.int .i64 0,.int .i64 0,.string ⟨#[]⟩,.slice none 0 0] 24))
 have HB12:=kf (Blk.new (((w.alloc (.cells #[.int .i64 6,.int .i64 (tf:Nat),.int .i64 (tt_:Nat),.int .i64 0,.int .i64 0,.string ⟨#[]⟩,.slice none 0 0,.string ⟨#[110,117,108,108]⟩] 67)).alloc (.cells #[.int .i64 0,.int .i64 0,.string ⟨#[]⟩,.slice none 0 0] 24)).alloc (.cells #[.int .i64 0,.int .i64 0,.string ⟨#[]⟩,.slice none 0 0] 24)) 24 #[.int .i64 0,.int .i64 0,.string ⟨#[]⟩,.slice none 0 0])
 have HC4:=kf (((((Chg.refl NoS w).alloc (.cells #[.int .i64 6,.int .i64 (tf:Nat),.int .i64 (tt_:Nat),.int .i64 0,.int .i64 0,.string ⟨#[]⟩,.slice none 0 0,.string ⟨#[110,117,108,108]⟩] 67)).alloc (.cells #[.int .i64 0,.int .i64 0,.string ⟨#[]⟩,.slice none 0 0] 24)).alloc (.cells #[.int .i64 0,.int .i64 0,.string ⟨#[]⟩,.slice none 0 0] 24)).alloc (.cells #[.int .i64 0,.int .i64 0,.string ⟨#[]⟩,.slice none 0 0] 24))
 simp only [World.size_alloc] at HB8 HB11 HB12
 go_enter Tryz.func68,Tryz.ntmps68
 go_upto_region 14 with fail
 obtain⟨W4,hW4⟩:∃ W4,W4=((((w.alloc (.cells #[.int .i64 6,.int .i64 (tf:Nat),.int .i64 (tt_:Nat),.int .i64 0,.int .i64 0,.string ⟨#[]⟩,.slice none 0 0,.string ⟨#[110,117,108,108]⟩] 67)).alloc (.cells #[.int .i64 0,.int .i64 0,.string ⟨#[]⟩,.slice none 0 0] 24)).alloc (.cells #[.int .i64 0,.int .i64 0,.string ⟨#[]⟩,.slice none 0 0] 24)).alloc (.cells #[.int .i64 0,.int .i64 0,.string ⟨#[]⟩,.slice none 0 0] 24)):=⟨_,rfl⟩
 rw [<- hW4] at HB5 HB8 HB11 HB12 HC4 ⊢
 obtain⟨g12,hg12⟩:∃ g12,g12=w.heap.size+1+1+1:=⟨_,rfl⟩
 rw [<- hg12] at HB12 ⊢
 obtain⟨g11,hg11⟩:∃ g11,g11=w.heap.size+1+1:=⟨_,rfl⟩
 rw [<- hg11] at HB11 ⊢
 obtain⟨g8,hg8⟩:∃ g8,g8=w.heap.size+1:=⟨_,rfl⟩
 rw [<- hg8] at HB8 ⊢
 obtain⟨g5,hg5⟩:∃ g5,g5=w.heap.size:=⟨_,rfl⟩
 rw [<- hg5] at HB5 ⊢
 have hge8:w.heap.size<=g8:=by omega
 have hge12:w.heap.size<=g12:=by omega
 have n812:g8≠g12:=by omega
 have n128:g12≠g8:=by omega
 have n512:g5≠g12:=by omega
 have n1112:g11≠g12:=by omega
 have n58:g5≠g8:=by omega
 have n118:g11≠g8:=by omega
 clear hW4 hg12 hg11 hg8 hg5
 obtain⟨q0,q1,q2,q3,q4,q5,q6,q7,_,_,_,_,_,_,_,_⟩:=HB5.out.cl8
 obtain⟨r0,r1,r2,r3,z0,z1,z2,z3⟩:=HB8.out.cl4
 obtain⟨p0,p1,p2,p3,_,_,_,_⟩:=HB11.out.cl4
 obtain⟨k0,k1,k2,k3,l0,l1,l2,l3⟩:=HB12.out.cl4
 go_upto_region 23 with fail
 have HS:=kf (set4_chg W4 g12 (.int .i64 0) (.int .i64 0) (.string ⟨#[]⟩) (.slice none 0 0))
 have HX5:=kf (HB5.out.chg HS.out n512)
 have HX8:=kf (HB8.out.chg HS.out n812)
 have HX11:=kf (HB11.out.chg HS.out n1112)
 have HX12:=kf (Blk.set4 HB12.out (.int .i64 0) (.int .i64 0) (.string ⟨#[]⟩) (.slice none 0 0))
 have HX:=kf (HC4.out.trans HS.out (fun i hi e=>by omega:∀ i,i<w.heap.size->i=g12->NoS i))
 clear q0 q1 q2 q3 q4 q5 q6 q7 r0 r1 r2 r3 z0 z1 z2 z3 p0 p1 p2 p3 k0 k1 k2 k3 l0 l1 l2 l3 HB5 HB8 HB11 HB12 HC4 HS
 have HB5:=HX5
 have HB8:=HX8
 have HB11:=HX11
 have HB12:=HX12
 have HC4:=HX
 clear HX5 HX8 HX11 HX12 HX
 generalize ((((W4.setCell ⟨g12,0,none⟩ (.int .i64 0)).setCell ⟨g12,1,none⟩ (.int .i64 0)).setCell ⟨g12,2,none⟩ (.string ⟨#[]⟩)).setCell ⟨g12,3,none⟩ (.slice none 0 0))=W5 at HB5 HB8 HB11 HB12 HC4 ⊢
 obtain⟨q0,q1,q2,q3,q4,q5,q6,q7,_,_,_,_,_,_,_,_⟩:=HB5.out.cl8
 go_wp2_with (go_at_call 108;refine(HWH.out _).mono ?_;rintro e w6 ⟨rfl,hc6⟩;have HC6:=kf (HC4.out.trans hc6 (fun _ _ e=>e));have HB86:=kf (HB8.out.chg hc6 (fun e=>e));have HB126:=kf (HB12.out.chg hc6 (fun e=>e));clear q0 q1 q2 q3 q4 q5 q6 q7;obtain⟨r0,r1,r2,r3,z0,z1,z2,z3⟩:=HB86.out.cl4;obtain⟨k0,k1,k2,k3,l0,l1,l2,l3⟩:=HB126.out.cl4;clear hc6)
 refine bodyPost_ret (v:=.tuple #[.agg #[.int .i64 0,.int .i64 0,.string ⟨#[]⟩,.slice none 0 0],.int .i64 (tt_:Nat),.int .i64 0]) (by simp [results,Tryz.results68,go_sem,r0,r1,r2,r3]) rfl ?_
 exact⟨_,rfl,HIN.out _,Chg.newc hge8 (Chg.newc hge8 (Chg.newc hge8 (Chg.newc hge8 HC6.out)))⟩
set_option maxHeartbeats 4000000 in
set_option maxRecDepth 100000 in
theorem r12val_num (bs:List Nat) (A:Option Addr) (c:Nat) (last:Bool) (w:World) (hS:Src w 1 A bs.length c (lcells bs)) (hl:bs.length<=400000) (hc:bs.length<=c) (hb:∀ x∈bs,x<256) (t:Tkn) (deep:Nat) (hd:deep<64) (hk:t.kind=1) (h2:t.vk=2) (hv:TokV bs.length t) (ht:t.to<=bs.length) (h:(refO bs last t).1=0) :
  Calls Tryz.prog 68 #[.slice A bs.length c,tknV t,.bool last,.int .i64 (deep:Nat)] w (V12To w (refO bs last t).2.1 (refO bs last t).2.2):=by
 have HIN:=kf (fun W=>tokV_ins (O:=fun i=>i<w.heap.size) (w:=W) hv hl)
 have HWH:=kf (fun W=>r12whole_any t W)
 have HRF:=kf (fun W (hW:Chg NoS w W)=>r12ref_any bs A c last W (Src.below (w0:=w) hS hW) hl hc hb t h2 ht h)
 have hvn:t.vn.natAbs<=2147483647:=by
  rcases hv.2 with g|g|g|g
  ·exact absurd g.1 (by rw [h2];decide)
  ·exact absurd g.1 (by rw [h2];decide)
  ·exact g.2.2
  ·exact absurd g.1 (by rw [h2];decide)
 unfold RfTo at HRF
 obtain⟨R,hR⟩:∃ R,R=refO bs last t:=⟨_,rfl⟩
 rw [<- hR] at HRF ⊢
 obtain⟨tk,tf,tt_,tvk,tvn,tvs,ts⟩:=t
 simp only [] at hk h2 HIN HWH HRF hvn
 obtain⟨S6,hS6⟩:∃ S6,S6=sb tvs:=⟨_,rfl⟩
 obtain⟨S7,hS7⟩:∃ S7,S7=sb ts:=⟨_,rfl⟩
 subst hk h2
 have HI8:=kf (fun W=>ins_leaf (fun i=>i<w.heap.size) W 8 tvn ⟨#[]⟩ (by decide) (by omega) (by decide))
 unfold tknV at HWH ⊢
 unfold tokV at HIN HRF
 simp only [] at HIN HWH HRF ⊢
 rw [<- hS6,<- hS7] at HWH ⊢
 rw [<- hS6] at HIN HRF
 have e1:decide ((64:Int)<=deep)=false:=by simp;omega
 have e2:decide ((deep:Int) ≥ 64)=false:=by simp;omega
 obtain⟨N,hN⟩:∃ N,N=bs.length:=⟨_,rfl⟩
 rw [<- hN] at HRF ⊢
 clear hl hd hv hS6 hS7 hN hS hc hb ht h hR hvn
 (try simp only [and_self,decide_true] at HWH)
 rw [show((1:Nat):Int)=1 from rfl,show((2:Nat):Int)=2 from rfl] at HWH ⊢
 have HB5:=kf ((((Blk.new w 67 #[.int .i64 1,.int .i64 (tf:Nat),.int .i64 (tt_:Nat),.int .i64 2,.int .i64 tvn,.string S6,.slice none 0 0,.string S7]).alloc (.cells #[.int .i64 0,.int .i64 0,.string ⟨#[]⟩,.slice none 0 0] 24)).alloc (.cells #[.int .i64 0,.int .i64 0,.string ⟨#[]⟩,.slice none 0 0] 24)).alloc (.cells #[.int .i64 2,.int .i64 tvn,.string S6,.slice none 0 0] 24))
 have HB8:=kf (((Blk.new (w.alloc (.cells #[.int .i64 1,.int .i64 (tf:Nat),.int .i64 (tt_:Nat),.int .i64 2,.int .i64 tvn,.string S6,.slice none 0 0,.string S7] 67)) 24 #[.int .i64 0,.int .i64 0,.string ⟨#[]⟩,.slice none 0 0]).alloc (.cells #[.int .i64 0,.int .i64 0,.string ⟨#[]⟩,.slice none 0 0] 24)).alloc (.cells #[.int .i64 2,.int .i64 tvn,.string S6,.slice none 0 0] 24))
 have HB12:=kf (Blk.new (((w.alloc (.cells #[.int .i64 1,.int .i64 (tf:Nat),.int .i64 (tt_:Nat),.int .i64 2,.int .i64 tvn,.string S6,.slice none 0 0,.string S7] 67)).alloc (.cells #[.int .i64 0,.int .i64 0,.string ⟨#[]⟩,.slice none 0 0] 24)).alloc (.cells #[.int .i64 0,.int .i64 0,.string ⟨#[]⟩,.slice none 0 0] 24)) 24 #[.int .i64 2,.int .i64 tvn,.string S6,.slice none 0 0])
 have HC4:=kf (((((Chg.refl NoS w).alloc (.cells #[.int .i64 1,.int .i64 (tf:Nat),.int .i64 (tt_:Nat),.int .i64 2,.int .i64 tvn,.string S6,.slice none 0 0,.string S7] 67)).alloc (.cells #[.int .i64 0,.int .i64 0,.string ⟨#[]⟩,.slice none 0 0] 24)).alloc (.cells #[.int .i64 0,.int .i64 0,.string ⟨#[]⟩,.slice none 0 0] 24)).alloc (.cells #[.int .i64 2,.int .i64 tvn,.string S6,.slice none 0 0] 24))
 simp only [World.size_alloc] at HB8 HB12
 go_enter Tryz.func68,Tryz.ntmps68
 go_upto_region 23 with fail
 obtain⟨W4,hW4⟩:∃ W4,W4=((((w.alloc (.cells #[.int .i64 1,.int .i64 (tf:Nat),.int .i64 (tt_:Nat),.int .i64 2,.int .i64 tvn,.string S6,.slice none 0 0,.string S7] 67)).alloc (.cells #[.int .i64 0,.int .i64 0,.string ⟨#[]⟩,.slice none 0 0] 24)).alloc (.cells #[.int .i64 0,.int .i64 0,.string ⟨#[]⟩,.slice none 0 0] 24)).alloc (.cells #[.int .i64 2,.int .i64 tvn,.string S6,.slice none 0 0] 24)):=⟨_,rfl⟩
 rw [<- hW4] at HB5 HB8 HB12 HC4 ⊢
 obtain⟨g12,hg12⟩:∃ g12,g12=w.heap.size+1+1+1:=⟨_,rfl⟩
 rw [<- hg12] at HB12 ⊢
 obtain⟨g8,hg8⟩:∃ g8,g8=w.heap.size+1:=⟨_,rfl⟩
 rw [<- hg8] at HB8 ⊢
 obtain⟨g5,hg5⟩:∃ g5,g5=w.heap.size:=⟨_,rfl⟩
 rw [<- hg5] at HB5 ⊢
 have hge8:w.heap.size<=g8:=by omega
 have hge12:w.heap.size<=g12:=by omega
 have n812:g8≠g12:=by omega
 have n128:g12≠g8:=by omega
 clear hW4 hg12 hg8 hg5
 obtain⟨q0,q1,q2,q3,q4,q5,q6,q7,_,_,_,_,_,_,_,_⟩:=HB5.out.cl8
 go_upto_region 24 with(go_at_call 108;refine(HWH.out _).mono ?_;rintro e w6 ⟨rfl,hc6⟩;have HC6:=kf (HC4.out.trans hc6 (fun _ _ e=>e));have HB86:=kf (HB8.out.chg hc6 (fun e=>e));have HB126:=kf (HB12.out.chg hc6 (fun e=>e));clear q0 q1 q2 q3 q4 q5 q6 q7;obtain⟨k0,k1,k2,k3,l0,l1,l2,l3⟩:=HB126.out.cl4;clear hc6)
 go_upto_region 25 with(go_at_call 109;refine(HRF.out _ HC6.out).mono ?_;rintro e w7 ⟨is,z,rfl,hc7,href⟩;have HRI:=kf href;have HC7:=kf (HC6.out.trans hc7 (fun _ _ e=>e));have HB87:=kf (HB86.out.chg hc7 (fun e=>e));have HB127:=kf (HB126.out.chg hc7 (fun e=>e));clear k0 k1 k2 k3 l0 l1 l2 l3;clear hc7 href)
 obtain⟨r0,r1,r2,r3,z0,z1,z2,z3⟩:=HB87.out.cl4
 obtain⟨k0,k1,k2,k3,l0,l1,l2,l3⟩:=HB127.out.cl4
 cases is
 ·go_wp2_with fail
  refine bodyPost_ret (v:=.tuple #[.agg #[.int .i64 2,.int .i64 tvn,.string S6,.slice none 0 0],.int .i64 (tt_:Nat),.int .i64 0]) (by simp [results,Tryz.results68,go_sem,r0,r1,r2,r3]) rfl ?_
  refine⟨⟨2,tvn,S6,none,0,0⟩,?_,?_,Chg.newc hge8 (Chg.newc hge8 (Chg.newc hge8 (Chg.newc hge8 HC7.out)))⟩
  ·rw [HRI.out];rfl
  ·rw [HRI.out];exact HIN.out _
 ·go_wp2_with fail
  refine bodyPost_ret (v:=.tuple #[.agg #[.int .i64 8,.int .i64 tvn,.string ⟨#[]⟩,.slice none 0 0],.int .i64 (z:Nat),.int .i64 0]) (by simp [results,Tryz.results68,go_sem,r0,r1,r2,r3]) rfl ?_
  refine⟨⟨8,tvn,⟨#[]⟩,none,0,0⟩,?_,?_,Chg.newc hge8 (Chg.newc hge8 (Chg.newc hge8 (Chg.newc hge8 (Chg.newc hge12 (Chg.newc hge12 (Chg.newc hge12 (Chg.newc hge12 HC7.out)))))))⟩
  ·rw [HRI.out];rfl
  ·rw [HRI.out];exact HI8.out _
mutual
theorem reads_le {bs:List Nat} {last:Bool}:∀ {deep:Nat} {t:Tkn} {v:VT} {q:Nat},Reads bs last deep t v q->t.to<=bs.length->t.to<=q/\q<=bs.length
 |_,t,v,q,.leaf hk hd h,ht=>by
  unfold leafO at h
  split at h
  ·have h3:t.to=q:=congrArg (fun x=>x.2.2) h
   omega
  ·have h1:=ref_to (bs:=bs) (last:=last) ht (by rw [h])
   rw [h] at h1
   exact h1
 |_,t,_,q,.arr hk hd h,ht=>by have:=elems_le h ht;omega
 |_,t,_,q,.dict hk hd h,ht=>by have:=names_le h ht;omega
theorem elems_le {bs:List Nat} {last:Bool}:∀ {deep p:Nat} {l:List VT} {q:Nat},Elems bs last deep p l q->p<=bs.length->p+l.length<q/\q<=bs.length
 |_,p,_,_,.nil (t:=t) hp h hk,_=>by
  have hn:=next_tok bs p last hp
  rw [h] at hn
  rcases hn with hn|hn
  ·have:=hn.1;simp only [] at this;rw [this] at hk;cases hk
  ·have:=hn.2.2;simp only [List.length_nil] at this ⊢;omega
 |_,p,_,_,.cons (t:=t) (v:=v) (l:=l) hp h hv hl,_=>by
  have hn:=next_tok bs p last hp
  rw [h] at hn
  rcases hn with hn|hn
  ·have h0:=hn.1
   simp only [] at h0
   have:=reads_kind hv
   omega
  ·have h2:=hn.2.2
   simp only [] at h2
   have h3:=reads_le hv h2.2
   have h4:=elems_le hl h3.2
   rw [List.length_cons]
   omega
theorem names_le {bs:List Nat} {last:Bool}:∀ {deep p:Nat} {acc l:List VT} {q:Nat},Names bs last deep p acc l q->p<=bs.length->p<q/\q<=bs.length
 |_,p,_,_,_,.nil (t:=t) hp h hk,_=>by
  have hn:=next_tok bs p last hp
  rw [h] at hn
  rcases hn with hn|hn
  ·have:=hn.1;simp only [] at this;rw [this] at hk;cases hk
  ·have:=hn.2.2;simp only [] at this;omega
 |_,p,_,_,_,.cons (t:=t) (u:=u) hp hd h hk hn5 hno h2 hv hl,_=>by
  have hn:=next_tok bs p last hp
  rw [h] at hn
  rcases hn with hn|hn
  ·have h0:=hn.1
   simp only [] at h0
   omega
  ·have h3:=hn.2.2
   simp only [] at h3
   have hm:=next_tok bs t.to last h3.2
   rw [h2] at hm
   rcases hm with hm|hm
   ·have h0:=hm.1
    simp only [] at h0
    have:=reads_kind hv
    omega
   ·have h4:=hm.2.2
    simp only [] at h4
    have h5:=reads_le hv h4.2
    have h6:=names_le hl h5.2
    omega
end
structure RwA (w W:World) (es:List VC) (ts:List VT) (n:Nat) (A:Option Addr) (c:Nat):Prop where
 own:W.ownsRow 0 24 4 (.slice A n c) n (vcells es)
 chg:Chg NoS w W
 new:∀ g,ob A=some g->w.heap.size<=g
 len:es.length=n
 tlen:ts.length=n
 is:∀ (j:Nat) (t:VT) (e:VC),ts[j]?=some t->es[j]?=some e->Ins (fun i=>i<w.heap.size\/ob A=some i) W t e
theorem RwA.start {w W:World} (h:Chg NoS w W):RwA w W [] [] 0 none 0:=⟨own_nil W 0 _ 4,h,fun _ h=>(by cases h),rfl,rfl,fun j t e h=>(by simp at h)⟩
theorem RwA.call {w W W':World} {es:List VC} {ts:List VT} {n c:Nat} {A:Option Addr} (h:RwA w W es ts n A c) (hc:Chg NoS W W'):RwA w W' es ts n A c :=
 ⟨own_chg (S:=NoS) h.own hc (fun _ _ e=>e),h.chg.trans hc (fun _ _ e=>e),h.new,h.len,h.tlen,fun j t e h1 h2=>(h.is j t e h1 h2).chg hc⟩
theorem RwA.lt {w W:World} {es:List VC} {ts:List VT} {n c:Nat} {A:Option Addr} (h:RwA w W es ts n A c) {g:Nat} (hg:ob A=some g):g<W.heap.size:=own_lt h.own (by rw [ob_eq];exact hg)
theorem RwA.val {w W:World} {es:List VC} {ts:List VT} {n c:Nat} {A:Option Addr} (h:RwA w W es ts n A c) (k:Int) (hk:-9223372036854775808<=k/\k<=9223372036854775807):Ins (fun i=>i<w.heap.size) W (.mk k 0 ⟨#[]⟩ ts) ⟨k,0,⟨#[]⟩,A,n,c⟩ :=
 ins_row h.own (fun g hg e=>by have:=h.new g hg;omega) h.len h.tlen (fun j t e h1 h2=>(h.is j t e h1 h2).turn (Chg.refl _ _) (fun _ _ e=>.inl e)) hk (by decide) (Nat.zero_le _)
theorem appA {w wr W:World} {ops:Array Oper} {rest:List Oper} {o:Oper} {a:Act} {Q:Exit->Act->World->Prop} {es:List VC} {ts:List VT} {e:VC} {t:VT} {n c cx:Nat} {A X:Option Addr} (hgd:o.guard=none) (s x:Operand)
  (ho:o.op=.call { callee:=.builtin .append,args:=#[s,x],argTypes:=#[22,22] }) (hs:a.eval s=.slice A n c) (hx:a.eval x=.slice X 1 cx)
  (h:RwA w wr es ts n A c) (hc:Chg NoS wr W) (hn:n<=2000000000) (hsrc:Src W 4 X 1 cx (vcells [e])) (his:Ins (fun i=>i<wr.heap.size) W t e)
  (k:∀ A3 c3 w',RwA w w' (es++[e]) (ts++[t]) (n+1) A3 c3->wpList Tryz.prog ops Q rest (a.put o.dst (.slice A3 (n+1) c3)) w') :
  wpList Tryz.prog ops Q (o::rest) a W:=by
 obtain⟨i0,hi,hz0,hz1,hz2⟩:=info_partsV info_VC
 refine wpList_append_src hgd s x 22 ho 24 i0 _ 4 56 Tryz.underlying22 hi hz0 hz1 hz2 rfl (by decide) (.slice A n c) n (vcells es) hs (own_chg (S:=NoS) h.own hc (fun _ _ e=>e)) X 1 cx (vcells [e]) hx hsrc (vcells_cell _) (by unfold maxLen;omega) (by omega) ?_
 intro S2 w4 hown4 hgr4 hat4
 obtain⟨A4,c4,rfl,hA4⟩:=own_slice hown4
 have hsz:=h.chg.size
 have hsz2:=hc.size
 have hcw:Chg (fun i=>ob A=some i) W w4:=(Chg.refl _ W).grown hgr4 (fun kk e _=>by rwa [ob_eq] at e)
 have hat:ob A4=ob A\/ob A4=some W.heap.size:=by rw [<- ob_eq A4 (n+1) c4,<- ob_eq A n c];exact hat4
 have hback:∀ i,i<W.heap.size->i<w.heap.size\/ob A4=some i->i<w.heap.size\/ob A=some i:=fun i hi e=>by
  rcases e with e|e
  ·exact .inl e
  ·rcases hat with e2|e2
   ·exact .inr (e2 ▸ e)
   ·rw [e2] at e;cases e;omega
 refine k A4 c4 w4 ⟨by rw [vcells_app];exact hown4,?_,?_,by rw [List.length_append,h.len];rfl,by rw [List.length_append,h.tlen];rfl,fun j t' e' ht he=>?_⟩
 ·refine(h.chg.trans hc (fun _ _ e=>e)).trans hcw (fun i hi e=>?_)
  have:=h.new i e
  omega
 ·intro g hg
  rcases hat with e2|e2
  ·exact h.new g (by rw [<- e2];exact hg)
  ·rw [e2] at hg;cases hg;omega
 ·by_cases hj:j<n
  ·rw [List.getElem?_append_left (by rw [h.tlen];exact hj)] at ht
   rw [List.getElem?_append_left (by rw [h.len];exact hj)] at he
   exact Ins.turn ((h.is j t' e' ht he).chg hc) (hcw.mono (fun _ _ e=>.inr e)) hback
  ·rw [List.getElem?_append_right (by rw [h.tlen];omega),h.tlen] at ht
   rw [List.getElem?_append_right (by rw [h.len];omega),h.len] at he
   have hj0:j-n=0:=by
    have:=(List.getElem?_eq_some_iff.1 ht).1
    simp only [List.length_cons,List.length_nil] at this
    omega
   rw [hj0] at ht he
   cases ht
   cases he
   refine Ins.turn (O:=fun i=>i<w.heap.size\/ob A=some i) (his.turn (Chg.refl _ _) (fun i _ e=>?_)) (hcw.mono (fun _ _ e=>.inr e)) hback
   rcases e with e|e
   ·omega
   ·exact h.lt e
end Go.Proofs.YtcehpobjnbgpdaaGreatDoor
