import Derived.Test.YtnhlalkeaaiefaaGreatDoorE23
import Derived.Test.YtnhlalkeaaiefaaGreatDoorE24
import Derived.Test.YtnhlalkeaaiefaaGreatDoorE26
set_option linter.unusedVariables false
set_option maxHeartbeats 64000000
set_option maxRecDepth 100000
set_option linter.unusedSimpArgs false
namespace Go.Proofs.YtnhlalkeaaiefaaGreatDoor
open Go.RowKit
def v6y (B:Option Addr) (n d:Nat) (v:VC):Array Value:=#[.slice B n d,.int .i64 v.k,.int .i64 v.n,.string v.s,.slice v.A v.len v.cap]
def v9g (w:World) (r:XR) (e:Ending) (w':World):Prop :=
 ∃ (xs:List GC) (B:Option Addr) (d:Nat) (v:VC),e=.returned (.tuple #[.agg (v6y B xs.length d v),.int .i64 r.tz,.int .i64 r.e])/\xs.map GC.g=r.gs/\Ev (fun i=>i<w.heap.size) w' (z4v xs B d)/\Ins (fun i=>i<w.heap.size) w' r.v v/\Chg NoS w w'
theorem z8e (w:World) (g:Nat) (a b c d e:Value):Chg (fun i=>i=g) w (((((w.setCell ⟨g,0,none⟩ a).setCell ⟨g,1,none⟩ b).setCell ⟨g,2,none⟩ c).setCell ⟨g,3,none⟩ d).setCell ⟨g,4,none⟩ e) :=
 Chg.setCell (S:=fun i=>i=g) (z0l w g a b c d) (p:=⟨g,4,none⟩) (fun _=>rfl) e
theorem Blk.cl5 {w:World} {g:Nat} {T:TypeId} {x0 x1 x2 x3 x4:Value} (h:Blk w g T #[x0,x1,x2,x3,x4]):w.cell? ⟨g,0,none⟩=some x0/\w.cell? ⟨g,1,none⟩=some x1/\w.cell? ⟨g,2,none⟩=some x2/\w.cell? ⟨g,3,none⟩=some x3/\w.cell? ⟨g,4,none⟩=some x4/\w.frozen? ⟨g,0,none⟩=false/\w.frozen? ⟨g,1,none⟩=false/\w.frozen? ⟨g,2,none⟩=false/\w.frozen? ⟨g,3,none⟩=false/\w.frozen? ⟨g,4,none⟩=false :=
 ⟨h.cell 0,h.cell 1,h.cell 2,h.cell 3,h.cell 4,h.frozen 0,h.frozen 1,h.frozen 2,h.frozen 3,h.frozen 4⟩
theorem v7p (w:World):z4v [] none 0 w:=⟨⟨⟨rfl,fun _=>⟨rfl,rfl⟩,fun ad h=>(by cases h)⟩,Nat.le_refl _⟩,fun x hx=>(by cases hx)⟩
theorem y3w (bs:List Nat) (A:Option Addr) (c:Nat) (a:Int) (last:Bool) (w:World) (hB:RSrc w bs A c) :
  Calls Tryz.prog 18 #[.slice A bs.length c,.int .i64 a,.bool last] w (v9g w (v8j bs a last)):=by
 have HB2:=kf ((Blk.new w 36 #[.slice none 0 0,.int .i64 0,.int .i64 0,.string ⟨#[]⟩,.slice none 0 0]).alloc (.cells #[.slice A bs.length c,.int .i64 a,.bool last,.int .i64 0] 82));have hbr:=Blk.new (w.alloc (.cells #[.slice none 0 0,.int .i64 0,.int .i64 0,.string ⟨#[]⟩,.slice none 0 0] 36)) 82 #[.slice A bs.length c,.int .i64 a,.bool last,.int .i64 0];have hc2:=((Chg.refl NoS w).alloc (.cells #[.slice none 0 0,.int .i64 0,.int .i64 0,.string ⟨#[]⟩,.slice none 0 0] 36)).alloc (.cells #[.slice A bs.length c,.int .i64 a,.bool last,.int .i64 0] 82);rw [World.size_alloc] at hbr;obtain⟨R,hR⟩:∃ R,R=w.heap.size+1:=⟨_,rfl⟩
 obtain⟨g6,hg6⟩:∃ g6,g6=w.heap.size:=⟨_,rfl⟩
 have HG:Hid (g6=w.heap.size/\R=w.heap.size+1/\g6≠R):=⟨hg6,hR,by omega⟩
 rw [<- hR] at hbr;rw [<- hg6] at HB2;have h0:XB w bs A c R last (a,0) ((w.alloc (.cells #[.slice none 0 0,.int .i64 0,.int .i64 0,.string ⟨#[]⟩,.slice none 0 0] 36)).alloc (.cells #[.slice A bs.length c,.int .i64 a,.bool last,.int .i64 0] 82)):=⟨hbr,hc2,by omega⟩
 have HX0:=kf h0;have HS2:Hid (((w.alloc (.cells #[.slice none 0 0,.int .i64 0,.int .i64 0,.string ⟨#[]⟩,.slice none 0 0] 36)).alloc (.cells #[.slice A bs.length c,.int .i64 a,.bool last,.int .i64 0] 82)).heap.size=w.heap.size+2):=by show _=_;simp
 have HZO:=kf (show v8j bs a last=if (y3i bs last (z5h bs last 66 (z7k bs last z4d (a,0)) []).2).2.2≠0 then⟨[],z28,0,(y3i bs last (z5h bs last 66 (z7k bs last z4d (a,0)) []).2).2.2⟩ else⟨(z5h bs last 66 (z7k bs last z4d (a,0)) []).1,(y3i bs last (z5h bs last 66 (z7k bs last z4d (a,0)) []).2).1,(y3i bs last (z5h bs last 66 (z7k bs last z4d (a,0)) []).2).2.1,0⟩ from rfl);have hf1:=v6a (bs:=bs) (last:=last) (S:=z4d) (s:=(a,0));obtain⟨S1,hS1⟩:∃ S1,S1=z7k bs last z4d (a,0):=⟨_,rfl⟩
 have HW:=kf (fun W (hW:XB w bs A c R last (a,0) W)=>y9r hB hW z4d);rw [<- hS1] at HZO hf1 HW;have HGR:=kf (fun W (hW:XB w bs A c R last S1 W)=>y9x hB hW hf1);obtain⟨S2,hS2⟩:∃ S2,S2=z5h bs last 66 S1 []:=⟨_,rfl⟩
 rw [<- hS2] at HZO HGR;obtain⟨gs,s2⟩:=S2;simp only [] at HZO HGR;have HDI:=kf (fun W (hW:XB w bs A c R last s2 W)=>y5h hB hW);obtain⟨S3,hS3⟩:∃ S3,S3=y3i bs last s2:=⟨_,rfl⟩
 rw [<- hS3] at HZO HDI;obtain⟨t,ta,te⟩:=S3;simp only [] at HZO HDI;clear hbr hc2 hR hg6 h0 hB hf1 hS1 hS2 hS3;go_enter Tryz.func18,Tryz.ntmps18;go_upto_region 2 with fail;rw [<- HG.out.2.1,<- HG.out.1];obtain⟨w2,hw2⟩:∃ w2,w2=(w.alloc (.cells #[.slice none 0 0,.int .i64 0,.int .i64 0,.string ⟨#[]⟩,.slice none 0 0] 36)).alloc (.cells #[.slice A bs.length c,.int .i64 a,.bool last,.int .i64 0] 82):=⟨_,rfl⟩
 rw [<- hw2] at HB2 HX0 HS2 ⊢;clear hw2;go_upto_region 3 with(go_at_call 40;refine(HW.out _ HX0.out).mono ?_;rintro e w3 ⟨rfl,hr3,hc3⟩;have HX3:=kf hr3;have HB3:=kf (HB2.out.chg hc3 HG.out.2.2);have HZ3:=kf hc3.size;clear hr3 hc3);go_upto_region 4 with(go_at_call 41;refine(HGR.out _ HX3.out).mono ?_;rintro e w4 ⟨xs,B,d,rfl,hgs,hev4,hr4,hc4⟩;have HX4:=kf hr4;have HB4:=kf (HB3.out.chg hc4 HG.out.2.2);have HZ4:=kf hc4.size;have HGS:=kf hgs;have HEV4:=kf hev4;clear hr4 hc4 hgs hev4);go_upto_region 5 with(go_at_call 42;refine(HDI.out _ HX4.out).mono ?_;rintro e w5 ⟨⟨vk,vn,vs,vA,vl,vc⟩,rfl,hin5,hr5,hc5⟩;have HX5:=kf hr5;have HB5:=kf (HB4.out.chg hc5 HG.out.2.2);have HIN5:=kf hin5;have HEV5:=kf (HEV4.out.turn (O':=fun i=>i<w2.heap.size) (hc5.mono (fun i _ e=>by rw [e];have:=HG.out.2.1;have:=HS2.out;have:=HZ3.out;omega)) (fun i _ h=>by have:=HZ3.out;omega));have HZ5:=kf hc5.size;clear hr5 hc5 hin5;unfold VC.val;simp only []);have HA6:=kf ((Chg.refl NoS w5).alloc (.cells #[.int .i64 vk,.int .i64 vn,.string vs,.slice vA vl vc] 25));have HB11:=kf (Blk.new w5 25 #[.int .i64 vk,.int .i64 vn,.string vs,.slice vA vl vc]);have HX6:=kf (HX5.out.call HA6.out);have HB6:=kf (HB5.out.alloc (.cells #[.int .i64 vk,.int .i64 vn,.string vs,.slice vA vl vc] 25));have HEV6:=kf (HEV5.out.chg HA6.out);have HIN6:=kf (HIN5.out.chg HA6.out);obtain⟨W6,hW6⟩:∃ W6,W6=w5.alloc (.cells #[.int .i64 vk,.int .i64 vn,.string vs,.slice vA vl vc] 25):=⟨_,rfl⟩
 obtain⟨g11,hg11⟩:∃ g11,g11=w5.heap.size:=⟨_,rfl⟩
 have HN11:Hid (g11≠g6/\g11≠R/\g6≠g11/\R≠g11/\g6≠R/\R≠g6/\g6=w.heap.size):=by
  have h1:=HG.out;have h2:=HS2.out;have h3:=HZ3.out;have h4:=HZ4.out;have h5:=HZ5.out;show _/\_/\_/\_/\_/\_/\_;refine⟨?_,?_,?_,?_,?_,?_,?_⟩<;>omega
 have HIN7:=kf (HIN6.out.turn (O':=fun i=>i<w2.heap.size) (Chg.refl _ _) (fun i _ h=>by have:=HZ3.out;have:=HZ4.out;omega));rw [<- hW6] at HX6 HB6 HEV6 HIN7 HB11 ⊢;rw [<- hg11] at HB11 ⊢;clear hW6 hg11 HA6 HEV5 HIN5 HIN6 HX5 HB5 HX4 HB4 HX3 HB3 HEV4;obtain⟨q0,q1,q2,q3,z1,z3⟩:=HX6.out.cells;obtain⟨r0,r1,r2,r3,r4,u0,u1,u2,u3,u4⟩:=HB6.out.cl5;obtain⟨p0,p1,p2,p3,y0,y1,y2,y3⟩:=HB11.out.cl4;obtain⟨n1,n2,n3,n4,n5,n6,-⟩:=HN11.out;simp only [] at q1 q3;by_cases hte:te=0
 ·subst hte;have HZ:=kf (HZO.out.trans (if_neg (by simp)));clear HZO;go_upto_region 7 with fail;go_region
  all_goals
   try go_wp2_with fail
   refine bodyPost_ret (v:=.tuple #[.agg #[.slice B xs.length d,.int .i64 vk,.int .i64 vn,.string vs,.slice vA vl vc],.int .i64 ta,.int .i64 0]) (by simp [results,Tryz.results18,go_sem,r0,r1,r2,r3,r4]) rfl ?_;rw [HZ.out];have hlast:=(z8e W6.drew g6 (.slice B xs.length d) (.int .i64 vk) (.int .i64 vn) (.string vs) (.slice vA vl vc))
   have hO:∀ i,i=g6->i<w2.heap.size:=fun i e=>by have:=HG.out;have:=HS2.out;omega
   exact⟨xs,B,d,⟨vk,vn,vs,vA,vl,vc⟩,rfl,HGS.out,(HEV6.out.turn (O':=fun i=>i<w2.heap.size) ((Chg.refl _ W6).drew.trans (hlast.mono (fun i _ e=>hO i e)) (fun _ _ e=>e)) (fun _ _ h=>h)).turn (Chg.refl _ _) (fun i _ h=>by have:=HS2.out;omega),(HIN7.out.turn (O':=fun i=>i<w2.heap.size) ((Chg.refl _ W6).drew.trans (hlast.mono (fun i _ e=>hO i e)) (fun _ _ e=>e)) (fun _ _ h=>h)).turn (Chg.refl _ _) (fun i _ h=>by have:=HS2.out;omega),HX6.out.chg.trans ((Chg.refl _ W6).drew.trans hlast (fun _ _ e=>e)) (fun i hi e=>by have:=HG.out;omega)⟩
 ·have e1:(te==0)=false:=by simpa using hte
  have e2:(te != 0)=true:=by simpa using hte
  have HZ:=kf (HZO.out.trans (if_pos hte));clear HZO hte;go_upto_region 6 with fail;go_region
  all_goals
   try go_wp2_with fail
   refine bodyPost_ret (v:=.tuple #[.agg #[.slice none 0 0,.int .i64 0,.int .i64 0,.string ⟨#[]⟩,.slice none 0 0],.int .i64 0,.int .i64 te]) (by simp [results,Tryz.results18,go_sem,r0,r1,r2,r3,r4]) rfl ?_;rw [HZ.out];have hlast:=(z8e W6.drew g6 (.slice none 0 0) (.int .i64 0) (.int .i64 0) (.string ⟨#[]⟩) (.slice none 0 0))
   exact⟨[],none,0,⟨0,0,⟨#[]⟩,none,0,0⟩,rfl,rfl,fun V _=>v7p V,z25 _ _ 0 0 ⟨#[]⟩ (by decide) (by decide) (by decide),HX6.out.chg.trans ((Chg.refl _ W6).drew.trans hlast (fun _ _ e=>e)) (fun i hi e=>by have:=HG.out;omega)⟩
end Go.Proofs.YtnhlalkeaaiefaaGreatDoor
