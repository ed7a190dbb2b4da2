/- Merged by program. -/
import Derived.Test.YthejpkflcgjdoaaGreatDoorE26
import Derived.Test.YthejpkflcgjdoaaGreatDoorE29
set_option linter.unusedVariables false
set_option linter.unusedSimpArgs false
namespace Go.Proofs.YthejpkflcgjdoaaGreatDoor
open Go.RowKit
structure RSrc (w0:World) (bs:List Nat) (A:Option Addr) (c:Nat):Prop where
 src:Src w0 1 A bs.length c (lcells bs)
 len:bs.length<=400000
 cap:bs.length<=c
 byt:∀ x∈bs,x<256
abbrev Only (R:Nat):Nat->Prop:=fun i=>i=R
theorem only_set (W:World) (R i:Nat) (u:Value):Chg (Only R) W (W.setCell ⟨R,i,none⟩ u):=(Chg.refl (Only R) W).setCell (p:=⟨R,i,none⟩) (fun _=>rfl) u
theorem only_of {R:Nat} {W W':World} (h:Chg NoS W W'):Chg (Only R) W W':=h.mono (fun _ _ e=>e.elim)
theorem only_tr {R:Nat} {a b c:World} (h:Chg (Only R) a b) (k:Chg (Only R) b c):Chg (Only R) a c:=h.trans k (fun _ _ e=>e)
structure XB (w0:World) (bs:List Nat) (A:Option Addr) (c R:Nat) (last:Bool) (s:FS) (W:World):Prop where
 blk:Blk W R 82 #[.slice A bs.length c,.int .i64 s.1,.bool last,.int .i64 s.2]
 chg:Chg NoS w0 W
 new:w0.heap.size<=R
section
variable {w0 W W':World} {bs:List Nat} {A:Option Addr} {c R:Nat} {last:Bool} {s:FS}
theorem XB.call (h:XB w0 bs A c R last s W) (hc:Chg NoS W W'):XB w0 bs A c R last s W':=⟨h.blk.chg hc (fun e=>e),h.chg.trans hc (fun _ _ e=>e),h.new⟩
theorem XB.far {S:Nat->Prop} (h:XB w0 bs A c R last s W) (hc:Chg S W W') (hR:¬S R) (hS:∀ i,i<w0.heap.size->¬S i):XB w0 bs A c R last s W':=⟨h.blk.chg hc hR,h.chg.trans hc (fun i hi e=>absurd e (hS i hi)),h.new⟩
theorem XB.setA (h:XB w0 bs A c R last s W) (a:Int):XB w0 bs A c R last (a,s.2) (W.setCell ⟨R,1,none⟩ (.int .i64 a)) :=
 ⟨h.blk.set_ 1 _,h.chg.setCell (p:=⟨R,1,none⟩) (fun e=>absurd e (Nat.not_lt.2 h.new)) _,h.new⟩
theorem XB.setE (h:XB w0 bs A c R last s W) (e:Int):XB w0 bs A c R last (s.1,e) (W.setCell ⟨R,3,none⟩ (.int .i64 e)) :=
 ⟨h.blk.set_ 3 _,h.chg.setCell (p:=⟨R,3,none⟩) (fun e=>absurd e (Nat.not_lt.2 h.new)) _,h.new⟩
theorem XB.cells (h:XB w0 bs A c R last s W):W.cell? ⟨R,0,none⟩=some (.slice A bs.length c)/\W.cell? ⟨R,1,none⟩=some (.int .i64 s.1)/\W.cell? ⟨R,2,none⟩=some (.bool last)/\W.cell? ⟨R,3,none⟩=some (.int .i64 s.2)/\W.frozen? ⟨R,1,none⟩=false/\W.frozen? ⟨R,3,none⟩=false :=
 ⟨h.blk.cl4.c0,h.blk.cl4.c1,h.blk.cl4.c2,h.blk.cl4.c3,h.blk.frozen 1,h.blk.frozen 3⟩
theorem XB.lt (h:XB w0 bs A c R last s W):R<W.heap.size:=h.blk.lt
end
def XTo (w0:World) (bs:List Nat) (A:Option Addr) (c R:Nat) (last:Bool) (w:World) (v:Value) (s:FS) (e:Ending) (w':World):Prop:=e=.returned v/\XB w0 bs A c R last s w'/\Chg (Only R) w w'
set_option maxHeartbeats 2000000 in
theorem xask_any {w0 w:World} {bs:List Nat} {A:Option Addr} {c R:Nat} {last:Bool} {s:FS} (h:XB w0 bs A c R last s w) (x:Bool) :
  Calls Tryz.prog 77 #[.pointer (some ⟨R,0,none⟩),.bool x] w (XTo w0 bs A c R last w (.tuple #[]) (s.1,askX s.2 x)):=by
 obtain⟨a,e⟩:=s
 obtain⟨q0,q1,q2,q3,z1,z3⟩:=h.cells
 have HR:=kf h
 have HX:∀ y,askX e x=y->Hid (askX e x=y):=fun _ h=>h
 simp only [] at q1 q3
 clear h
 by_cases he:e=0
 ·subst he
  cases x with
  |true =>
   have HY:=HX 0 rfl
   clear HX
   go_enter Tryz.func77,Tryz.ntmps77
   go_wp2_with fail
   first|go_end0|go_ret|go_ret2
   exact⟨rfl,by rw [HY.out];exact HR.out,Chg.refl _ _⟩
  |false =>
   have HY:=HX 20 rfl
   clear HX
   go_enter Tryz.func77,Tryz.ntmps77
   go_wp2_with fail
   first|go_end0|go_ret|go_ret2
   exact⟨rfl,by rw [HY.out];exact HR.out.setE 20,only_set _ _ _ _⟩
 ·have e1:(e==0)=false:=by simpa using he
  have e2:(e != 0)=true:=by simpa using he
  have HY:=HX e (askX_err he)
  clear HX he
  go_enter Tryz.func77,Tryz.ntmps77
  go_wp2_with fail
  first|go_end0|go_ret|go_ret2
  exact⟨rfl,by rw [HY.out];exact HR.out,Chg.refl _ _⟩
set_option maxHeartbeats 1000000 in
theorem xfits_any (a b:Int) (w:World) (ha:-9223372036854775808<=a/\a<=9223372036854775807) (hb:-9223372036854775808<=b/\b<=9223372036854775807) :
  Calls Tryz.prog 65 #[.int .i64 a,.int .i64 b] w fun e w'=>e=.returned (.bool (fitsX a b))/\w=w':=by
 have HX:∀ y,fitsX a b=y->Hid (fitsX a b=y):=fun _ h=>h
 by_cases h1:0<=a
 ·by_cases h2:0<=b
  ·have hw:IntKind.i64.wrap (4097-b)=4097-b:=by rw [IntKind.wrap_i64];omega
   by_cases h3:a<=4097-b
   ·have HY:=HX true (by unfold fitsX;simp [h1,h2,h3])
    rw [HY.out]
    clear HX HY
    go_enter Tryz.func65,Tryz.ntmps65
    go_wp2_with fail
    go_ret
    exact⟨rfl,rfl⟩
   ·have HY:=HX false (by unfold fitsX;simp [h1,h2,h3])
    have d3:decide (a<=4097-b)=false:=by simpa using h3
    rw [HY.out]
    clear HX HY
    go_enter Tryz.func65,Tryz.ntmps65
    go_wp2_with fail
    go_ret
    exact⟨rfl,rfl⟩
  ·have HY:=HX false (by unfold fitsX;simp [h1,h2])
   have d2:decide (0<=b)=false:=by simpa using h2
   rw [HY.out]
   clear HX HY
   go_enter Tryz.func65,Tryz.ntmps65
   go_wp2_with fail
   go_ret
   exact⟨rfl,rfl⟩
 ·have HY:=HX false (by unfold fitsX;simp [h1])
  have d1:decide (0<=a)=false:=by simpa using h1
  rw [HY.out]
  clear HX HY
  go_enter Tryz.func65,Tryz.ntmps65
  go_wp2_with fail
  go_ret
  exact⟨rfl,rfl⟩
set_option maxHeartbeats 1000000 in
theorem xends_any (c:Nat) (w:World):Calls Tryz.prog 154 #[.int .u8 (c:Nat)] w fun e w'=>e=.returned (.bool (decide (c=32) || (decide (c=10) || decide (c=13))))/\w=w':=by
 have HX:∀ y,(decide (c=32) || (decide (c=10) || decide (c=13)))=y->Hid ((decide (c=32) || (decide (c=10) || decide (c=13)))=y):=fun _ h=>h
 by_cases h1:c=32
 ·subst h1
  have HY:=HX true rfl
  rw [HY.out]
  clear HX HY
  go_enter Tryz.func154,Tryz.ntmps154
  go_wp2_with fail
  go_ret
  exact⟨rfl,rfl⟩
 have r1:((c:Int)==32)=false:=by simp;omega
 by_cases h2:c=10
 ·subst h2
  have HY:=HX true rfl
  rw [HY.out]
  clear HX HY
  go_enter Tryz.func154,Tryz.ntmps154
  go_wp2_with fail
  go_ret
  exact⟨rfl,rfl⟩
 have r2:((c:Int)==10)=false:=by simp;omega
 by_cases h3:c=13
 ·subst h3
  have HY:=HX true rfl
  rw [HY.out]
  clear HX HY
  go_enter Tryz.func154,Tryz.ntmps154
  go_wp2_with fail
  go_ret
  exact⟨rfl,rfl⟩
 have r3:((c:Int)==13)=false:=by simp;omega
 have HY:=HX false (by simp [h1,h2,h3])
 rw [HY.out]
 clear HX HY h1 h2 h3
 go_enter Tryz.func154,Tryz.ntmps154
 go_wp2_with fail
 go_ret
 exact⟨rfl,rfl⟩
set_option maxHeartbeats 1000000 in
theorem xended_any (A:Option Addr) (n c:Nat) (a:Int) (last:Bool) (w:World) :
  Calls Tryz.prog 152 #[.agg #[.slice A n c,.int .i64 a,.bool last]] w fun e w'=>e=.returned (.int .i64 (endE last))/\Chg NoS w w':=by
 cases last with
 |true =>
  go_enter Tryz.func152,Tryz.ntmps152
  go_wp2_with fail
  go_ret
  exact⟨rfl,(Chg.refl NoS w).alloc _⟩
 |false =>
  go_enter Tryz.func152,Tryz.ntmps152
  go_wp2_with fail
  go_ret
  exact⟨rfl,(Chg.refl NoS w).alloc _⟩
set_option maxHeartbeats 4000000 in
set_option maxRecDepth 100000 in
theorem xwhl_any {w0 w:World} {bs:List Nat} {A:Option Addr} {c R:Nat} {last:Bool} {s:FS} (h:XB w0 bs A c R last s w) (t:Tkn) :
  Calls Tryz.prog 76 #[.pointer (some ⟨R,0,none⟩),tknV t] w (XTo w0 bs A c R last w (.int .i64 t.vn) (whlX t s)):=by
 obtain⟨tk,tf,tt_,tvk,tvn,tvs,ts⟩:=t
 obtain⟨a,e⟩:=s
 unfold tknV whlX
 simp only []
 obtain⟨S6,hS6⟩:∃ S6,S6=sb tvs:=⟨_,rfl⟩
 obtain⟨S7,hS7⟩:∃ S7,S7=sb ts:=⟨_,rfl⟩
 rw [<- hS6,<- hS7]
 have HB:=kf (Blk.new w 131 #[.int .i64 (tk:Nat),.int .i64 (tf:Nat),.int .i64 (tt_:Nat),.int .i64 (tvk:Nat),.int .i64 tvn,.string S6,.slice none 0 0,.string S7])
 have HC:=kf ((Chg.refl NoS w).alloc (.cells #[.int .i64 (tk:Nat),.int .i64 (tf:Nat),.int .i64 (tt_:Nat),.int .i64 (tvk:Nat),.int .i64 tvn,.string S6,.slice none 0 0,.string S7] 131))
 have HR:=kf (h.call HC.out)
 have HNE:Hid (R≠w.heap.size):=by have h1:=h.lt;show R≠_;omega
 clear hS6 hS7 h
 go_enter Tryz.func76,Tryz.ntmps76
 go_upto_region 1 with fail
 obtain⟨W1,hW1⟩:∃ W1,W1=w.alloc (.cells #[.int .i64 (tk:Nat),.int .i64 (tf:Nat),.int .i64 (tt_:Nat),.int .i64 (tvk:Nat),.int .i64 tvn,.string S6,.slice none 0 0,.string S7] 131):=⟨_,rfl⟩
 obtain⟨g3,hg3⟩:∃ g3,g3=w.heap.size:=⟨_,rfl⟩
 rw [<- hW1] at HB HC HR ⊢
 rw [<- hg3] at HB HNE ⊢
 clear hW1 hg3
 obtain⟨p0,p1,p2,p3,p4,p5,p6,p7,_,_,_,_,_,_,_,_⟩:=HB.out.cl8
 by_cases h2:tvk=2
 ·subst h2
  have HA:=kf (xask_any HR.out true)
  go_wp2_with (go_at_call 77;refine HA.out.mono ?_;rintro e w6 ⟨rfl,hr6,hc6⟩;have HR6:=kf hr6;have HC6:=kf (only_tr (only_of HC.out) hc6);have hb6:=HB.out.chg hc6 (fun e=>HNE.out e.symm);clear p0 p1 p2 p3 p4 p5 p6 p7;obtain⟨p0,p1,p2,p3,p4,p5,p6,p7,_,_,_,_,_,_,_,_⟩:=hb6.cl8;clear hr6 hc6 hb6)
  go_ret
  exact⟨rfl,HR6.out,HC6.out⟩
 ·have r1:((tvk:Int)==2)=false:=by simp;omega
  have HA:=kf (xask_any HR.out false)
  have HD:=kf (decide_eq_false h2)
  clear h2
  go_wp2_with (go_at_call 77;refine HA.out.mono ?_;rintro e w6 ⟨rfl,hr6,hc6⟩;have HR6:=kf hr6;have HC6:=kf (only_tr (only_of HC.out) hc6);have hb6:=HB.out.chg hc6 (fun e=>HNE.out e.symm);clear p0 p1 p2 p3 p4 p5 p6 p7;obtain⟨p0,p1,p2,p3,p4,p5,p6,p7,_,_,_,_,_,_,_,_⟩:=hb6.cl8;clear hr6 hc6 hb6)
  go_ret
  refine⟨rfl,?_,HC6.out⟩
  rw [HD.out]
  exact HR6.out
theorem xsrc_cut {w0:World} {bs:List Nat} {A:Option Addr} {c:Nat} (h:RSrc w0 bs A c) (p m:Nat) (hp:p+m<=bs.length):Src w0 1 (cutL A p c) m (c-p) (lcells ((bs.drop p).take m))/\((bs.drop p).take m).length=m/\∀ x∈(bs.drop p).take m,x<256:=by
 have hl:((bs.drop p).take m).length=m:=by rw [List.length_take,List.length_drop];omega
 have h1:=src_cutL (lo:=p) (m:=m) h.src h.cap hp
 have e:((lcells bs).drop p).take m=lcells ((bs.drop p).take m):=by unfold lcells;rw [List.map_take,List.map_drop]
 rw [e] at h1
 exact⟨h1,hl,fun x hx=>h.byt x (List.mem_of_mem_drop (List.mem_of_mem_take hx))⟩
theorem sb_cut (l:List Nat) (a b:Nat):(sb l).extract a b=sb ((l.drop a).take (b-a)):=by
 unfold sb
 apply ByteArray.ext
 rw [ByteArray.data_extract]
 simp only [List.extract_toArray,List.extract_eq_take_drop,List.map_drop,List.map_take]
theorem set3_chg (w:World) (g:Nat) (a b c:Value):Chg (fun i=>i=g) w (((w.setCell ⟨g,0,none⟩ a).setCell ⟨g,1,none⟩ b).setCell ⟨g,2,none⟩ c) :=
 Chg.setCell (S:=fun i=>i=g) (Chg.setCell (S:=fun i=>i=g) (Chg.setCell (S:=fun i=>i=g) (Chg.refl _ w) (p:=⟨g,0,none⟩) (fun _=>rfl) a) (p:=⟨g,1,none⟩) (fun _=>rfl) b) (p:=⟨g,2,none⟩) (fun _=>rfl) c
theorem Blk.cl3 {w:World} {g:Nat} {T:TypeId} {x0 x1 x2:Value} (h:Blk w g T #[x0,x1,x2]):w.cell? ⟨g,0,none⟩=some x0/\w.cell? ⟨g,1,none⟩=some x1/\w.cell? ⟨g,2,none⟩=some x2/\w.frozen? ⟨g,0,none⟩=false/\w.frozen? ⟨g,1,none⟩=false/\w.frozen? ⟨g,2,none⟩=false :=
 ⟨h.cell 0,h.cell 1,h.cell 2,h.frozen 0,h.frozen 1,h.frozen 2⟩
theorem str_1 {x y:Nat} (hx:x<256) (hy:y<256):((sb [x]).toList==[UInt8.ofNat y])=decide (x=y):=by
 rw [show(sb [x]).toList=[UInt8.ofNat x] from by kernel_rfl]
 by_cases h:x=y
 ·subst h;simp
 ·rw [decide_eq_false h]
  have h2:¬UInt8.ofNat x=UInt8.ofNat y:=fun e=>h (by
   have:=congrArg UInt8.toNat e
   rw [UInt8.toNat_ofNat',UInt8.toNat_ofNat'] at this
   omega)
  simpa using h2
structure LineS (l:List Nat) (S S1 S2 S3:ByteArray) (x10 x16 x17 x18:Nat):Prop where
 siz:S.size=19
 e1:S.extract 0 10=S1
 e2:S.extract 11 16=S2
 e3:S.extract 17 18=S3
 s1:sl S1=l.take 10
 s2:sl S2=(l.drop 11).take 5
 z1:S1.size=10
 z2:S2.size=5
 g10:∀ h:10<S.size,(S[10]'h).toNat=x10
 g16:∀ h:16<S.size,(S[16]'h).toNat=x16
 g18:∀ h:18<S.size,(S[18]'h).toNat=x18
 l10:l.getD 10 0=x10
 l16:l.getD 16 0=x16
 l17:l.getD 17 0=x17
 l18:l.getD 18 0=x18
 c3:S3=sb [x17]
 b17:x17<256
 b18:x18<256
theorem line_s {l:List Nat} (hl:l.length=19) (hb:∀ x∈l,x<256):∃ S1 S2 S3 x10 x16 x17 x18,LineS l (sb l) S1 S2 S3 x10 x16 x17 x18:=by
 have hz:(sb l).size=19:=by rw [sb_size,hl]
 have hg:∀ k,k<19->l.getD k 0<256:=fun k hk=>by
  rw [List.getD_eq_getElem?_getD,List.getElem?_eq_getElem (by omega)]
  exact hb _ (List.getElem_mem _)
 have hat:∀ k (h:k<(sb l).size),((sb l)[k]'h).toNat=l.getD k 0:=fun k h=>by rw [sl_at,sl_sb l hb]
 have e3:(l.drop 17).take 1=[l.getD 17 0]:=by
  rw [List.drop_eq_getElem_cons (by omega),List.getD_eq_getElem?_getD,List.getElem?_eq_getElem (by omega)]
  rfl
 refine⟨sb (l.take 10),sb ((l.drop 11).take 5),sb [l.getD 17 0],l.getD 10 0,l.getD 16 0,l.getD 17 0,l.getD 18 0,⟨hz,?_,?_,?_,sl_sb _ (fun x hx=>hb x (List.mem_of_mem_take hx)),sl_sb _ (fun x hx=>hb x (List.mem_of_mem_drop (List.mem_of_mem_take hx))),?_,?_,hat 10,hat 16,hat 18,rfl,rfl,rfl,rfl,rfl,hg 17 (by omega),hg 18 (by omega)⟩⟩
 ·rw [sb_cut,List.drop_zero]
 ·rw [sb_cut]
 ·rw [sb_cut,e3]
 ·rw [sb_size,List.length_take];omega
 ·rw [sb_size,List.length_take,List.length_drop];omega
set_option maxHeartbeats 16000000 in
set_option maxRecDepth 100000 in
theorem xent_any {w0 wi:World} {bs:List Nat} {A:Option Addr} {c R:Nat} {last:Bool} {p:Nat} (hB:RSrc w0 bs A c) (hi:XB w0 bs A c R last ((p:Nat),0) wi) (hp:p<=bs.length) :
  Calls Tryz.prog 111 #[.pointer (some ⟨R,0,none⟩)] wi (XTo w0 bs A c R last wi (.agg (entX bs last p).1.cells.toArray) (entX bs last p).2):=by
 have hlen:=hB.len
 have hcap:=hB.cap
 have HB:=kf hB
 have HLTi:Hid (R<wi.heap.size):=hi.lt
 have h:=hi.call ((Chg.refl NoS wi).alloc (.cells #[.int .i64 0,.int .i64 0,.bool false] 29))
 have hb2:=Blk.new wi 29 #[.int .i64 0,.int .i64 0,.bool false]
 have hci:=(Chg.refl NoS wi).alloc (.cells #[.int .i64 0,.int .i64 0,.bool false] 29)
 have hge2:w0.heap.size<=wi.heap.size:=hi.chg.size
 have HX:∀ y,entX bs last p=y->Hid (entX bs last p=y):=fun _ h=>h
 obtain⟨n,hn⟩:∃ n,n=bs.length:=⟨_,rfl⟩
 have HNL:=kf hn
 rw [<- hn] at hp hlen hcap
 by_cases hlt:n<p+19
 ·have HY:=HX (⟨0,0,false⟩,((p:Int),endE last)) (by unfold entX;rw [if_pos (by omega)])
  rw [HY.out]
  have HE:=kf (fun W=>xended_any A n c (p:Nat) last W)
  have d1:decide ((n:Int)-(p:Int)<19)=true:=by simp;omega
  obtain⟨ee,hee⟩:∃ ee,ee=endE last:=⟨_,rfl⟩
  rw [<- hee] at HE ⊢
  clear hee HX HY hlt hn HB hB
  go_enter Tryz.func111,Tryz.ntmps111
  go_upto_region 1 with fail
  obtain⟨w,hw⟩:∃ w,w=wi.alloc (.cells #[.int .i64 0,.int .i64 0,.bool false] 29):=⟨_,rfl⟩
  obtain⟨g2,hg2⟩:∃ g2,g2=wi.heap.size:=⟨_,rfl⟩
  have HG2:Hid (g2<w.heap.size/\R≠g2/\g2=wi.heap.size/\w0.heap.size<=g2):=by
   show _/\_/\_/\_
   have:=HLTi.out
   rw [hw,World.size_alloc]
   omega
  rw [<- hw] at h hb2 hci ⊢
  rw [<- hg2] at hb2 ⊢
  have HR:=kf h
  have HB2:=kf hb2
  have HCI:=kf hci
  obtain⟨q0,q1,q2,q3,z1,z3⟩:=h.cells
  simp only [] at q1 q3
  rw [<- HNL.out] at q0
  clear hw hg2 hi HLTi hge2 h hb2 hci
  go_quiet (fail)
  go_upto_region 3 with(go_at_call 152;refine(HE.out _).mono ?_;rintro e w2 ⟨rfl,hc2⟩;have HC2:=kf hc2;have HR2:=kf ((HR.out.call ((Chg.refl NoS w).drewN nq)).call hc2);obtain⟨x0,x1,x2,x3,y1,y3⟩:=HR2.out.cells;simp only [] at x1 x3;clear hc2)
  have HR3:=kf (HR2.out.setE ee)
  have HB3:=kf (((HB2.out.drewN nq).chg HC2.out (fun e=>e)).far (p:=⟨R,3,none⟩) (fun e=>HG2.out.2.1 e.symm) (.int .i64 ee))
  have HO3:=kf (only_tr (only_of (HCI.out.trans (((Chg.refl NoS w).drewN nq).trans HC2.out (fun _ _ e=>e)) (fun _ _ e=>e))) (only_set w2 R 3 (.int .i64 ee)))
  obtain⟨W3,hW3⟩:∃ W3,W3=w2.setCell ⟨R,3,none⟩ (.int .i64 ee):=⟨_,rfl⟩
  rw [<- hW3] at HR3 HB3 HO3 ⊢
  clear hW3 x0 x1 x2 x3 y1 y3 q0 q1 q2 q3 z1 z3
  obtain⟨r0,r1,r2,u0,u1,u2⟩:=HB3.out.cl3
  go_wp2_with fail
  refine bodyPost_ret (v:=.agg #[.int .i64 0,.int .i64 0,.bool false]) (by simp [results,Tryz.results111,go_sem,r0,r1,r2]) rfl ?_
  refine⟨rfl,HR3.out.far (set3_chg W3 g2 _ _ _) HG2.out.2.1 (fun i hi e=>by have:=HG2.out.2.2.2;omega),HO3.out.trans (set3_chg W3 g2 _ _ _) (fun i hi e=>by have:=HG2.out.2.2.1;omega)⟩
 ·obtain⟨q,hq⟩:∃ q,q=p+19:=⟨_,rfl⟩
  obtain⟨l,hl⟩:∃ l,l=(bs.drop p).take 19:=⟨_,rfl⟩
  have HY:=HX (lineX l,(((q:Nat):Int),lineE l)) (by unfold entX;rw [if_neg (by omega),<- hl,hq])
  rw [HY.out]
  obtain⟨hc1,hc2,hc3⟩:=xsrc_cut hB p 19 (by omega)
  rw [<- hl] at hc1 hc2 hc3
  obtain⟨b,off,hA,-⟩:=lcell hB.src (Chg.refl NoS w0) (by omega)
  subst hA
  obtain⟨S1,S2,S3,x10,x16,x17,x18,hLS⟩:=line_s hc2 hc3
  have hcv:∀ W,Chg NoS w0 W->(convert 32 9 (.slice (if c=p then some ⟨b,off,none⟩ else some ⟨b,off+p,none⟩) (q-p) (c-p))).run Tryz.prog W=.ok (.string (sb l)) W:=fun W hW=>by
   have h1:=conv_l (Src.below (w0:=w0) hc1 hW)
   rw [cutL_some] at h1
   rw [show q-p=19 by omega]
   exact h1
  have hncp:¬c=p:=by omega
  simp only [if_neg hncp] at hcv
  obtain⟨S,hS⟩:∃ S,S=sb l:=⟨_,rfl⟩
  rw [<- hS] at hcv hLS
  have HCV:=kf hcv
  have HLS:=kf hLS
  have eq1:(p:Int)+19=(q:Nat):=by omega
  have EQ1:=kf eq1
  have d1:decide ((n:Int)-(p:Int)<19)=false:=by simp;omega
  have p1:p<=q:=by omega
  have p2:q<=c:=by omega
  have p3:q<=400000:=by omega
  have ncp:(c==p)=false:=by simpa using hncp
  have HD1:=kf (fun W=>digits_any S1 W (by rw [hLS.z1];omega))
  have HD2:=kf (fun W=>digits_any S2 W (by rw [hLS.z2];omega))
  rw [hLS.s1] at HD1
  rw [hLS.s2] at HD2
  have HLX:=kf (show lineX l=⟨(dgOf (l.take 10)).1,(dgOf ((l.drop 11).take 5)).1,decide (x17=110)⟩ from by unfold lineX;rw [hLS.l17])
  have HLE:=kf (show lineE l=askX (askX (askX (askX 0 (decide ((dgOf (l.take 10)).2=0)&&(decide ((dgOf ((l.drop 11).take 5)).2=0)&&decide ((dgOf ((l.drop 11).take 5)).1<=65535)))) (decide (x10=32)&&decide (x16=32))) (decide (x17=110) || decide (x17=102))) (decide (x18=32) || (decide (x18=10) || decide (x18=13))) from by unfold lineE;rw [hLS.l10,hLS.l16,hLS.l17,hLS.l18])
  obtain⟨P1,hP1⟩:∃ P,P=dgOf (l.take 10):=⟨_,rfl⟩
  obtain⟨P2,hP2⟩:∃ P,P=dgOf ((l.drop 11).take 5):=⟨_,rfl⟩
  rw [<- hP1] at HD1 HLX HLE
  rw [<- hP2] at HD2 HLX HLE
  obtain⟨D1,E1⟩:=P1
  obtain⟨D2,E2⟩:=P2
  simp only [] at HD1 HD2 HLX HLE
  obtain⟨B1,hB1⟩:∃ B1,B1=(decide (E1=0)&&(decide (E2=0)&&decide (D2<=65535))):=⟨_,rfl⟩
  obtain⟨B2,hB2⟩:∃ B2,B2=(decide (x10=32)&&decide (x16=32)):=⟨_,rfl⟩
  obtain⟨B3,hB3⟩:∃ B3,B3=(decide (x17=110) || decide (x17=102)):=⟨_,rfl⟩
  rw [<- hB1,<- hB2,<- hB3] at HLE
  have HB1z:=kf hB1
  have HB2z:=kf hB2
  have HB3z:=kf hB3
  rw [HLX.out,HLE.out]
  clear hB1 hB2 hB3 HX HY hlt hn hl hq hc1 hc2 hc3 hcv hS hP1 hP2 hLS hncp HLX HLE hB
  go_enter Tryz.func111,Tryz.ntmps111
  go_upto_region 1 with fail
  obtain⟨w,hw⟩:∃ w,w=wi.alloc (.cells #[.int .i64 0,.int .i64 0,.bool false] 29):=⟨_,rfl⟩
  obtain⟨g2,hg2⟩:∃ g2,g2=wi.heap.size:=⟨_,rfl⟩
  have HG2:Hid (g2<w.heap.size/\R≠g2/\g2=wi.heap.size/\w0.heap.size<=g2):=by
   show _/\_/\_/\_
   have:=HLTi.out
   rw [hw,World.size_alloc]
   omega
  rw [<- hw] at h hb2 hci ⊢
  rw [<- hg2] at hb2 ⊢
  have HR:=kf h
  have HB2:=kf hb2
  have HCI:=kf hci
  obtain⟨q0,q1,q2,q3,z1,z3⟩:=h.cells
  simp only [] at q1 q3
  rw [<- HNL.out] at q0
  clear hw hg2 hi HLTi hge2 h hb2 hci
  go_quiet (fail)
  have HR1:=kf (HR.out.call ((Chg.refl NoS w).drewN nq))
  have HB1:=kf (HB2.out.drewN nq)
  have HC1:=kf (HCI.out.trans ((Chg.refl NoS w).drewN nq) (fun _ _ e=>e))
  obtain⟨W1,hW1⟩:∃ W1,W1=w.drewN nq:=⟨_,rfl⟩
  rw [<- hW1] at HR1 HB1 HC1 ⊢
  clear hW1 q0 q1 q2 q3 z1 z3 HR HB2 HCI
  obtain⟨q0,q1,q2,q3,z1,z3⟩:=HR1.out.cells
  simp only [] at q1 q3
  have cv1:=HCV.out W1 HR1.out.chg
  have cv2:=fun m=>HCV.out (W1.drewN m) (HR1.out.chg.drewN m)
  have hsz:=HLS.out.siz
  go_upto_region 4 with fail
  go_quiet (fail)
  clear cv1 cv2
  go_upto_region 6 with fail
  try rw [EQ1.out]
  have HR2:=kf ((HR1.out.call ((Chg.refl NoS W1).drewN nq)).setA (q:Nat))
  have HB3:=kf ((HB1.out.drewN nq).far (p:=⟨R,1,none⟩) (fun e=>HG2.out.2.1 e.symm) (.int .i64 (q:Nat)))
  have HO2:=kf (only_tr (only_of (HC1.out.trans ((Chg.refl NoS W1).drewN nq) (fun _ _ e=>e))) (only_set _ R 1 (.int .i64 (q:Nat))))
  obtain⟨W2,hW2⟩:∃ W2,W2=(W1.drewN nq).setCell ⟨R,1,none⟩ (.int .i64 (q:Nat)):=⟨_,rfl⟩
  rw [<- hW2] at HR2 HB3 HO2 ⊢
  clear hW2 q0 q1 q2 q3 z1 z3 HR1 HB1 HC1
  have ex1:=HLS.out.e1
  have ex2:=HLS.out.e2
  have ex3:=HLS.out.e3
  go_upto_region 7 with(go_at_call 153;refine(HD1.out _).mono ?_;rintro e w3 ⟨rfl,hc3⟩;have HR3:=kf (HR2.out.call hc3);have HB4:=kf (HB3.out.chg hc3 (fun e=>e));have HO3:=kf (only_tr HO2.out (only_of hc3));clear hc3)
  go_upto_region 8 with(go_at_call 153;refine(HD2.out _).mono ?_;rintro e w4 ⟨rfl,hc4⟩;have HR4:=kf (HR3.out.call hc4);have HB5:=kf (HB4.out.chg hc4 (fun e=>e));have HO4:=kf (only_tr HO3.out (only_of hc4));clear hc4)
  clear HR2 HR3 HB3 HB4 HO2 HO3 HD1 HD2
  go_upto_region 9 with fail
  clear ex1 ex2 ex3
  go_cut [] from 72 to 83 (fun wx=>Hid (XB w0 bs (some ⟨b,off,none⟩) c R last (((q:Nat):Int),askX 0 B1) wx/\Blk wx g2 29 #[.int .i64 0,.int .i64 0,.bool false]/\Chg (Only R) wi wx))
  case first =>
   by_cases h1:E1=0
   ·have d1:(E1==0)=true:=by simpa using h1
    by_cases h2:E2=0
    ·have d2:(E2==0)=true:=by simpa using h2
     by_cases h3:D2<=65535
     ·have d3:decide (D2<=65535)=true:=by simpa using h3
      have HZ:Hid (B1=true):=by show B1=true;rw [HB1z.out];rw [decide_eq_true h1,decide_eq_true h2,decide_eq_true h3];rfl
      clear h1 h2 h3
      go_wp2_with (go_at_call 77;refine(xask_any HR4.out true).mono ?_;rintro e w9 ⟨rfl,hr9,hc9⟩;have HR9:=kf hr9;have HB9:=kf (HB5.out.chg hc9 (fun e=>HG2.out.2.1 e.symm));have HO9:=kf (only_tr HO4.out hc9);clear hr9 hc9)
      go_meet
      exact kf ⟨by rw [HZ.out];exact HR9.out,HB9.out,HO9.out⟩
     ·have d3:decide (D2<=65535)=false:=by simpa using h3
      have HZ:Hid (B1=false):=by show B1=false;rw [HB1z.out];rw [decide_eq_true h1,decide_eq_true h2,decide_eq_false h3];rfl
      clear h1 h2 h3
      go_wp2_with (go_at_call 77;refine(xask_any HR4.out false).mono ?_;rintro e w9 ⟨rfl,hr9,hc9⟩;have HR9:=kf hr9;have HB9:=kf (HB5.out.chg hc9 (fun e=>HG2.out.2.1 e.symm));have HO9:=kf (only_tr HO4.out hc9);clear hr9 hc9)
      go_meet
      exact kf ⟨by rw [HZ.out];exact HR9.out,HB9.out,HO9.out⟩
    ·have d2:(E2==0)=false:=by simpa using h2
     have HZ:Hid (B1=false):=by show B1=false;rw [HB1z.out];rw [decide_eq_true h1,decide_eq_false h2];rfl
     clear h1 h2
     go_wp2_with (go_at_call 77;refine(xask_any HR4.out false).mono ?_;rintro e w9 ⟨rfl,hr9,hc9⟩;have HR9:=kf hr9;have HB9:=kf (HB5.out.chg hc9 (fun e=>HG2.out.2.1 e.symm));have HO9:=kf (only_tr HO4.out hc9);clear hr9 hc9)
     go_meet
     exact kf ⟨by rw [HZ.out];exact HR9.out,HB9.out,HO9.out⟩
   ·have d1:(E1==0)=false:=by simpa using h1
    have HZ:Hid (B1=false):=by show B1=false;rw [HB1z.out];rw [decide_eq_false h1];rfl
    clear h1
    go_wp2_with (go_at_call 77;refine(xask_any HR4.out false).mono ?_;rintro e w9 ⟨rfl,hr9,hc9⟩;have HR9:=kf hr9;have HB9:=kf (HB5.out.chg hc9 (fun e=>HG2.out.2.1 e.symm));have HO9:=kf (only_tr HO4.out hc9);clear hr9 hc9)
    go_meet
    exact kf ⟨by rw [HZ.out];exact HR9.out,HB9.out,HO9.out⟩
  case rest =>
   have hx:=hcut.out
   have HR1_:=kf hx.1
   have HB1_:=kf hx.2.1
   have HO1_:=kf hx.2.2
   obtain⟨E_1,hE_1⟩:∃ E,E=askX 0 B1:=⟨_,rfl⟩
   rw [<- hE_1] at HR1_
   have HE_1:=kf hE_1
   obtain⟨v1,hv1⟩:∃ v,v=wc:=⟨_,rfl⟩
   subst hv1
   clear hx hcut hE_1
   clear HR4 HB5 HO4
   have g10:=HLS.out.g10
   have g16:=HLS.out.g16
   go_upto_region 10 with fail
   go_cut [] from 84 to 93 (fun wx=>Hid (XB w0 bs (some ⟨b,off,none⟩) c R last (((q:Nat):Int),askX E_1 B2) wx/\Blk wx g2 29 #[.int .i64 0,.int .i64 0,.bool false]/\Chg (Only R) wi wx))
   case first =>
    by_cases h1:x10=32
    ·have d1:((x10:Int)==32)=true:=by simp;omega
     by_cases h2:x16=32
     ·have d2:((x16:Int)==32)=true:=by simp;omega
      have HZ:Hid (B2=true):=by show B2=true;rw [HB2z.out];rw [decide_eq_true h1,decide_eq_true h2];rfl
      clear h1 h2
      go_wp2_with (go_at_call 77;refine(xask_any HR1_.out true).mono ?_;rintro e w9 ⟨rfl,hr9,hc9⟩;have HR9:=kf hr9;have HB9:=kf (HB1_.out.chg hc9 (fun e=>HG2.out.2.1 e.symm));have HO9:=kf (only_tr HO1_.out hc9);clear hr9 hc9)
      go_meet
      exact kf ⟨by rw [HZ.out];exact HR9.out,HB9.out,HO9.out⟩
     ·have d2:((x16:Int)==32)=false:=by simp;omega
      have HZ:Hid (B2=false):=by show B2=false;rw [HB2z.out];rw [decide_eq_true h1,decide_eq_false h2];rfl
      clear h1 h2
      go_wp2_with (go_at_call 77;refine(xask_any HR1_.out false).mono ?_;rintro e w9 ⟨rfl,hr9,hc9⟩;have HR9:=kf hr9;have HB9:=kf (HB1_.out.chg hc9 (fun e=>HG2.out.2.1 e.symm));have HO9:=kf (only_tr HO1_.out hc9);clear hr9 hc9)
      go_meet
      exact kf ⟨by rw [HZ.out];exact HR9.out,HB9.out,HO9.out⟩
    ·have d1:((x10:Int)==32)=false:=by simp;omega
     have HZ:Hid (B2=false):=by show B2=false;rw [HB2z.out];rw [decide_eq_false h1];rfl
     clear h1
     go_wp2_with (go_at_call 77;refine(xask_any HR1_.out false).mono ?_;rintro e w9 ⟨rfl,hr9,hc9⟩;have HR9:=kf hr9;have HB9:=kf (HB1_.out.chg hc9 (fun e=>HG2.out.2.1 e.symm));have HO9:=kf (only_tr HO1_.out hc9);clear hr9 hc9)
     go_meet
     exact kf ⟨by rw [HZ.out];exact HR9.out,HB9.out,HO9.out⟩
   case rest =>
    have hx:=hcut.out
    have HR2_:=kf hx.1
    have HB2_:=kf hx.2.1
    have HO2_:=kf hx.2.2
    obtain⟨E_2,hE_2⟩:∃ E,E=askX E_1 B2:=⟨_,rfl⟩
    rw [<- hE_2] at HR2_
    have HE_2:=kf hE_2
    obtain⟨v2,hv2⟩:∃ v,v=wc:=⟨_,rfl⟩
    subst hv2
    clear hx hcut hE_2 HR1_ HB1_ HO1_
    clear g10 g16
    have HS3:=kf (fun y (hy:y<256)=>(show(S3.toList==[UInt8.ofNat y])=decide (x17=y) from by rw [HLS.out.c3];exact str_1 HLS.out.b17 hy))
    go_upto_region 11 with fail
    go_cut [] from 94 to 101 (fun wx=>Hid (XB w0 bs (some ⟨b,off,none⟩) c R last (((q:Nat):Int),askX E_2 B3) wx/\Blk wx g2 29 #[.int .i64 0,.int .i64 0,.bool false]/\Chg (Only R) wi wx))
    case first =>
     have t1:=HS3.out 110 (by decide)
     have t2:=HS3.out 102 (by decide)
     by_cases h1:x17=110
     ·rw [decide_eq_true h1] at t1
      have k1:(S3.toList==[110])=true:=t1
      have k2:S3.toList=[110]:=by simpa using k1
      clear t1 t2
      have HZ:Hid (B3=true):=by show B3=true;rw [HB3z.out];rw [decide_eq_true h1];rfl
      clear h1
      go_wp2_with (go_at_call 77;refine(xask_any HR2_.out true).mono ?_;rintro e w9 ⟨rfl,hr9,hc9⟩;have HR9:=kf hr9;have HB9:=kf (HB2_.out.chg hc9 (fun e=>HG2.out.2.1 e.symm));have HO9:=kf (only_tr HO2_.out hc9);clear hr9 hc9)
      go_meet
      exact kf ⟨by rw [HZ.out];exact HR9.out,HB9.out,HO9.out⟩
     ·rw [decide_eq_false h1] at t1
      have k1:(S3.toList==[110])=false:=t1
      have k2:¬S3.toList=[110]:=by simpa using k1
      by_cases h2:x17=102
      ·rw [decide_eq_true h2] at t2
       have k3:(S3.toList==[102])=true:=t2
       have k4:S3.toList=[102]:=by simpa using k3
       clear t1 t2
       have HZ:Hid (B3=true):=by show B3=true;rw [HB3z.out];rw [decide_eq_false h1,decide_eq_true h2];rfl
       clear h1 h2
       go_wp2_with (go_at_call 77;refine(xask_any HR2_.out true).mono ?_;rintro e w9 ⟨rfl,hr9,hc9⟩;have HR9:=kf hr9;have HB9:=kf (HB2_.out.chg hc9 (fun e=>HG2.out.2.1 e.symm));have HO9:=kf (only_tr HO2_.out hc9);clear hr9 hc9)
       go_meet
       exact kf ⟨by rw [HZ.out];exact HR9.out,HB9.out,HO9.out⟩
      ·rw [decide_eq_false h2] at t2
       have k3:(S3.toList==[102])=false:=t2
       have k4:¬S3.toList=[102]:=by simpa using k3
       clear t1 t2
       have HZ:Hid (B3=false):=by show B3=false;rw [HB3z.out];rw [decide_eq_false h1,decide_eq_false h2];rfl
       clear h1 h2
       go_wp2_with (go_at_call 77;refine(xask_any HR2_.out false).mono ?_;rintro e w9 ⟨rfl,hr9,hc9⟩;have HR9:=kf hr9;have HB9:=kf (HB2_.out.chg hc9 (fun e=>HG2.out.2.1 e.symm));have HO9:=kf (only_tr HO2_.out hc9);clear hr9 hc9)
       go_meet
       exact kf ⟨by rw [HZ.out];exact HR9.out,HB9.out,HO9.out⟩
    case rest =>
     have hx:=hcut.out
     have HR3_:=kf hx.1
     have HB3_:=kf hx.2.1
     have HO3_:=kf hx.2.2
     obtain⟨E_3,hE_3⟩:∃ E,E=askX E_2 B3:=⟨_,rfl⟩
     rw [<- hE_3] at HR3_
     have HE_3:=kf hE_3
     obtain⟨v3,hv3⟩:∃ v,v=wc:=⟨_,rfl⟩
     subst hv3
     clear hx hcut hE_3 HR2_ HB2_ HO2_
     have g18:=HLS.out.g18
     go_upto_region 13 with(first|(go_at_call 154;refine(xends_any x18 _).mono ?_;rintro e w9 ⟨rfl,rfl⟩)|(go_at_call 77;refine(xask_any HR3_.out (decide (x18=32) || (decide (x18=10) || decide (x18=13)))).mono ?_;rintro e w9 ⟨rfl,hr9,hc9⟩;have HRz:=kf hr9;have HBz:=kf (HB3_.out.chg hc9 (fun e=>HG2.out.2.1 e.symm));have HOz:=kf (only_tr HO3_.out hc9);clear hr9 hc9))
     clear g18 HR3_ HB3_ HO3_
     obtain⟨r0,r1,r2,u0,u1,u2⟩:=HBz.out.cl3
     obtain⟨u,hu⟩:∃ u,u=decide (x17=110):=⟨_,rfl⟩
     have k1:(S3.toList==[110])=u:=by rw [HLS.out.c3,hu];exact str_1 HLS.out.b17 (by decide)
     have HU:=kf hu
     clear hu
     go_wp2_with fail
     refine bodyPost_ret (v:=.agg #[.int .i64 D1,.int .i64 D2,.bool u]) (by simp [results,Tryz.results111,go_sem,r0,r1,r2]) rfl ?_
     refine⟨by rw [HU.out];rfl,by rw [<- HE_1.out,<- HE_2.out,<- HE_3.out];exact HRz.out.far (set3_chg w9 g2 _ _ _) HG2.out.2.1 (fun i hi e=>by have:=HG2.out.2.2.2;omega),HOz.out.trans (set3_chg w9 g2 _ _ _) (fun i hi e=>by have:=HG2.out.2.2.1;omega)⟩
end Go.Proofs.YthejpkflcgjdoaaGreatDoor
