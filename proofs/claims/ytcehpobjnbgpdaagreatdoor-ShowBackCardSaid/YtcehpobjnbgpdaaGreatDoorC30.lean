/- Merged by program. -/
import Derived.Test.YtcehpobjnbgpdaaGreatDoorC29
set_option linter.unusedVariables false
set_option linter.unusedSimpArgs false
namespace Go.Proofs.YtcehpobjnbgpdaaGreatDoor
open Go.RowKit
def RV12 (bs:List Nat) (A:Option Addr) (c:Nat) (last:Bool) (deep:Nat):Prop:=∀ (t:Tkn) (v:VT) (q p:Nat) (w:World),Reads bs last deep t v q->p<=bs.length->nextO bs p last=(0,t)->Src w 1 A bs.length c (lcells bs) ->
 Calls Tryz.prog 68 #[.slice A bs.length c,tknV t,.bool last,.int .i64 (deep:Nat)] w (V12To w v q)
theorem elems_inv {bs:List Nat} {last:Bool} {deep p:Nat} {r:List VT} {q:Nat} (h:Elems bs last deep p r q):(r=[]/\∃ t,nextO bs p last=(0,t)/\t.kind=3/\q=t.to)\/∃ t v r' q1,r=v::r'/\nextO bs p last=(0,t)/\Reads bs last deep t v q1/\Elems bs last deep q1 r' q:=by
 cases h with
 |nil hp h hk=>exact .inl ⟨rfl,_,h,hk,rfl⟩
 |cons hp h hv hl=>exact .inr ⟨_,_,_,_,rfl,h,hv,hl⟩
theorem next_lt {bs:List Nat} {p:Nat} {last:Bool} {t:Tkn} (hp:p<=bs.length) (h:nextO bs p last=(0,t)) (hk:t.kind≠0):p<t.to/\t.to<=bs.length:=by
 have hn:=next_tok bs p last hp
 rw [h] at hn
 rcases hn with hn|hn
 ·exact absurd hn.1 hk
 ·exact⟨hn.2.2.1,hn.2.2.2⟩
theorem next_at12 {bs:List Nat} {A:Option Addr} {c p:Nat} {last:Bool} {t:Tkn} {w0 w:World} (hS:Src w0 1 A bs.length c (lcells bs)) (hW:Chg NoS w0 w) (hl:bs.length<=400000) (hc:bs.length<=c) (hb:∀ x∈bs,x<256) (hp:p<=bs.length) (h:nextO bs p last=(0,t)) :
  Calls Tryz.prog 37 #[.slice A bs.length c,.int .i64 (p:Nat),.bool last] w fun e w'=>e=.returned (.tuple #[tknV t,.int .i64 0])/\Chg NoS w w':=by
 have h1:=rnext_any bs A c (p:Nat) last w (Src.below (w0:=w0) hS hW) hl hc hb
 rw [nextA_in hp,h] at h1
 exact h1
def V12F (w:World) (v:VT) (q:Nat) (e:Ending) (w':World):Prop:=∃ (ek en:Int) (es:ByteArray) (eA:Option Addr) (el ec:Nat),e=.returned (.tuple #[.agg #[.int .i64 ek,.int .i64 en,.string es,.slice eA el ec],.int .i64 (q:Nat),.int .i64 0])/\Ins (fun i=>i<w.heap.size) w' v ⟨ek,en,es,eA,el,ec⟩/\Chg NoS w w'
theorem V12To.f {w:World} {v:VT} {q:Nat} {e:Ending} {w':World} (h:V12To w v q e w'):V12F w v q e w':=by
 obtain⟨⟨ek,en,es,eA,el,ec⟩,h1,h2,h3⟩:=h
 exact⟨ek,en,es,eA,el,ec,h1,h2,h3⟩
theorem set4_own (W:World) (g:Nat) (O:Nat->Prop) (hg:O g) (a b c d:Value):Chg O W ((((W.setCell ⟨g,0,none⟩ a).setCell ⟨g,1,none⟩ b).setCell ⟨g,2,none⟩ c).setCell ⟨g,3,none⟩ d) :=
 ((((Chg.refl O W).setCell (p:=⟨g,0,none⟩) (fun _=>hg) a).setCell (p:=⟨g,1,none⟩) (fun _=>hg) b).setCell (p:=⟨g,2,none⟩) (fun _=>hg) c).setCell (p:=⟨g,3,none⟩) (fun _=>hg) d
set_option maxHeartbeats 8000000 in
set_option maxRecDepth 100000 in
theorem r12array_any (bs:List Nat) (A:Option Addr) (c:Nat) (last:Bool) (w:World) (hS:Src w 1 A bs.length c (lcells bs)) (hl:bs.length<=400000) (hc:bs.length<=c) (hb:∀ x∈bs,x<256) (deep:Nat) (hd:deep<=64) (H:RV12 bs A c last deep) (l:List VT) (p q:Nat) (hE:Elems bs last deep p l q) (hp:p<=bs.length) :
  Calls Tryz.prog 106 #[.slice A bs.length c,.int .i64 (p:Nat),.bool last,.int .i64 (deep:Nat)] w (V12To w (.mk 6 0 ⟨#[]⟩ l) q):=by
 have HNX:=kf (fun(p:Nat) (t:Tkn) (W:World) (hW:Chg NoS w W) (hp:p<=bs.length) (h:nextO bs p last=(0,t))=>next_at12 hS hW hl hc hb hp h)
 have HVL:=kf (fun(t:Tkn) (v:VT) (q p:Nat) (W:World) (hW:Chg NoS w W) (h:Reads bs last deep t v q) (hp:p<=bs.length) (hn:nextO bs p last=(0,t))=>(H t v q p W h hp hn (Src.below (w0:=w) hS hW)).mono fun _ _ h=>h.f)
 have HE0:=kf hE
 have HLE:=kf hl
 obtain⟨N,hN⟩:∃ N,N=bs.length:=⟨_,rfl⟩
 have HN:=kf hN
 have HB8:=kf (Blk.new w 24 #[.int .i64 0,.int .i64 0,.string ⟨#[]⟩,.slice none 0 0])
 have HC8:=kf ((Chg.refl NoS w).alloc (.cells #[.int .i64 0,.int .i64 0,.string ⟨#[]⟩,.slice none 0 0] 24))
 obtain⟨w8,hw8⟩:∃ w8,w8=w.alloc (.cells #[.int .i64 0,.int .i64 0,.string ⟨#[]⟩,.slice none 0 0] 24):=⟨_,rfl⟩
 obtain⟨g8,hg8⟩:∃ g8,g8=w.heap.size:=⟨_,rfl⟩
 have hge8:w.heap.size<=g8:=by omega
 rw [<- hw8] at HB8 HC8
 rw [<- hg8] at HB8
 have hlt8:=HB8.out.lt
 rw [<- hN] at hp hl HVL HNX ⊢
 have hN4:N<=400000:=hl
 clear hS hl hc hb H hE hN
 go_enter Tryz.func106,Tryz.ntmps106
 go_upto_region 3 with fail
 rw [<- hw8,<- hg8]
 clear hw8 hg8
 go_loopw [1,11,12] (fun va vl vn wr=>∃ (k pk A2c:Nat) (A2:Option Addr),k<=pk/\pk<=N/\va=.int .i64 (pk:Nat)/\vl=.slice A2 k A2c/\vn=.int .i64 (k:Nat)/\Hid (∃ es,RwA w8 wr es (l.take k) k A2 A2c)/\Hid (Elems bs last deep pk (l.drop k) q)/\Hid (k<=l.length)) (fun _ _ vn _=>N+1-(intOf vn).toNat)
 case atStart=>exact⟨0,p,0,none,by omega,hp,rfl,rfl,by go_num,⟨[],by rw [List.take_zero];exact RwA.start (Chg.refl NoS w8)⟩,by rw [List.drop_zero];exact HE0.out,Nat.zero_le _⟩
 case round =>
  obtain⟨k,pk,A2c,A2,hk,hpk,rfl,rfl,rfl,HR,HE,HKL⟩:=hrel
  obtain⟨es,hR⟩:=HR.out
  have HRR:=kf hR
  have HCW:=kf hR.chg
  have HB8w:=kf (HB8.out.chg hR.chg (fun e=>e))
  have HC8w:=kf (HC8.out.trans hR.chg (fun _ _ e=>e))
  have d1:decide ((k:Int)<=N)=true:=by simp;omega
  have d1':decide (k<=N)=true:=by simp;omega
  clear hR
  rcases elems_inv HE.out with⟨hnil,t,hn,h3,hq⟩|⟨t,v,r',qv,hcons,hn,hv,hl'⟩
  ·have HNT:=kf (fun W hW=>HNX.out pk t W hW hpk hn)
   have HQ:=kf hq
   have HLT:=kf (show l.take k=l from by
    have h1:=congrArg List.length hnil
    rw [List.length_drop,List.length_nil] at h1
    exact List.take_of_length_le (by omega))
   obtain⟨tk,tf,tt,tvk,tvn,tvs,ts⟩:=t
   simp only [] at h3 HQ
   subst h3
   unfold tknV at HNT
   simp only [] at HNT
   obtain⟨T6,hT6⟩:∃ T6,T6=sb tvs:=⟨_,rfl⟩
   obtain⟨T7,hT7⟩:∃ T7,T7=sb ts:=⟨_,rfl⟩
   rw [<- hT6,<- hT7] at HNT
   clear hnil hn hq hT6 hT7
   go_upto_region 6 with(go_at_call 37;refine(HNT.out _ HC8w.out).mono ?_;rintro e w3 ⟨rfl,hc3⟩;have HC3:=kf hc3;clear hc3)
   have HB13:=kf (Blk.new w3 67 #[.int .i64 3,.int .i64 (tf:Nat),.int .i64 (tt:Nat),.int .i64 (tvk:Nat),.int .i64 tvn,.string T6,.slice none 0 0,.string T7])
   have HC13:=kf (HC3.out.alloc (.cells #[.int .i64 3,.int .i64 (tf:Nat),.int .i64 (tt:Nat),.int .i64 (tvk:Nat),.int .i64 tvn,.string T6,.slice none 0 0,.string T7] 67))
   obtain⟨W4,hW4⟩:∃ W4,W4=w3.alloc (.cells #[.int .i64 3,.int .i64 (tf:Nat),.int .i64 (tt:Nat),.int .i64 (tvk:Nat),.int .i64 tvn,.string T6,.slice none 0 0,.string T7] 67):=⟨_,rfl⟩
   obtain⟨g13,hg13⟩:∃ g13,g13=w3.heap.size:=⟨_,rfl⟩
   have hn8:g8≠g13:=by have:=(HB8w.out.chg HC3.out (fun e=>e)).lt;omega
   rw [<- hW4] at HB13 HC13 ⊢
   rw [<- hg13] at HB13 ⊢
   clear hW4 hg13
   obtain⟨q0,q1,q2,q3,q4,q5,q6,q7,_,_,_,_,_,_,_,_⟩:=HB13.out.cl8
   have HB84:=kf (HB8w.out.chg HC13.out (fun e=>e))
   obtain⟨r0,r1,r2,r3,z0,z1,z2,z3⟩:=HB84.out.cl4
   go_upto_region 9 with fail
   go_region
   have HB85:=kf (HB84.out.four (.int .i64 6) (.int .i64 0) (.string ⟨#[]⟩) (.slice A2 k A2c))
   have HIN:=kf (((HRR.out.call HC13.out).val 6 (by decide)).turn (O':=fun i=>i<w.heap.size) (set4_own W4 g8 (fun i=>i<w8.heap.size) hlt8 (.int .i64 6) (.int .i64 0) (.string ⟨#[]⟩) (.slice A2 k A2c)) (fun i _ e=>by have:=HC8.out.size;omega))
   have HCF:=kf ((HC8w.out.trans HC13.out (fun _ _ e=>e)).four hge8 (.int .i64 6) (.int .i64 0) (.string ⟨#[]⟩) (.slice A2 k A2c))
   obtain⟨W5,hW5⟩:∃ W5,W5=((((W4.setCell ⟨g8,0,none⟩ (.int .i64 6)).setCell ⟨g8,1,none⟩ (.int .i64 0)).setCell ⟨g8,2,none⟩ (.string ⟨#[]⟩)).setCell ⟨g8,3,none⟩ (.slice A2 k A2c)):=⟨_,rfl⟩
   rw [<- hW5] at HB85 HIN HCF ⊢
   clear hW5 r0 r1 r2 r3 z0 z1 z2 z3 q0 q1 q2 q3 q4 q5 q6 q7
   obtain⟨r0,r1,r2,r3,_,_,_,_⟩:=HB85.out.drew.cl4
   go_wp2_with fail
   (try simp only [Exit.noGoto_ret])
   refine bodyPost_ret (v:=.tuple #[.agg #[.int .i64 6,.int .i64 0,.string ⟨#[]⟩,.slice A2 k A2c],.int .i64 (tt:Nat),.int .i64 0]) (by simp [results,Tryz.results106,go_sem,r0,r1,r2,r3]) rfl ?_
   refine⟨⟨6,0,⟨#[]⟩,A2,k,A2c⟩,by rw [HQ.out];rfl,?_,HCF.out.drew⟩
   have h9:=HIN.out
   rw [HLT.out] at h9
   exact h9.chg (Chg.refl NoS W5).drew
  ·have hk0:t.kind≠0:=fun e=>by have:=reads_kind hv;omega
   have hk3:t.kind≠3:=fun e=>by have:=reads_kind hv;omega
   have hto:=next_lt (by rw [<- HN.out];exact hpk) hn hk0
   have hqv:=reads_le hv hto.2
   rw [<- HN.out] at hto hqv
   have HNT:=kf (fun W hW=>HNX.out pk t W hW hpk hn)
   have HVT:=kf (fun W hW=>HVL.out t v qv pk W hW hv hpk hn)
   have HLV:=kf hl'
   have hkl:k<l.length:=by
    have h1:=congrArg List.length hcons
    rw [List.length_drop,List.length_cons] at h1
    omega
   have HTK:=kf (show l.take (k+1)=l.take k++[v] from by
    have h1:l[k]?=some v:=by
     have h2:(l.drop k)[0]?=some v:=by rw [hcons];rfl
     rwa [List.getElem?_drop,Nat.add_zero] at h2
    rw [List.take_add_one,h1]
    rfl)
   have HDR:=kf (show l.drop (k+1)=r' from by rw [<- List.drop_drop,hcons];rfl)
   obtain⟨tk,tf,tt,tvk,tvn,tvs,ts⟩:=t
   simp only [] at hk3 hto hqv
   unfold tknV at HNT HVT
   simp only [] at HNT HVT
   obtain⟨T6,hT6⟩:∃ T6,T6=sb tvs:=⟨_,rfl⟩
   obtain⟨T7,hT7⟩:∃ T7,T7=sb ts:=⟨_,rfl⟩
   rw [<- hT6,<- hT7] at HNT HVT
   have e3:((tk:Int)==3)=false:=by simp;omega
   have e3':(tk==3)=false:=by simp;omega
   clear hcons hn hv hl' hk0 hk3 hT6 hT7
   go_upto_region 6 with(go_at_call 37;refine(HNT.out _ HC8w.out).mono ?_;rintro e w3 ⟨rfl,hc3⟩;have HC3:=kf hc3;clear hc3)
   have HB13:=kf (Blk.new w3 67 #[.int .i64 (tk:Nat),.int .i64 (tf:Nat),.int .i64 (tt:Nat),.int .i64 (tvk:Nat),.int .i64 tvn,.string T6,.slice none 0 0,.string T7])
   have HC13:=kf (HC3.out.alloc (.cells #[.int .i64 (tk:Nat),.int .i64 (tf:Nat),.int .i64 (tt:Nat),.int .i64 (tvk:Nat),.int .i64 tvn,.string T6,.slice none 0 0,.string T7] 67))
   obtain⟨W4,hW4⟩:∃ W4,W4=w3.alloc (.cells #[.int .i64 (tk:Nat),.int .i64 (tf:Nat),.int .i64 (tt:Nat),.int .i64 (tvk:Nat),.int .i64 tvn,.string T6,.slice none 0 0,.string T7] 67):=⟨_,rfl⟩
   obtain⟨g13,hg13⟩:∃ g13,g13=w3.heap.size:=⟨_,rfl⟩
   rw [<- hW4] at HB13 HC13 ⊢
   rw [<- hg13] at HB13 ⊢
   clear hW4 hg13
   obtain⟨q0,q1,q2,q3,q4,q5,q6,q7,_,_,_,_,_,_,_,_⟩:=HB13.out.cl8
   go_upto_region 11 with(go_at_call 68;refine(HVT.out _ (HC8w.out.trans HC13.out (fun _ _ e=>e))).mono ?_;rintro e w5 ⟨ek,en,es',eA,el,ec,rfl,hin,hc5⟩;have HI5:=kf hin;have HC5:=kf (HC13.out.trans hc5 (fun _ _ e=>e));clear hin hc5)
   have HB15:=kf (Blk.new w5 24 #[.int .i64 ek,.int .i64 en,.string es',.slice eA el ec])
   have HC15:=kf (HC5.out.alloc (.cells #[.int .i64 ek,.int .i64 en,.string es',.slice eA el ec] 24))
   have HI15:=kf (HI5.out.chg ((Chg.refl NoS w5).alloc (.cells #[.int .i64 ek,.int .i64 en,.string es',.slice eA el ec] 24)))
   have hsz4:=HC13.out.size
   obtain⟨W6,hW6⟩:∃ W6,W6=w5.alloc (.cells #[.int .i64 ek,.int .i64 en,.string es',.slice eA el ec] 24):=⟨_,rfl⟩
   obtain⟨g15,hg15⟩:∃ g15,g15=w5.heap.size:=⟨_,rfl⟩
   rw [<- hW6] at HB15 HC15 HI15 ⊢
   rw [<- hg15] at HB15 ⊢
   clear hW6 hg15 q0 q1 q2 q3 q4 q5 q6 q7
   obtain⟨q0,q1,q2,q3,_,_,_,_⟩:=HB15.out.cl4
   have HAP:=kf (fun(W:World) (hW:Chg NoS W6 W) (X:Option Addr) (hX:Src W 4 X 1 1 (vcells [⟨ek,en,es',eA,el,ec⟩]))=>(⟨HC15.out.trans hW (fun _ _ e=>e),hX,(HI15.out.chg hW).turn (O':=fun i=>i<wr.heap.size) (Chg.refl _ W) (fun i _ e=>by show i<W4.heap.size;omega)⟩:Chg NoS wr W/\Src W 4 X 1 1 (vcells [⟨ek,en,es',eA,el,ec⟩])/\Ins (fun i=>i<wr.heap.size) W v ⟨ek,en,es',eA,el,ec⟩))
   have H7:=kf (HAP.out (W6.alloc (.cells #[.int .i64 ek,.int .i64 en,.string es',.slice eA el ec] 24)) ((Chg.refl NoS W6).alloc _) (some ⟨W6.heap.size,0,none⟩) (src_one (fun i hi=>by
    rw [(Blk.new W6 24 #[.int .i64 ek,.int .i64 en,.string es',.slice eA el ec]).cell]
    match i,hi with
    |0,_=>rfl
    |1,_=>rfl
    |2,_=>rfl
    |3,_=>rfl)))
   clear hsz4
   go_wp2_with (at_builtin;refine appA rfl _ _ rfl rfl rfl HRR.out H7.out.1 (by omega) H7.out.2.1 H7.out.2.2 ?_;intro A3 c3 w7 hrw;have HR7:=kf hrw;clear hrw)
   go_roundw
   case rel=>exact⟨k+1,qv,c3,A3,by omega,by omega,rfl,rfl,by go_num,⟨_,by rw [HTK.out];exact HR7.out⟩,by rw [HDR.out];exact HLV.out,kf (by omega)⟩
   case measure=>simp [intOf];omega
mutual
theorem reads_siz {bs:List Nat} {last:Bool}:∀ {deep:Nat} {t:Tkn} {v:VT} {q:Nat},Reads bs last deep t v q->t.to<=bs.length->sizT v+t.to<=q+1
 |_,t,v,q,.leaf hk hd h,ht=>by
  have h1:=reads_le (.leaf hk hd h) ht
  have h2:sizT v=1:=by
   unfold leafO at h
   split at h
   ·have h3:(wordO t.s).2=v:=congrArg (fun x=>x.2.1) h
    rw [<- h3]
    unfold wordO
    split
    ·rfl
    ·split
     ·rfl
     ·split<;>rfl
   ·have h3:(refO bs last t).2.1=v:=congrArg (fun x=>x.2.1) h
    rw [<- h3]
    unfold refO
    repeat' (first|rfl|split)
  omega
 |_,t,_,q,.arr hk hd h,ht=>by
  have:=elems_siz h ht
  rw [sizT_mk]
  omega
 |_,t,_,q,.dict hk hd h,ht=>by
  have:=names_siz h ht rfl
  have h0:sizL (dictT [])=0:=by rw [dictT_short (by decide),sizL]
  rw [sizT_mk]
  omega
theorem elems_siz {bs:List Nat} {last:Bool}:∀ {deep p:Nat} {l:List VT} {q:Nat},Elems bs last deep p l q->p<=bs.length->sizL l+p<q
 |_,p,_,_,.nil (t:=t) hp h hk,_=>by
  have:=next_lt hp h (by rw [hk];decide)
  rw [sizL]
  omega
 |_,p,_,_,.cons (t:=t) (v:=v) (l:=l) hp h hv hl,_=>by
  have h1:=next_lt hp h (fun e=>by have:=reads_kind hv;omega)
  have h2:=reads_siz hv h1.2
  have h3:=reads_le hv h1.2
  have h4:=elems_siz hl h3.2
  rw [sizL_cons]
  omega
theorem names_siz {bs:List Nat} {last:Bool}:∀ {deep p:Nat} {acc l:List VT} {q:Nat},Names bs last deep p acc l q->p<=bs.length->acc.length%2=0->sizL (dictT l)+p<q+sizL (dictT acc)
 |_,p,_,_,_,.nil (t:=t) hp h hk,_,_=>by
  have:=next_lt hp h (by rw [hk];decide)
  omega
 |_,p,acc,_,_,.cons (t:=t) (u:=u) (v:=v) hp hd h hk hn5 hno h2 hv hl,_,he=>by
  have k1:=next_lt hp h (by rw [hk];decide)
  have k2:=next_lt k1.2 h2 (fun e=>by have:=reads_kind hv;omega)
  have k3:=reads_siz hv k2.2
  have k4:=reads_le hv k2.2
  have k5:=names_siz hl k4.2 (by rw [List.length_append];simp;omega)
  rw [dictT_snoc he] at k5
  have k6:=siz_putL (tokV t).str v (dictT acc)
  omega
end
theorem names_inv {bs:List Nat} {last:Bool} {deep p:Nat} {acc l:List VT} {q:Nat} (h:Names bs last deep p acc l q):(l=acc/\∃ t,nextO bs p last=(0,t)/\t.kind=5/\q=t.to)\/∃ t u v q1,deep<64/\nextO bs p last=(0,t)/\t.kind=1/\t.vk=5/\findL (sb t.vs) (dictT acc)=none/\nextO bs t.to last=(0,u)/\Reads bs last deep u v q1/\Names bs last deep q1 (acc++[tokV t,v]) l q:=by
 cases h with
 |nil hp h hk=>exact .inl ⟨rfl,_,h,hk,rfl⟩
 |cons hp hd h hk hn hno h2 hv hl=>exact .inr ⟨_,_,_,_,hd,h,hk,hn,hno,h2,hv,hl⟩
theorem krow_chg {O:Nat->Prop} {w V:World} {A:Option Addr} {l:List VT} (h:@ro.KRow ⟨O⟩ w A l) (hc:Chg NoS w V):@ro.KRow ⟨O⟩ V A l:=fun j t ht=>by
 letI:ro.LBox:=⟨O⟩
 obtain⟨ad,e,had,hcell,hk⟩:=h j t ht
 refine⟨ad,e,had,fun i hi=>?_,hk.call hc⟩
 have h0:=hcell i hi
 rw [List.getElem?_eq_getElem (show i<e.cells.length from hi)] at h0 ⊢
 exact(hc.cell (cell_lt h0) (fun h=>h)).trans h0
structure DI (w wr:World) (B g8 g11 m c:Nat) (Ad:Option Addr) (D:List VT):Prop where
 b8:Blk wr g8 24 #[.int .i64 0,.int .i64 0,.string ⟨#[]⟩,.slice none 0 0]
 b11:Blk wr g11 24 #[.int .i64 7,.int .i64 0,.string ⟨#[]⟩,.slice Ad m c]
 chg:Chg NoS w wr
 v:Ins (fun i=>i<B) wr (.mk 7 0 ⟨#[]⟩ D) ⟨7,0,⟨#[]⟩,Ad,m,c⟩
 kr:@ro.KRow ⟨fun i=>i<B⟩ wr Ad D
 h8:w.heap.size<=g8/\g8<B
 h11:w.heap.size<=g11/\g11<B
 ne:g8≠g11
 le:B<=wr.heap.size
theorem DI.call {w wr V:World} {B g8 g11 m c:Nat} {Ad:Option Addr} {D:List VT} (h:DI w wr B g8 g11 m c Ad D) (hc:Chg NoS wr V):DI w V B g8 g11 m c Ad D :=
 ⟨h.b8.chg hc (fun e=>e),h.b11.chg hc (fun e=>e),h.chg.trans hc (fun _ _ e=>e),h.v.chg hc,krow_chg h.kr hc,h.h8,h.h11,h.ne,Nat.le_trans h.le hc.size⟩
theorem DI.put {w wr w':World} {B g8 g11 m c m' c':Nat} {Ad A':Option Addr} {D D':List VT} {es:List VC} (h:DI w wr B g8 g11 m c Ad D) (hp:@ro.GV ⟨fun i=>i<B⟩ wr w' es D' m' A' c') (hm:m'<=maxLen) :
  DI w ((((w'.setCell ⟨g11,0,none⟩ (.int .i64 7)).setCell ⟨g11,1,none⟩ (.int .i64 0)).setCell ⟨g11,2,none⟩ (.string ⟨#[]⟩)).setCell ⟨g11,3,none⟩ (.slice A' m' c')) B g8 g11 m' c' A' D':=by
 letI:ro.LBox:=⟨fun i=>i<B⟩
 have hc:=hp.chg
 have hO:Chg (fun i=>i<B) w' ((((w'.setCell ⟨g11,0,none⟩ (.int .i64 7)).setCell ⟨g11,1,none⟩ (.int .i64 0)).setCell ⟨g11,2,none⟩ (.string ⟨#[]⟩)).setCell ⟨g11,3,none⟩ (.slice A' m' c')):=set4_own w' g11 _ h.h11.2 _ _ _ _
 have hl:=fun V (hV:Chg (fun i=>i<B) w' V)=>ro.GV.laid hp (fun i (e:i<B)=>Nat.lt_of_lt_of_le e h.le) hV hm 0 ⟨#[]⟩ (by decide) (by decide)
 refine⟨?_,(h.b11.chg hc (fun e=>e)).four _ _ _ _,(h.chg.trans hc (fun _ _ e=>e)).four h.h11.1 _ _ _ _,fun V hV=>(hl V (hO.trans hV (fun _ _ e=>e))).1,(hl _ hO).2,h.h8,h.h11,h.ne,?_⟩
 ·exact((((h.b8.chg hc (fun e=>e)).far (p:=⟨g11,0,none⟩) h.ne _).far (p:=⟨g11,1,none⟩) h.ne _).far (p:=⟨g11,2,none⟩) h.ne _).far (p:=⟨g11,3,none⟩) h.ne _
 ·exact Nat.le_trans (Nat.le_trans h.le hc.size) hO.size
theorem DI.start (w:World):DI w ((w.alloc (.cells #[.int .i64 0,.int .i64 0,.string ⟨#[]⟩,.slice none 0 0] 24)).alloc (.cells #[.int .i64 7,.int .i64 0,.string ⟨#[]⟩,.slice none 0 0] 24)) (w.heap.size+1+1) w.heap.size (w.heap.size+1) 0 0 none []:=by
 have h2:=Blk.new (w.alloc (.cells #[.int .i64 0,.int .i64 0,.string ⟨#[]⟩,.slice none 0 0] 24)) 24 #[.int .i64 7,.int .i64 0,.string ⟨#[]⟩,.slice none 0 0]
 rw [World.size_alloc] at h2
 refine⟨(Blk.new w _ _).alloc _,h2,((Chg.refl NoS w).alloc _).alloc _,ins_leaf _ _ 7 0 ⟨#[]⟩ (by decide) (by decide) (Nat.zero_le _),fun j t h=>(by simp at h),⟨Nat.le_refl _,by omega⟩,⟨by omega,by omega⟩,by omega,?_⟩
 rw [World.size_alloc,World.size_alloc]
 omega
set_option maxHeartbeats 8000000 in
set_option maxRecDepth 100000 in
theorem r12dict_any (bs:List Nat) (A:Option Addr) (c:Nat) (last:Bool) (w:World) (hS:Src w 1 A bs.length c (lcells bs)) (hl:bs.length<=400000) (hc:bs.length<=c) (hb:∀ x∈bs,x<256) (deep:Nat) (hd:deep<=64) (H:RV12 bs A c last deep) (l:List VT) (p q:Nat) (hE:Names bs last deep p [] l q) (hp:p<=bs.length) :
  Calls Tryz.prog 107 #[.slice A bs.length c,.int .i64 (p:Nat),.bool last,.int .i64 (deep:Nat)] w (V12To w (.mk 7 0 ⟨#[]⟩ (dictT l)) q):=by
 have HNX:=kf (fun(p:Nat) (t:Tkn) (W:World) (hW:Chg NoS w W) (hp:p<=bs.length) (h:nextO bs p last=(0,t))=>next_at12 hS hW hl hc hb hp h)
 have HVL:=kf (fun(t:Tkn) (v:VT) (q p:Nat) (W:World) (hW:Chg NoS w W) (h:Reads bs last deep t v q) (hp:p<=bs.length) (hn:nextO bs p last=(0,t))=>(H t v q p W h hp hn (Src.below (w0:=w) hS hW)).mono fun _ _ h=>h.f)
 have HTV:=kf (fun(p:Nat) (t:Tkn) (h:nextO bs p last=(0,t)) (hk:t.kind=1)=>(show t.vs.length<=bs.length from by
  have h1:=next_val bs p last hb (by rw [h]) (by rw [h];exact hk)
  rw [h] at h1
  exact h1.1))
 have HE0:=kf hE
 have HD0:=kf (DI.start w)
 have hd0:dictT []=[]:=dictT_short (by decide)
 have HDN:=kf hd0
 obtain⟨N,hN⟩:∃ N,N=bs.length:=⟨_,rfl⟩
 have HN:=kf hN
 obtain⟨W0,hW0⟩:∃ W0,W0=(w.alloc (.cells #[.int .i64 0,.int .i64 0,.string ⟨#[]⟩,.slice none 0 0] 24)).alloc (.cells #[.int .i64 7,.int .i64 0,.string ⟨#[]⟩,.slice none 0 0] 24):=⟨_,rfl⟩
 obtain⟨B,hB⟩:∃ B,B=w.heap.size+1+1:=⟨_,rfl⟩
 obtain⟨g11,hg11⟩:∃ g11,g11=w.heap.size+1:=⟨_,rfl⟩
 obtain⟨g8,hg8⟩:∃ g8,g8=w.heap.size:=⟨_,rfl⟩
 rw [<- hW0,<- hB,<- hg11,<- hg8] at HD0
 rw [<- hN] at hp hl HVL HNX HTV ⊢
 have hN4:N<=400000:=hl
 clear hS hl hc hb H hE hN hd0 hB
 go_enter Tryz.func107,Tryz.ntmps107
 go_upto_region 4 with fail
 rw [<- hW0,<- hg11,<- hg8]
 clear hW0 hg11 hg8
 go_loopw [1,12,13] (fun va vt vn wr=>∃ (k pk m cc:Nat) (Ad:Option Addr),k<=pk/\pk<=N/\va=.int .i64 (pk:Nat)/\vt=.bool false/\vn=.int .i64 (k:Nat)/\Hid (∃ acc,DI w wr B g8 g11 m cc Ad (dictT acc)/\Names bs last deep pk acc l q/\acc.length%2=0/\sizL (dictT acc)<=pk)) (fun _ _ vn _=>N+1-(intOf vn).toNat)
 case atStart=>exact⟨0,p,0,0,none,by omega,hp,rfl,rfl,by go_num,⟨[],by rw [HDN.out];exact HD0.out,HE0.out,rfl,by rw [HDN.out,sizL];omega⟩⟩
 case round =>
  obtain⟨k,pk,m,cc,Ad,hk,hpk,rfl,rfl,rfl,HI⟩:=hrel
  obtain⟨acc,hdi,hnm,hev,hsz⟩:=HI.out
  have HDI:=kf hdi
  have hh8:=hdi.h8
  have d1:decide ((k:Int)<=N)=true:=by simp;omega
  have d1':decide (k<=N)=true:=by simp;omega
  rcases names_inv hnm with⟨hla,t,hn,h5,hq⟩|⟨t,u,v,qv,hdp,hn,hk1,hvk,hno,hn2,hv,hnl⟩
  ·have HNT:=kf (fun W hW=>HNX.out pk t W hW hpk hn)
   have HQ:=kf hq
   have HLA:=kf hla
   obtain⟨tk,tf,tt,tvk,tvn,tvs,ts⟩:=t
   simp only [] at h5 HQ
   subst h5
   unfold tknV at HNT
   simp only [] at HNT
   obtain⟨T6,hT6⟩:∃ T6,T6=sb tvs:=⟨_,rfl⟩
   obtain⟨T7,hT7⟩:∃ T7,T7=sb ts:=⟨_,rfl⟩
   rw [<- hT6,<- hT7] at HNT
   clear hdi hnm hev hsz hla hn hq hT6 hT7
   go_upto_region 7 with(go_at_call 37;refine(HNT.out _ HDI.out.chg).mono ?_;rintro e w3 ⟨rfl,hc3⟩;have HC3:=kf hc3;clear hc3)
   have HB14:=kf (Blk.new w3 67 #[.int .i64 5,.int .i64 (tf:Nat),.int .i64 (tt:Nat),.int .i64 (tvk:Nat),.int .i64 tvn,.string T6,.slice none 0 0,.string T7])
   have HC4:=kf (HC3.out.alloc (.cells #[.int .i64 5,.int .i64 (tf:Nat),.int .i64 (tt:Nat),.int .i64 (tvk:Nat),.int .i64 tvn,.string T6,.slice none 0 0,.string T7] 67))
   obtain⟨W4,hW4⟩:∃ W4,W4=w3.alloc (.cells #[.int .i64 5,.int .i64 (tf:Nat),.int .i64 (tt:Nat),.int .i64 (tvk:Nat),.int .i64 tvn,.string T6,.slice none 0 0,.string T7] 67):=⟨_,rfl⟩
   obtain⟨g14,hg14⟩:∃ g14,g14=w3.heap.size:=⟨_,rfl⟩
   have HDI4:=kf (HDI.out.call HC4.out)
   rw [<- hW4] at HB14 HC4 HDI4 ⊢
   rw [<- hg14] at HB14 ⊢
   have hn8:g8≠g14:=by have:=(HDI.out.call HC3.out).b8.lt;omega
   have hn11:g8≠g11:=HDI4.out.ne
   clear hW4 hg14
   obtain⟨q0,q1,q2,q3,q4,q5,q6,q7,_,_,_,_,_,_,_,_⟩:=HB14.out.cl8
   obtain⟨r0,r1,r2,r3,z0,z1,z2,z3⟩:=HDI4.out.b8.cl4
   obtain⟨p0,p1,p2,p3,_,_,_,_⟩:=HDI4.out.b11.cl4
   go_upto_region 12 with fail
   go_region
   have HB85:=kf (HDI4.out.b8.four (.int .i64 7) (.int .i64 0) (.string ⟨#[]⟩) (.slice Ad m cc))
   have HIN:=kf (HDI4.out.v.turn (O':=fun i=>i<w.heap.size) (set4_own W4 g8 (fun i=>i<B) hh8.2 (.int .i64 7) (.int .i64 0) (.string ⟨#[]⟩) (.slice Ad m cc)) (fun i _ e=>by omega))
   have HCF:=kf (HDI4.out.chg.four hh8.1 (.int .i64 7) (.int .i64 0) (.string ⟨#[]⟩) (.slice Ad m cc))
   obtain⟨W5,hW5⟩:∃ W5,W5=((((W4.setCell ⟨g8,0,none⟩ (.int .i64 7)).setCell ⟨g8,1,none⟩ (.int .i64 0)).setCell ⟨g8,2,none⟩ (.string ⟨#[]⟩)).setCell ⟨g8,3,none⟩ (.slice Ad m cc)):=⟨_,rfl⟩
   rw [<- hW5] at HB85 HIN HCF ⊢
   clear hW5 r0 r1 r2 r3 z0 z1 z2 z3 q0 q1 q2 q3 q4 q5 q6 q7 p0 p1 p2 p3
   obtain⟨r0,r1,r2,r3,_,_,_,_⟩:=HB85.out.drew.cl4
   go_wp2_with fail
   (try simp only [Exit.noGoto_ret])
   refine bodyPost_ret (v:=.tuple #[.agg #[.int .i64 7,.int .i64 0,.string ⟨#[]⟩,.slice Ad m cc],.int .i64 (tt:Nat),.int .i64 0]) (by simp [results,Tryz.results107,go_sem,r0,r1,r2,r3]) rfl ?_
   refine⟨⟨7,0,⟨#[]⟩,Ad,m,cc⟩,by rw [HQ.out];rfl,?_,HCF.out.drew⟩
   have h9:=HIN.out
   rw [<- HLA.out] at h9
   exact h9.chg (Chg.refl NoS W5).drew
  ·have hto:=next_lt (by rw [<- HN.out];exact hpk) hn (by rw [hk1];decide)
   have htu:=next_lt hto.2 hn2 (fun e=>by have:=reads_kind hv;omega)
   have hqv:=reads_le hv htu.2
   have hsv:=reads_siz hv htu.2
   have htl:t.to<=N:=by rw [HN.out];exact hto.2
   rw [<- HN.out] at hto htu hqv
   have hvl:=HTV.out pk t hn hk1
   have HNT:=kf (fun W hW=>HNX.out pk t W hW hpk hn)
   have HNU:=kf (fun W hW=>HNX.out t.to u W hW htl hn2)
   have HVT:=kf (fun W hW=>HVL.out u v qv t.to W hW hv htl hn2)
   have HNL:=kf hnl
   have HFI:=kf (show findI 7 (dictT acc) (sb t.vs)=-1 from by unfold findI;rw [if_pos rfl,hno])
   have HNO:=kf hno
   have HPU:=kf (show dictT (acc++[tokV t,v])=putL (sb t.vs) v (dictT acc) from dictT_snoc hev)
   have HEV:=kf (show(acc++[tokV t,v]).length%2=0 from by rw [List.length_append];simp;omega)
   have HSZ:=kf (show sizL (dictT (acc++[tokV t,v]))<=qv from by
    rw [HPU.out]
    have:=siz_putL (sb t.vs) v (dictT acc)
    omega)
   have HSA:=kf (show sizL (dictT acc)<=1000000000 from by omega)
   have hks:(sb t.vs).size<=maxLen:=by rw [sb_size];unfold maxLen;omega
   have HKS:=kf hks
   obtain⟨acc2,hacc2⟩:∃ acc2,acc2=acc++[tokV t,v]:=⟨_,rfl⟩
   rw [<- hacc2] at HPU HEV HSZ HNL
   obtain⟨tk,tf,tt,tvk,tvn,tvs,ts⟩:=t
   obtain⟨uk,uf,ut,uvk,uvn,uvs,us⟩:=u
   simp only [] at hk1 hvk hto htu hqv HFI HPU HKS HNO HNU
   subst hk1 hvk
   unfold tknV at HNT HNU HVT
   simp only [] at HNT HNU HVT
   obtain⟨T6,hT6⟩:∃ T6,T6=sb tvs:=⟨_,rfl⟩
   obtain⟨T7,hT7⟩:∃ T7,T7=sb ts:=⟨_,rfl⟩
   obtain⟨U6,hU6⟩:∃ U6,U6=sb uvs:=⟨_,rfl⟩
   obtain⟨U7,hU7⟩:∃ U7,U7=sb us:=⟨_,rfl⟩
   rw [<- hT6,<- hT7] at HNT
   rw [<- hU6,<- hU7] at HNU HVT
   rw [<- hT6] at HFI HPU HKS HNO
   have HFD:=kf (fun(W:World) (hI:DI w W B g8 g11 m cc Ad (dictT acc))=>(show Calls Tryz.prog 134 #[.agg #[.int .i64 7,.int .i64 0,.string ⟨#[]⟩,.slice Ad m cc],.string T6] W fun e w'=>e=.returned (.int .i64 (-1))/\Chg NoS W w' from by
    have h1:=rfind_any ⟨7,0,⟨#[]⟩,Ad,m,cc⟩ (dictT acc) T6 W hI.v.now HSA.out
    rw [HFI.out] at h1
    exact h1))
   have HPT:=kf (fun(W:World) (hI:DI w W B g8 g11 m cc Ad (dictT acc)) (ek en:Int) (es:ByteArray) (eA:Option Addr) (el ec:Nat) (hx:Ins (fun i=>i<B) W v ⟨ek,en,es,eA,el,ec⟩)=>(show Calls Tryz.prog 135 #[.agg #[.int .i64 7,.int .i64 0,.string ⟨#[]⟩,.slice Ad m cc],.string T6,.agg #[.int .i64 ek,.int .i64 en,.string es,.slice eA el ec]] W fun e w'=>∃ (m2 c2:Nat) (A2:Option Addr),e=.returned (.agg #[.int .i64 7,.int .i64 0,.string ⟨#[]⟩,.slice A2 m2 c2])/\DI w ((((w'.setCell ⟨g11,0,none⟩ (.int .i64 7)).setCell ⟨g11,1,none⟩ (.int .i64 0)).setCell ⟨g11,2,none⟩ (.string ⟨#[]⟩)).setCell ⟨g11,3,none⟩ (.slice A2 m2 c2)) B g8 g11 m2 c2 A2 (dictT acc2)/\Chg NoS W w' from by
    have h1:=@ro.kput_none ⟨fun i=>i<B⟩ ⟨7,0,⟨#[]⟩,Ad,m,cc⟩ ⟨ek,en,es,eA,el,ec⟩ (dictT acc) v T6 W hI.v.now hx hI.kr HSA.out HKS.out rfl HNO.out
    refine h1.mono fun e w' h=>?_
    obtain⟨es2,m2,A2,c2,h2,h3,h4,_,_,h5⟩:=h
    rw [<- HPU.out] at h3
    exact⟨m2,c2,A2,h2,hI.put h3 h4,h5⟩))
   have e0:((5:Int)==5)=true:=rfl
   have e64:decide ((64:Int)<=deep)=false:=by simp;omega
   have e64':decide (64<=deep)=false:=by simp;omega
   clear hdi hnm hev hsz hdp hn hno hn2 hv hnl hsv htl hvl hks hacc2 hT6 hT7 hU6 hU7
   go_upto_region 7 with(go_at_call 37;refine(HNT.out _ HDI.out.chg).mono ?_;rintro e w3 ⟨rfl,hc3⟩;have HC3:=kf hc3;clear hc3)
   have HB14:=kf (Blk.new w3 67 #[.int .i64 1,.int .i64 (tf:Nat),.int .i64 (tt:Nat),.int .i64 5,.int .i64 tvn,.string T6,.slice none 0 0,.string T7])
   have HC4:=kf (HC3.out.alloc (.cells #[.int .i64 1,.int .i64 (tf:Nat),.int .i64 (tt:Nat),.int .i64 5,.int .i64 tvn,.string T6,.slice none 0 0,.string T7] 67))
   obtain⟨W4,hW4⟩:∃ W4,W4=w3.alloc (.cells #[.int .i64 1,.int .i64 (tf:Nat),.int .i64 (tt:Nat),.int .i64 5,.int .i64 tvn,.string T6,.slice none 0 0,.string T7] 67):=⟨_,rfl⟩
   obtain⟨g14,hg14⟩:∃ g14,g14=w3.heap.size:=⟨_,rfl⟩
   have HDI4:=kf (HDI.out.call HC4.out)
   rw [<- hW4] at HB14 HC4 HDI4 ⊢
   rw [<- hg14] at HB14 ⊢
   have hne14:g14≠g11:=by have:=(HDI.out.call HC3.out).b11.lt;omega
   clear hW4 hg14
   obtain⟨q0,q1,q2,q3,q4,q5,q6,q7,_,_,_,_,_,_,_,_⟩:=HB14.out.cl8
   go_upto_region 20 with(go_at_call 37;refine(HNU.out _ HDI4.out.chg).mono ?_;rintro e w5 ⟨rfl,hc5⟩;have HC5:=kf hc5;clear hc5)
   have HB16:=kf (Blk.new w5 67 #[.int .i64 (uk:Nat),.int .i64 (uf:Nat),.int .i64 (ut:Nat),.int .i64 (uvk:Nat),.int .i64 uvn,.string U6,.slice none 0 0,.string U7])
   have HC6:=kf (HC5.out.alloc (.cells #[.int .i64 (uk:Nat),.int .i64 (uf:Nat),.int .i64 (ut:Nat),.int .i64 (uvk:Nat),.int .i64 uvn,.string U6,.slice none 0 0,.string U7] 67))
   obtain⟨W6,hW6⟩:∃ W6,W6=w5.alloc (.cells #[.int .i64 (uk:Nat),.int .i64 (uf:Nat),.int .i64 (ut:Nat),.int .i64 (uvk:Nat),.int .i64 uvn,.string U6,.slice none 0 0,.string U7] 67):=⟨_,rfl⟩
   obtain⟨g16,hg16⟩:∃ g16,g16=w5.heap.size:=⟨_,rfl⟩
   have HDI6:=kf (HDI4.out.call HC6.out)
   have HB146:=kf (HB14.out.chg HC6.out (fun e=>e))
   rw [<- hW6] at HB16 HC6 HDI6 HB146 ⊢
   rw [<- hg16] at HB16 ⊢
   clear hW6 hg16 q0 q1 q2 q3 q4 q5 q6 q7
   obtain⟨q0,q1,q2,q3,q4,q5,q6,q7,_,_,_,_,_,_,_,_⟩:=HB16.out.cl8
   go_upto_region 23 with(go_at_call 68;refine(HVT.out _ HDI6.out.chg).mono ?_;rintro e w7 ⟨ek,en,es',eA,el,ec,rfl,hin,hc7⟩;have HI7:=kf hin;have HC7:=kf hc7;clear hin hc7)
   have HB18:=kf (Blk.new w7 24 #[.int .i64 ek,.int .i64 en,.string es',.slice eA el ec])
   have HC8:=kf (HC7.out.alloc (.cells #[.int .i64 ek,.int .i64 en,.string es',.slice eA el ec] 24))
   have HI8:=kf ((HI7.out.chg ((Chg.refl NoS w7).alloc (.cells #[.int .i64 ek,.int .i64 en,.string es',.slice eA el ec] 24))).turn (O':=fun i=>i<B) (Chg.refl _ _) (fun i _ e=>Nat.lt_of_lt_of_le e HDI6.out.le))
   obtain⟨W8,hW8⟩:∃ W8,W8=w7.alloc (.cells #[.int .i64 ek,.int .i64 en,.string es',.slice eA el ec] 24):=⟨_,rfl⟩
   obtain⟨g18,hg18⟩:∃ g18,g18=w7.heap.size:=⟨_,rfl⟩
   have HDI8:=kf (HDI6.out.call HC8.out)
   have HB148:=kf (HB146.out.chg HC8.out (fun e=>e))
   rw [<- hW8] at HB18 HC8 HI8 HDI8 HB148 ⊢
   rw [<- hg18] at HB18 ⊢
   clear hW8 hg18 q0 q1 q2 q3 q4 q5 q6 q7
   obtain⟨q0,q1,q2,q3,q4,q5,q6,q7,_,_,_,_,_,_,_,_⟩:=HB148.out.cl8
   obtain⟨p0,p1,p2,p3,_,_,_,_⟩:=HDI8.out.b11.cl4
   have m1:decide ((0:Int)<=-1)=false:=by decide
   go_upto_region 26 with(go_at_call 134;refine(HFD.out _ HDI8.out).mono ?_;rintro e w9 ⟨rfl,hc9⟩;have HC9:=kf hc9;clear hc9)
   have HDI9:=kf (HDI8.out.call HC9.out)
   have HB149:=kf (HB148.out.chg HC9.out (fun e=>e))
   have HB189:=kf (HB18.out.chg HC9.out (fun e=>e))
   have HI9:=kf (HI8.out.chg HC9.out)
   clear q0 q1 q2 q3 q4 q5 q6 q7 p0 p1 p2 p3
   obtain⟨q0,q1,q2,q3,q4,q5,q6,q7,_,_,_,_,_,_,_,_⟩:=HB149.out.cl8
   obtain⟨p0,p1,p2,p3,_,_,_,_⟩:=HDI9.out.b11.cl4
   obtain⟨r0,r1,r2,r3,_,_,_,_⟩:=HB189.out.cl4
   go_wp2_with (go_at_call 135;refine(HPT.out _ HDI9.out _ _ _ _ _ _ HI9.out).mono ?_;rintro e w10 ⟨m2,c2,A2,rfl,hd10,hc10⟩;have HD10:=kf hd10;have hb10:=HDI9.out.b11.chg hc10 (fun e=>e);obtain⟨s0,s1,s2,s3,y0,y1,y2,y3⟩:=hb10.cl4;clear hd10 hc10 hb10)
   go_roundw
   case rel=>exact⟨k+1,qv,m2,c2,A2,by omega,by omega,rfl,rfl,by go_num,⟨acc2,HD10.out,HNL.out,HEV.out,HSZ.out⟩⟩
   case measure=>simp [intOf];omega
end Go.Proofs.YtcehpobjnbgpdaaGreatDoor
