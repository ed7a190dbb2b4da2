/- Merged by program. -/
import Derived.Test.YtcehpobjnbgpdaaGreatDoorC10
import Derived.Test.YtcehpobjnbgpdaaGreatDoorC24
set_option linter.unusedVariables false
set_option linter.unusedSimpArgs false
namespace Go.Proofs.YtcehpobjnbgpdaaGreatDoor
open Go.RowKit
set_option maxHeartbeats 40000000 in
set_option maxRecDepth 100000 in
theorem rnext_in (bs:List Nat) (A:Option Addr) (c p:Nat) (last:Bool) (w:World) (hS:Src w 1 A bs.length c (lcells bs)) (hl:bs.length<=400000) (hc:bs.length<=c) (hp:p<=bs.length) (hb:∀ x∈bs,x<256) :
  Calls Tryz.prog 37 #[.slice A bs.length c,.int .i64 (p:Nat),.bool last] w (NxTo w (nextO bs p last)):=by
 have HS:=kf hS
 have HB:=kf hb
 obtain⟨f,hf⟩:∃ f,f=p+skp false (bs.drop p):=⟨_,rfl⟩
 have hsl:=skp_le (bs.drop p) false
 rw [List.length_drop] at hsl
 have HSK:=kf (fun(W:World) (h:Chg NoS w W)=>rskip_in bs A c p W (Src.below (w0:=w) hS h) (by omega) hc hp)
 have HRN:=kf (fun(W:World) (h:Chg NoS w W) (q:Nat) (hq:q<=bs.length)=>rrun_any bs A c q W (Src.below (w0:=w) hS h) (by omega) hc hq)
 have HHX:=kf (fun(W:World) (h:Chg NoS w W) (q:Nat) (hq:q<=bs.length)=>rhexes_in bs A c q last W (Src.below (w0:=w) hS h) (by omega) hc hq hb)
 have HTX:=kf (fun(W:World) (h:Chg NoS w W) (q:Nat) (hq:q<=bs.length)=>rtext_in bs A c q last W (Src.below (w0:=w) hS h) (by omega) hc hq hb)
 rw [<- hf] at HSK
 have hfn:f<=bs.length:=by omega
 have HF:=kf hf
 have HNX:Hid (nextO bs p last=match bs.drop f with|[]=>(if last then 0 else 6,noT f)|c::l=>tokO last f c l):=by show _=_;rw [hf];rfl
 obtain⟨n,hn⟩:∃ n,n=bs.length:=⟨_,rfl⟩
 have HN:=kf hn
 rw [<- hn] at hl hc hp HSK HRN HHX HTX hfn ⊢
 have HB6:=kf (Blk.new w 67 #[.int .i64 0,.int .i64 0,.int .i64 0,.int .i64 0,.int .i64 0,.string ⟨#[]⟩,.slice none 0 0,.string ⟨#[]⟩])
 have HC0:=kf ((Chg.refl NoS w).alloc (.cells #[.int .i64 0,.int .i64 0,.int .i64 0,.int .i64 0,.int .i64 0,.string ⟨#[]⟩,.slice none 0 0,.string ⟨#[]⟩] 67))
 obtain⟨W0,hW0⟩:∃ W0,W0=w.alloc (.cells #[.int .i64 0,.int .i64 0,.int .i64 0,.int .i64 0,.int .i64 0,.string ⟨#[]⟩,.slice none 0 0,.string ⟨#[]⟩] 67):=⟨_,rfl⟩
 obtain⟨g,hg⟩:∃ g,g=w.heap.size:=⟨_,rfl⟩
 rw [<- hW0] at HB6 HC0
 rw [<- hg] at HB6
 have HGE:=kf (show w.heap.size<=g by omega)
 have hg9:g<W0.heap.size:=by rw [hW0,hg];simp
 clear hS hb hf hsl hn
 go_enter Tryz.func37,Tryz.ntmps37
 go_upto_region 3 with fail
 rw [<- hg,<- hW0]
 clear hg hW0
 have HSK1:=kf (HSK.out W0 HC0.out)
 go_upto_region 5 with(go_at_call 69;refine HSK1.out.mono ?_;rintro e w3 ⟨rfl,rfl⟩)
 -- BODY
 obtain⟨W1,hW1⟩:∃ W1,W1=W0.alloc (.cells #[.int .i64 0,.int .i64 (f:Nat),.int .i64 (f:Nat),.int .i64 0,.int .i64 0,.string ⟨#[]⟩,.slice none 0 0,.string ⟨#[]⟩] 67):=⟨_,rfl⟩
 obtain⟨g9,hg9e⟩:∃ g9,g9=W0.heap.size:=⟨_,rfl⟩
 have hb9:=Blk.new W0 67 #[.int .i64 0,.int .i64 (f:Nat),.int .i64 (f:Nat),.int .i64 0,.int .i64 0,.string ⟨#[]⟩,.slice none 0 0,.string ⟨#[]⟩]
 have hb6:=HB6.out.alloc (.cells #[.int .i64 0,.int .i64 (f:Nat),.int .i64 (f:Nat),.int .i64 0,.int .i64 0,.string ⟨#[]⟩,.slice none 0 0,.string ⟨#[]⟩] 67)
 have hc1:=HC0.out.alloc (.cells #[.int .i64 0,.int .i64 (f:Nat),.int .i64 (f:Nat),.int .i64 0,.int .i64 0,.string ⟨#[]⟩,.slice none 0 0,.string ⟨#[]⟩] 67)
 rw [<- hW1] at hb9 hb6 hc1
 rw [<- hg9e] at hb9
 have HB9:=kf hb9
 have HB61:=kf hb6
 have HC1:=kf hc1
 have HGG:=kf (show g≠g9 by omega)
 rw [<- hW1,<- hg9e]
 have q0:=HB9.out.cell 0
 have q1:=HB9.out.cell 1
 have q2:=HB9.out.cell 2
 have q3:=HB9.out.cell 3
 have q4:=HB9.out.cell 4
 have q5:=HB9.out.cell 5
 have q6:=HB9.out.cell 6
 have q7:=HB9.out.cell 7
 simp at q0 q1 q2 q3 q4 q5 q6 q7
 have z0:=HB61.out.frozen 0
 have z1:=HB61.out.frozen 1
 have z2:=HB61.out.frozen 2
 have z3:=HB61.out.frozen 3
 have z4:=HB61.out.frozen 4
 have z5:=HB61.out.frozen 5
 have z6:=HB61.out.frozen 6
 have z7:=HB61.out.frozen 7
 have y0:=HB61.out.cell 0
 have y1:=HB61.out.cell 1
 have y2:=HB61.out.cell 2
 have y3:=HB61.out.cell 3
 have y4:=HB61.out.cell 4
 have y5:=HB61.out.cell 5
 have y6:=HB61.out.cell 6
 have y7:=HB61.out.cell 7
 simp at y0 y1 y2 y3 y4 y5 y6 y7
 clear hb9 hb6 hc1 hW1 hg9e hg9
 by_cases hfn':f=n
 ·subst hfn'
  have HTK:=kf (show nextO bs p last=(if last then 0 else 6,noT f) from by rw [HNX.out,List.drop_of_length_le (by rw [<- HN.out];exact Nat.le_refl _)])
  cases last
  ·go_wp2_with fail
   (try simp only [Exit.noGoto_ret])
   have hb6:=HB61.out.eight (.int .i64 0) (.int .i64 (f:Nat)) (.int .i64 (f:Nat)) (.int .i64 0) (.int .i64 0) (.string ⟨#[]⟩) (.slice none 0 0) (.string ⟨#[]⟩)
   unfold set8 at hb6
   have r0:=hb6.cell 0
   have r1:=hb6.cell 1
   have r2:=hb6.cell 2
   have r3:=hb6.cell 3
   have r4:=hb6.cell 4
   have r5:=hb6.cell 5
   have r6:=hb6.cell 6
   have r7:=hb6.cell 7
   simp at r0 r1 r2 r3 r4 r5 r6 r7
   refine bodyPost_ret (v:=.tuple #[.agg #[.int .i64 0,.int .i64 (f:Nat),.int .i64 (f:Nat),.int .i64 0,.int .i64 0,.string ⟨#[]⟩,.slice none 0 0,.string ⟨#[]⟩],.int .i64 6]) (by simp [results,Tryz.results37,go_sem,r0,r1,r2,r3,r4,r5,r6,r7]) rfl ?_
   exact⟨by rw [HTK.out];first|done|rfl,HC1.out.eight HGE.out _ _ _ _ _ _ _ _⟩
  ·go_wp2_with fail
   (try simp only [Exit.noGoto_ret])
   have hb6:=HB61.out.eight (.int .i64 0) (.int .i64 (f:Nat)) (.int .i64 (f:Nat)) (.int .i64 0) (.int .i64 0) (.string ⟨#[]⟩) (.slice none 0 0) (.string ⟨#[]⟩)
   unfold set8 at hb6
   have r0:=hb6.cell 0
   have r1:=hb6.cell 1
   have r2:=hb6.cell 2
   have r3:=hb6.cell 3
   have r4:=hb6.cell 4
   have r5:=hb6.cell 5
   have r6:=hb6.cell 6
   have r7:=hb6.cell 7
   simp at r0 r1 r2 r3 r4 r5 r6 r7
   refine bodyPost_ret (v:=.tuple #[.agg #[.int .i64 0,.int .i64 (f:Nat),.int .i64 (f:Nat),.int .i64 0,.int .i64 0,.string ⟨#[]⟩,.slice none 0 0,.string ⟨#[]⟩],.int .i64 0]) (by simp [results,Tryz.results37,go_sem,r0,r1,r2,r3,r4,r5,r6,r7]) rfl ?_
   exact⟨by rw [HTK.out];first|done|rfl,HC1.out.eight HGE.out _ _ _ _ _ _ _ _⟩
 have hfl:f<n:=by omega
 obtain⟨x,hx,hd⟩:=drop_at (bs:=bs) (k:=f) (by rw [<- HN.out];exact hfl)
 obtain⟨b,off,rfl,hcell⟩:=lcell HS.out HC1.out (by rw [<- HN.out];omega)
 have c0:=hcell f x hx
 have HCELL:=kf hcell
 have hx256:x<256:=HB.out x (List.mem_of_getElem? hx)
 have HD:=kf hd
 have i1:(f:Int)<n:=by omega
 obtain⟨l,hl0⟩:∃ l,l=bs.drop (f+1):=⟨_,rfl⟩
 have HLL:=kf hl0
 have HLN:=kf (show l.length=n-(f+1) from by rw [hl0,List.length_drop,<- HN.out])
 have HTK0:=kf (show nextO bs p last=tokO last f x l from by rw [HNX.out,hd,hl0])
 have HRN1:=kf (HRN.out W1 HC1.out f (by omega))
 have hrg:rgs (bs.drop f)=if isRg x then rgs l+1 else 0:=by rw [hd,rgs,hl0]
 obtain⟨e0,he0⟩:∃ e0,e0=f+rgs (bs.drop f):=⟨_,rfl⟩
 rw [<- he0] at HRN1
 have HE0:=kf (show e0=f+(if isRg x then rgs l+1 else 0) from by rw [he0,hrg])
 have hrl:=rgs_le (bs.drop f)
 rw [List.length_drop,<- HN.out] at hrl
 have he0n:e0<=n:=by omega
 have hpre:(skp false (bs.drop p))<(bs.drop p).length:=by rw [List.length_drop,<- HN.out];have:=HF.out;omega
 have hsp:isSp x=false/\x≠37:=by
  obtain⟨c',m',hd',h1',h2'⟩:=skp_stop (bs.drop p) false hpre
  rw [List.drop_drop,<- HF.out,HD.out] at hd'
  cases hd'
  exact⟨h1',h2'⟩
 have HSPX:=kf hsp
 have HDLM:=kf (fun(W:World)=>rdelim_any x W)
 clear hcell hx hd hl0 hrg he0 hrl hpre hsp
 go_upto_region 12 with(go_at_call 70;refine HRN1.out.mono ?_;rintro e w3 ⟨rfl,rfl⟩)
 have j1:IntKind.i64.wrap ((f:Int)+1)=(f:Int)+1:=by rw [IntKind.wrap_i64];omega
 by_cases h91:x=91
 ·subst h91
  have HTK:=kf (HTK0.out.trans (tok_91))
  go_wp2_with fail
  (try simp only [Exit.noGoto_ret])
  have hb6:=HB61.out.eight (.int .i64 2) (.int .i64 (f:Nat)) (.int .i64 ((f:Int)+1)) (.int .i64 0) (.int .i64 0) (.string ⟨#[]⟩) (.slice none 0 0) (.string ⟨#[]⟩)
  unfold set8 at hb6
  have r0:=hb6.cell 0
  have r1:=hb6.cell 1
  have r2:=hb6.cell 2
  have r3:=hb6.cell 3
  have r4:=hb6.cell 4
  have r5:=hb6.cell 5
  have r6:=hb6.cell 6
  have r7:=hb6.cell 7
  simp at r0 r1 r2 r3 r4 r5 r6 r7
  refine bodyPost_ret (v:=.tuple #[.agg #[.int .i64 2,.int .i64 (f:Nat),.int .i64 ((f:Int)+1),.int .i64 0,.int .i64 0,.string ⟨#[]⟩,.slice none 0 0,.string ⟨#[]⟩],.int .i64 0]) (by simp [results,Tryz.results37,go_sem,r0,r1,r2,r3,r4,r5,r6,r7]) rfl ?_
  exact⟨by rw [HTK.out];first|done|rfl,HC1.out.eight HGE.out _ _ _ _ _ _ _ _⟩
 by_cases h93:x=93
 ·subst h93
  have HTK:=kf (HTK0.out.trans (tok_93))
  go_wp2_with fail
  (try simp only [Exit.noGoto_ret])
  have hb6:=HB61.out.eight (.int .i64 3) (.int .i64 (f:Nat)) (.int .i64 ((f:Int)+1)) (.int .i64 0) (.int .i64 0) (.string ⟨#[]⟩) (.slice none 0 0) (.string ⟨#[]⟩)
  unfold set8 at hb6
  have r0:=hb6.cell 0
  have r1:=hb6.cell 1
  have r2:=hb6.cell 2
  have r3:=hb6.cell 3
  have r4:=hb6.cell 4
  have r5:=hb6.cell 5
  have r6:=hb6.cell 6
  have r7:=hb6.cell 7
  simp at r0 r1 r2 r3 r4 r5 r6 r7
  refine bodyPost_ret (v:=.tuple #[.agg #[.int .i64 3,.int .i64 (f:Nat),.int .i64 ((f:Int)+1),.int .i64 0,.int .i64 0,.string ⟨#[]⟩,.slice none 0 0,.string ⟨#[]⟩],.int .i64 0]) (by simp [results,Tryz.results37,go_sem,r0,r1,r2,r3,r4,r5,r6,r7]) rfl ?_
  exact⟨by rw [HTK.out];first|done|rfl,HC1.out.eight HGE.out _ _ _ _ _ _ _ _⟩
 by_cases h60:x=60
 ·subst h60
  clear h91 h93
  by_cases hn1:f+1<n
  ·skip
   obtain⟨y,hy,hdy⟩:=drop_at (bs:=bs) (k:=f+1) (by rw [<- HN.out];exact hn1)
   have c1:=HCELL.out (f+1) y hy
   have c2:=c1
   rw [show off+(f+1)=off+f+1 from by omega] at c2
   have i2:(f:Int)+1<n:=by omega
   have i3:(0:Int)<=(f:Int)+1:=by omega
   have i4:((f:Int)+1).toNat=f+1:=by omega
   have HLY:=kf (show l=y::bs.drop (f+1+1) from by rw [HLL.out,hdy])
   clear hy hdy
   by_cases hy:y=60
   ·subst hy
    have HTK:=kf (HTK0.out.trans (tok_6060 (by rw [HLY.out];rfl)))
    go_wp2_with fail
    (try simp only [Exit.noGoto_ret])
    have hb6:=HB61.out.eight (.int .i64 4) (.int .i64 (f:Nat)) (.int .i64 ((f:Int)+2)) (.int .i64 0) (.int .i64 0) (.string ⟨#[]⟩) (.slice none 0 0) (.string ⟨#[]⟩)
    unfold set8 at hb6
    have r0:=hb6.cell 0
    have r1:=hb6.cell 1
    have r2:=hb6.cell 2
    have r3:=hb6.cell 3
    have r4:=hb6.cell 4
    have r5:=hb6.cell 5
    have r6:=hb6.cell 6
    have r7:=hb6.cell 7
    simp at r0 r1 r2 r3 r4 r5 r6 r7
    refine bodyPost_ret (v:=.tuple #[.agg #[.int .i64 4,.int .i64 (f:Nat),.int .i64 ((f:Int)+2),.int .i64 0,.int .i64 0,.string ⟨#[]⟩,.slice none 0 0,.string ⟨#[]⟩],.int .i64 0]) (by simp [results,Tryz.results37,go_sem,r0,r1,r2,r3,r4,r5,r6,r7]) rfl ?_
    exact⟨by rw [HTK.out];first|done|rfl,HC1.out.eight HGE.out _ _ _ _ _ _ _ _⟩
   ·have u0:((y:Int)==60)=false:=by simp;omega
    have HTKR:=kf (HTK0.out.trans (tokO_60 last f l (by rw [HLY.out];simpa using hy)))
    clear hy
    have hxc:=HHX.out W1 HC1.out (f+1) (by omega)
    rw [show((f+1:Nat):Int)=(f:Int)+1 from by omega,<- HLL.out] at hxc
    obtain⟨R,hR⟩:∃ R,R=hexO last [] (f+1) l:=⟨_,rfl⟩
    rw [<- hR] at hxc HTKR
    obtain⟨er,out,tt⟩:=R
    have HXC:=kf hxc
    clear hxc hR
    go_upto_region 26 with(go_at_call 71;refine HXC.out.mono ?_;rintro e w3 ⟨A2,c2',m2,hm2,rfl,hg2⟩;have HM2:=kf hm2;have HG2:=kf hg2;clear hm2 hg2)
    have HC3:=kf (HC1.out.trans HG2.out.chg (fun _ _ e=>e))
    have HB63:=kf (HB61.out.chg HG2.out.chg (fun e=>e))
    have HB93:=kf (HB9.out.chg HG2.out.chg (fun e=>e))
    clear q0 q1 q2 q3 q4 q5 q6 q7 z0 z1 z2 z3 z4 z5 z6 z7 y0 y1 y2 y3 y4 y5 y6 y7
    have q0:=HB93.out.cell 0
    have q1:=HB93.out.cell 1
    have q2:=HB93.out.cell 2
    have q3:=HB93.out.cell 3
    have q4:=HB93.out.cell 4
    have q5:=HB93.out.cell 5
    have q6:=HB93.out.cell 6
    have q7:=HB93.out.cell 7
    simp at q0 q1 q2 q3 q4 q5 q6 q7
    have z0:=HB63.out.frozen 0
    have z1:=HB63.out.frozen 1
    have z2:=HB63.out.frozen 2
    have z3:=HB63.out.frozen 3
    have z4:=HB63.out.frozen 4
    have z5:=HB63.out.frozen 5
    have z6:=HB63.out.frozen 6
    have z7:=HB63.out.frozen 7
    have y0:=HB63.out.cell 0
    have y1:=HB63.out.cell 1
    have y2:=HB63.out.cell 2
    have y3:=HB63.out.cell 3
    have y4:=HB63.out.cell 4
    have y5:=HB63.out.cell 5
    have y6:=HB63.out.cell 6
    have y7:=HB63.out.cell 7
    simp at y0 y1 y2 y3 y4 y5 y6 y7
    by_cases her0:er=0
    ·subst her0
     have hcv:=conv_l (src_own HG2.out.own)
     have HTK:=kf (HTKR.out.trans (if_neg (fun e=>e rfl)))
     go_wp2_with fail
     (try simp only [Exit.noGoto_ret])
     have hb6:=HB63.out.eight (.int .i64 1) (.int .i64 (f:Nat)) (.int .i64 ((tt:Nat))) (.int .i64 4) (.int .i64 0) (.string (sb out)) (.slice none 0 0) (.string ⟨#[]⟩)
     unfold set8 at hb6
     have r0:=hb6.cell 0
     have r1:=hb6.cell 1
     have r2:=hb6.cell 2
     have r3:=hb6.cell 3
     have r4:=hb6.cell 4
     have r5:=hb6.cell 5
     have r6:=hb6.cell 6
     have r7:=hb6.cell 7
     simp at r0 r1 r2 r3 r4 r5 r6 r7
     refine bodyPost_ret (v:=.tuple #[.agg #[.int .i64 1,.int .i64 (f:Nat),.int .i64 ((tt:Nat)),.int .i64 4,.int .i64 0,.string (sb out),.slice none 0 0,.string ⟨#[]⟩],.int .i64 0]) (by simp [results,Tryz.results37,go_sem,r0,r1,r2,r3,r4,r5,r6,r7]) rfl ?_
     exact⟨by rw [HTK.out];first|done|rfl,HC3.out.eight HGE.out _ _ _ _ _ _ _ _⟩
    ·have HTK:=kf (HTKR.out.trans (if_pos her0))
     have v2:(er != 0)=true:=by simpa using her0
     have v3:(er==0)=false:=by simpa using her0
     clear her0
     go_wp2_with fail
     (try simp only [Exit.noGoto_ret])
     have hb6:=HB63.out.eight (.int .i64 0) (.int .i64 (f:Nat)) (.int .i64 (f:Nat)) (.int .i64 0) (.int .i64 0) (.string ⟨#[]⟩) (.slice none 0 0) (.string ⟨#[]⟩)
     unfold set8 at hb6
     have r0:=hb6.cell 0
     have r1:=hb6.cell 1
     have r2:=hb6.cell 2
     have r3:=hb6.cell 3
     have r4:=hb6.cell 4
     have r5:=hb6.cell 5
     have r6:=hb6.cell 6
     have r7:=hb6.cell 7
     simp at r0 r1 r2 r3 r4 r5 r6 r7
     refine bodyPost_ret (v:=.tuple #[.agg #[.int .i64 0,.int .i64 (f:Nat),.int .i64 (f:Nat),.int .i64 0,.int .i64 0,.string ⟨#[]⟩,.slice none 0 0,.string ⟨#[]⟩],.int .i64 er]) (by simp [results,Tryz.results37,go_sem,r0,r1,r2,r3,r4,r5,r6,r7]) rfl ?_
     exact⟨by rw [HTK.out];first|done|rfl,HC3.out.eight HGE.out _ _ _ _ _ _ _ _⟩
  ·have hln:Hid (l=[]):=List.eq_nil_of_length_eq_zero (by rw [HLN.out];omega)
   have i2:¬((f:Int)+1<n):=by omega
   have HTKR:=kf (HTK0.out.trans (tokO_60 last f l (by rw [hln.out];simp)))
   have hxc:=HHX.out W1 HC1.out (f+1) (by omega)
   rw [show((f+1:Nat):Int)=(f:Int)+1 from by omega,<- HLL.out] at hxc
   obtain⟨R,hR⟩:∃ R,R=hexO last [] (f+1) l:=⟨_,rfl⟩
   rw [<- hR] at hxc HTKR
   obtain⟨er,out,tt⟩:=R
   have HXC:=kf hxc
   clear hxc hR
   go_upto_region 26 with(go_at_call 71;refine HXC.out.mono ?_;rintro e w3 ⟨A2,c2',m2,hm2,rfl,hg2⟩;have HM2:=kf hm2;have HG2:=kf hg2;clear hm2 hg2)
   have HC3:=kf (HC1.out.trans HG2.out.chg (fun _ _ e=>e))
   have HB63:=kf (HB61.out.chg HG2.out.chg (fun e=>e))
   have HB93:=kf (HB9.out.chg HG2.out.chg (fun e=>e))
   clear q0 q1 q2 q3 q4 q5 q6 q7 z0 z1 z2 z3 z4 z5 z6 z7 y0 y1 y2 y3 y4 y5 y6 y7
   have q0:=HB93.out.cell 0
   have q1:=HB93.out.cell 1
   have q2:=HB93.out.cell 2
   have q3:=HB93.out.cell 3
   have q4:=HB93.out.cell 4
   have q5:=HB93.out.cell 5
   have q6:=HB93.out.cell 6
   have q7:=HB93.out.cell 7
   simp at q0 q1 q2 q3 q4 q5 q6 q7
   have z0:=HB63.out.frozen 0
   have z1:=HB63.out.frozen 1
   have z2:=HB63.out.frozen 2
   have z3:=HB63.out.frozen 3
   have z4:=HB63.out.frozen 4
   have z5:=HB63.out.frozen 5
   have z6:=HB63.out.frozen 6
   have z7:=HB63.out.frozen 7
   have y0:=HB63.out.cell 0
   have y1:=HB63.out.cell 1
   have y2:=HB63.out.cell 2
   have y3:=HB63.out.cell 3
   have y4:=HB63.out.cell 4
   have y5:=HB63.out.cell 5
   have y6:=HB63.out.cell 6
   have y7:=HB63.out.cell 7
   simp at y0 y1 y2 y3 y4 y5 y6 y7
   by_cases her0:er=0
   ·subst her0
    have hcv:=conv_l (src_own HG2.out.own)
    have HTK:=kf (HTKR.out.trans (if_neg (fun e=>e rfl)))
    go_wp2_with fail
    (try simp only [Exit.noGoto_ret])
    have hb6:=HB63.out.eight (.int .i64 1) (.int .i64 (f:Nat)) (.int .i64 ((tt:Nat))) (.int .i64 4) (.int .i64 0) (.string (sb out)) (.slice none 0 0) (.string ⟨#[]⟩)
    unfold set8 at hb6
    have r0:=hb6.cell 0
    have r1:=hb6.cell 1
    have r2:=hb6.cell 2
    have r3:=hb6.cell 3
    have r4:=hb6.cell 4
    have r5:=hb6.cell 5
    have r6:=hb6.cell 6
    have r7:=hb6.cell 7
    simp at r0 r1 r2 r3 r4 r5 r6 r7
    refine bodyPost_ret (v:=.tuple #[.agg #[.int .i64 1,.int .i64 (f:Nat),.int .i64 ((tt:Nat)),.int .i64 4,.int .i64 0,.string (sb out),.slice none 0 0,.string ⟨#[]⟩],.int .i64 0]) (by simp [results,Tryz.results37,go_sem,r0,r1,r2,r3,r4,r5,r6,r7]) rfl ?_
    exact⟨by rw [HTK.out];first|done|rfl,HC3.out.eight HGE.out _ _ _ _ _ _ _ _⟩
   ·have HTK:=kf (HTKR.out.trans (if_pos her0))
    have v2:(er != 0)=true:=by simpa using her0
    have v3:(er==0)=false:=by simpa using her0
    clear her0
    go_wp2_with fail
    (try simp only [Exit.noGoto_ret])
    have hb6:=HB63.out.eight (.int .i64 0) (.int .i64 (f:Nat)) (.int .i64 (f:Nat)) (.int .i64 0) (.int .i64 0) (.string ⟨#[]⟩) (.slice none 0 0) (.string ⟨#[]⟩)
    unfold set8 at hb6
    have r0:=hb6.cell 0
    have r1:=hb6.cell 1
    have r2:=hb6.cell 2
    have r3:=hb6.cell 3
    have r4:=hb6.cell 4
    have r5:=hb6.cell 5
    have r6:=hb6.cell 6
    have r7:=hb6.cell 7
    simp at r0 r1 r2 r3 r4 r5 r6 r7
    refine bodyPost_ret (v:=.tuple #[.agg #[.int .i64 0,.int .i64 (f:Nat),.int .i64 (f:Nat),.int .i64 0,.int .i64 0,.string ⟨#[]⟩,.slice none 0 0,.string ⟨#[]⟩],.int .i64 er]) (by simp [results,Tryz.results37,go_sem,r0,r1,r2,r3,r4,r5,r6,r7]) rfl ?_
    exact⟨by rw [HTK.out];first|done|rfl,HC3.out.eight HGE.out _ _ _ _ _ _ _ _⟩
 by_cases h62:x=62
 ·subst h62
  clear h91 h93 h60
  have HDL1:=kf (HDLM.out W1)
  rw [show isDl 62=true from rfl] at HDL1
  by_cases hn1:f+1<n
  ·skip
   obtain⟨y,hy,hdy⟩:=drop_at (bs:=bs) (k:=f+1) (by rw [<- HN.out];exact hn1)
   have c1:=HCELL.out (f+1) y hy
   have c2:=c1
   rw [show off+(f+1)=off+f+1 from by omega] at c2
   have i2:(f:Int)+1<n:=by omega
   have i3:(0:Int)<=(f:Int)+1:=by omega
   have i4:((f:Int)+1).toNat=f+1:=by omega
   have HLY:=kf (show l=y::bs.drop (f+1+1) from by rw [HLL.out,hdy])
   clear hy hdy
   have i6:((f:Int)+1==n)=false:=by simp;omega
   have i7:¬(f+1=n):=by omega
   by_cases hy:y=62
   ·subst hy
    have HTK:=kf (HTK0.out.trans (tok_6262 (by rw [HLY.out];rfl)))
    go_wp2_with fail
    (try simp only [Exit.noGoto_ret])
    have hb6:=HB61.out.eight (.int .i64 5) (.int .i64 (f:Nat)) (.int .i64 ((f:Int)+2)) (.int .i64 0) (.int .i64 0) (.string ⟨#[]⟩) (.slice none 0 0) (.string ⟨#[]⟩)
    unfold set8 at hb6
    have r0:=hb6.cell 0
    have r1:=hb6.cell 1
    have r2:=hb6.cell 2
    have r3:=hb6.cell 3
    have r4:=hb6.cell 4
    have r5:=hb6.cell 5
    have r6:=hb6.cell 6
    have r7:=hb6.cell 7
    simp at r0 r1 r2 r3 r4 r5 r6 r7
    refine bodyPost_ret (v:=.tuple #[.agg #[.int .i64 5,.int .i64 (f:Nat),.int .i64 ((f:Int)+2),.int .i64 0,.int .i64 0,.string ⟨#[]⟩,.slice none 0 0,.string ⟨#[]⟩],.int .i64 0]) (by simp [results,Tryz.results37,go_sem,r0,r1,r2,r3,r4,r5,r6,r7]) rfl ?_
    exact⟨by rw [HTK.out];first|done|rfl,HC1.out.eight HGE.out _ _ _ _ _ _ _ _⟩
   ·have u0:((y:Int)==62)=false:=by simp;omega
    have HTK:=kf (HTK0.out.trans (tok_62f (by rw [HLY.out];simpa using hy) (by rw [HLY.out];simp)))
    clear hy
    go_wp2_with (go_at_call 31;refine HDL1.out.mono ?_;rintro e w3 ⟨rfl,rfl⟩)
    (try simp only [Exit.noGoto_ret])
    have hb6:=HB61.out.eight (.int .i64 0) (.int .i64 (f:Nat)) (.int .i64 (f:Nat)) (.int .i64 0) (.int .i64 0) (.string ⟨#[]⟩) (.slice none 0 0) (.string ⟨#[]⟩)
    unfold set8 at hb6
    have r0:=hb6.cell 0
    have r1:=hb6.cell 1
    have r2:=hb6.cell 2
    have r3:=hb6.cell 3
    have r4:=hb6.cell 4
    have r5:=hb6.cell 5
    have r6:=hb6.cell 6
    have r7:=hb6.cell 7
    simp at r0 r1 r2 r3 r4 r5 r6 r7
    refine bodyPost_ret (v:=.tuple #[.agg #[.int .i64 0,.int .i64 (f:Nat),.int .i64 (f:Nat),.int .i64 0,.int .i64 0,.string ⟨#[]⟩,.slice none 0 0,.string ⟨#[]⟩],.int .i64 11]) (by simp [results,Tryz.results37,go_sem,r0,r1,r2,r3,r4,r5,r6,r7]) rfl ?_
    exact⟨by rw [HTK.out];first|done|rfl,HC1.out.eight HGE.out _ _ _ _ _ _ _ _⟩
  ·have hln:Hid (l=[]):=List.eq_nil_of_length_eq_zero (by rw [HLN.out];omega)
   have i2:¬((f:Int)+1<n):=by omega
   have i5:(f:Int)+1=n:=by omega
   have i6:((f:Int)+1==n)=true:=by simp;omega
   cases last
   ·have HTK:=kf (HTK0.out.trans (tok_62m hln.out rfl))
    go_wp2_with fail
    (try simp only [Exit.noGoto_ret])
    have hb6:=HB61.out.eight (.int .i64 0) (.int .i64 (f:Nat)) (.int .i64 (f:Nat)) (.int .i64 0) (.int .i64 0) (.string ⟨#[]⟩) (.slice none 0 0) (.string ⟨#[]⟩)
    unfold set8 at hb6
    have r0:=hb6.cell 0
    have r1:=hb6.cell 1
    have r2:=hb6.cell 2
    have r3:=hb6.cell 3
    have r4:=hb6.cell 4
    have r5:=hb6.cell 5
    have r6:=hb6.cell 6
    have r7:=hb6.cell 7
    simp at r0 r1 r2 r3 r4 r5 r6 r7
    refine bodyPost_ret (v:=.tuple #[.agg #[.int .i64 0,.int .i64 (f:Nat),.int .i64 (f:Nat),.int .i64 0,.int .i64 0,.string ⟨#[]⟩,.slice none 0 0,.string ⟨#[]⟩],.int .i64 6]) (by simp [results,Tryz.results37,go_sem,r0,r1,r2,r3,r4,r5,r6,r7]) rfl ?_
    exact⟨by rw [HTK.out];first|done|rfl,HC1.out.eight HGE.out _ _ _ _ _ _ _ _⟩
   ·have HTK:=kf (HTK0.out.trans (tok_62f (by rw [hln.out];simp) (fun e=>by cases e.2)))
    go_wp2_with (go_at_call 31;refine HDL1.out.mono ?_;rintro e w3 ⟨rfl,rfl⟩)
    (try simp only [Exit.noGoto_ret])
    have hb6:=HB61.out.eight (.int .i64 0) (.int .i64 (f:Nat)) (.int .i64 (f:Nat)) (.int .i64 0) (.int .i64 0) (.string ⟨#[]⟩) (.slice none 0 0) (.string ⟨#[]⟩)
    unfold set8 at hb6
    have r0:=hb6.cell 0
    have r1:=hb6.cell 1
    have r2:=hb6.cell 2
    have r3:=hb6.cell 3
    have r4:=hb6.cell 4
    have r5:=hb6.cell 5
    have r6:=hb6.cell 6
    have r7:=hb6.cell 7
    simp at r0 r1 r2 r3 r4 r5 r6 r7
    refine bodyPost_ret (v:=.tuple #[.agg #[.int .i64 0,.int .i64 (f:Nat),.int .i64 (f:Nat),.int .i64 0,.int .i64 0,.string ⟨#[]⟩,.slice none 0 0,.string ⟨#[]⟩],.int .i64 11]) (by simp [results,Tryz.results37,go_sem,r0,r1,r2,r3,r4,r5,r6,r7]) rfl ?_
    exact⟨by rw [HTK.out];first|done|rfl,HC1.out.eight HGE.out _ _ _ _ _ _ _ _⟩
 by_cases h40:x=40
 ·subst h40
  clear h91 h93 h60 h62
  have HTKR0:=kf (HTK0.out.trans tok_40)
  have hxc:=HHX.out W1 HC1.out (f+1) (by omega)
  rw [show((f+1:Nat):Int)=(f:Int)+1 from by omega] at hxc
  have HXC:=kf hxc
  have HXT0:=kf (fun(W:World) (h:Chg NoS w W)=>HTX.out W h (f+1) (by omega))
  rw [show((f+1:Nat):Int)=(f:Int)+1 from by omega,<- HLL.out] at HXT0
  obtain⟨R,hR⟩:∃ R,R=txtO last 1 [] (f+1) l:=⟨_,rfl⟩
  rw [<- hR] at HXT0 HTKR0
  obtain⟨er,out,tt⟩:=R
  have HTKR:=HTKR0
  clear hxc hR
  go_upto_region 26 with(first
   |(go_at_call 71;refine HXC.out.mono ?_;rintro e w2 ⟨A2,c2',m2,hm2,rfl,hg2⟩;have HC2:=kf (HC1.out.trans hg2.chg (fun _ _ e=>e));have HCX:=kf hg2.chg;have HXT:=kf (HXT0.out w2 HC2.out);clear hm2 hg2)
   |(go_at_call 72;refine HXT.out.mono ?_;rintro e w3 ⟨A3,c3',m3,hm3,rfl,hg3⟩;have HG2:=kf hg3;have HCY:=kf (HCX.out.trans hg3.chg (fun _ _ e=>e));clear hm3 hg3))
  have HC3:=kf (HC1.out.trans HCY.out (fun _ _ e=>e))
  have HB63:=kf (HB61.out.chg HCY.out (fun e=>e))
  have HB93:=kf (HB9.out.chg HCY.out (fun e=>e))
  clear q0 q1 q2 q3 q4 q5 q6 q7 z0 z1 z2 z3 z4 z5 z6 z7 y0 y1 y2 y3 y4 y5 y6 y7
  have q0:=HB93.out.cell 0
  have q1:=HB93.out.cell 1
  have q2:=HB93.out.cell 2
  have q3:=HB93.out.cell 3
  have q4:=HB93.out.cell 4
  have q5:=HB93.out.cell 5
  have q6:=HB93.out.cell 6
  have q7:=HB93.out.cell 7
  simp at q0 q1 q2 q3 q4 q5 q6 q7
  have z0:=HB63.out.frozen 0
  have z1:=HB63.out.frozen 1
  have z2:=HB63.out.frozen 2
  have z3:=HB63.out.frozen 3
  have z4:=HB63.out.frozen 4
  have z5:=HB63.out.frozen 5
  have z6:=HB63.out.frozen 6
  have z7:=HB63.out.frozen 7
  have y0:=HB63.out.cell 0
  have y1:=HB63.out.cell 1
  have y2:=HB63.out.cell 2
  have y3:=HB63.out.cell 3
  have y4:=HB63.out.cell 4
  have y5:=HB63.out.cell 5
  have y6:=HB63.out.cell 6
  have y7:=HB63.out.cell 7
  simp at y0 y1 y2 y3 y4 y5 y6 y7
  by_cases her0:er=0
  ·subst her0
   have hcv:=conv_l (src_own HG2.out.own)
   have HTK:=kf (HTKR.out.trans (if_neg (fun e=>e rfl)))
   go_wp2_with fail
   (try simp only [Exit.noGoto_ret])
   have hb6:=HB63.out.eight (.int .i64 1) (.int .i64 (f:Nat)) (.int .i64 ((tt:Nat))) (.int .i64 4) (.int .i64 0) (.string (sb out)) (.slice none 0 0) (.string ⟨#[]⟩)
   unfold set8 at hb6
   have r0:=hb6.cell 0
   have r1:=hb6.cell 1
   have r2:=hb6.cell 2
   have r3:=hb6.cell 3
   have r4:=hb6.cell 4
   have r5:=hb6.cell 5
   have r6:=hb6.cell 6
   have r7:=hb6.cell 7
   simp at r0 r1 r2 r3 r4 r5 r6 r7
   refine bodyPost_ret (v:=.tuple #[.agg #[.int .i64 1,.int .i64 (f:Nat),.int .i64 ((tt:Nat)),.int .i64 4,.int .i64 0,.string (sb out),.slice none 0 0,.string ⟨#[]⟩],.int .i64 0]) (by simp [results,Tryz.results37,go_sem,r0,r1,r2,r3,r4,r5,r6,r7]) rfl ?_
   exact⟨by rw [HTK.out];first|done|rfl,HC3.out.eight HGE.out _ _ _ _ _ _ _ _⟩
  ·have HTK:=kf (HTKR.out.trans (if_pos her0))
   have v2:(er != 0)=true:=by simpa using her0
   have v3:(er==0)=false:=by simpa using her0
   clear her0
   go_wp2_with fail
   (try simp only [Exit.noGoto_ret])
   have hb6:=HB63.out.eight (.int .i64 0) (.int .i64 (f:Nat)) (.int .i64 (f:Nat)) (.int .i64 0) (.int .i64 0) (.string ⟨#[]⟩) (.slice none 0 0) (.string ⟨#[]⟩)
   unfold set8 at hb6
   have r0:=hb6.cell 0
   have r1:=hb6.cell 1
   have r2:=hb6.cell 2
   have r3:=hb6.cell 3
   have r4:=hb6.cell 4
   have r5:=hb6.cell 5
   have r6:=hb6.cell 6
   have r7:=hb6.cell 7
   simp at r0 r1 r2 r3 r4 r5 r6 r7
   refine bodyPost_ret (v:=.tuple #[.agg #[.int .i64 0,.int .i64 (f:Nat),.int .i64 (f:Nat),.int .i64 0,.int .i64 0,.string ⟨#[]⟩,.slice none 0 0,.string ⟨#[]⟩],.int .i64 er]) (by simp [results,Tryz.results37,go_sem,r0,r1,r2,r3,r4,r5,r6,r7]) rfl ?_
   exact⟨by rw [HTK.out];first|done|rfl,HC3.out.eight HGE.out _ _ _ _ _ _ _ _⟩
 by_cases h47:x=47
 ·subst h47
  clear h91 h93 h60 h62 h40
  have hr1:=HRN.out W1 HC1.out (f+1) (by omega)
  rw [show((f+1:Nat):Int)=(f:Int)+1 from by omega,<- HLL.out] at hr1
  have hrl2:=rgs_le l
  obtain⟨e1,he1⟩:∃ e1,e1=f+1+rgs l:=⟨_,rfl⟩
  rw [<- he1] at hr1
  have HR1:=kf hr1
  have HE1:=kf he1
  have he1n:e1<=n:=by have:=HLN.out;omega
  have he1c:e1<=c:=by omega
  have he1d:(e1:Int)<=c:=by omega
  have he1f:(f:Int)+1<=e1:=by omega
  have he1g:f+1<=e1:=by omega
  have HTKR0:=kf (HTK0.out.trans tok_47)
  rw [<- HE1.out] at HTKR0
  clear hr1 he1
  go_upto_region 31 with(go_at_call 70;refine HR1.out.mono ?_;rintro e w3 ⟨rfl,rfl⟩)
  by_cases hen:e1=n
  ·have hm9:Hid (rgs l=l.length):=by show _=_;have:=HE1.out;have:=HLN.out;omega
   subst hen
   cases last
   ·have HTK:=kf (HTKR0.out.trans (if_pos ⟨hm9.out,rfl⟩))
    clear hrl2
    go_wp2_with fail
    (try simp only [Exit.noGoto_ret])
    have hb6:=HB61.out.eight (.int .i64 0) (.int .i64 (f:Nat)) (.int .i64 (f:Nat)) (.int .i64 0) (.int .i64 0) (.string ⟨#[]⟩) (.slice none 0 0) (.string ⟨#[]⟩)
    unfold set8 at hb6
    have r0:=hb6.cell 0
    have r1:=hb6.cell 1
    have r2:=hb6.cell 2
    have r3:=hb6.cell 3
    have r4:=hb6.cell 4
    have r5:=hb6.cell 5
    have r6:=hb6.cell 6
    have r7:=hb6.cell 7
    simp at r0 r1 r2 r3 r4 r5 r6 r7
    refine bodyPost_ret (v:=.tuple #[.agg #[.int .i64 0,.int .i64 (f:Nat),.int .i64 (f:Nat),.int .i64 0,.int .i64 0,.string ⟨#[]⟩,.slice none 0 0,.string ⟨#[]⟩],.int .i64 6]) (by simp [results,Tryz.results37,go_sem,r0,r1,r2,r3,r4,r5,r6,r7]) rfl ?_
    exact⟨by rw [HTK.out];first|done|rfl,HC1.out.eight HGE.out _ _ _ _ _ _ _ _⟩
   ·have HTKR:=kf (HTKR0.out.trans (if_neg (fun e=>by cases e.2)))
    clear hrl2
    have hwl:(l.take (rgs l)).length=rgs l:=by rw [List.length_take];have:=rgs_le l;omega
    have hSw:Src w 1 (cutL (some ⟨b,off,none⟩) (f+1) c) (rgs l) (c-(f+1)) (lcells (l.take (rgs l))):=by
     have h:=src_cutL (lo:=f+1) (m:=rgs l) HS.out (by rw [<- HN.out];exact hc) (by rw [<- HN.out];have:=HE1.out;omega)
     have e:((lcells bs).drop (f+1)).take (rgs l)=lcells (l.take (rgs l)):=by
      unfold lcells
      rw [<- List.map_drop,<- List.map_take,HLL.out]
     rwa [e] at h
    have hnm:=rname_in (l.take (rgs l)) (cutL (some ⟨b,off,none⟩) (f+1) c) (c-(f+1)) W1 (by rw [hwl];exact Src.below (w0:=w) hSw HC1.out) (by rw [hwl];have:=HE1.out;omega) (by rw [hwl];have:=HE1.out;omega) (fun z hz=>HB.out z (by have h:=List.mem_of_mem_take hz;rw [HLL.out] at h;exact List.mem_of_mem_drop h))
    rw [hwl,cutL_some] at hnm
    obtain⟨ws,hws⟩:∃ ws,ws=l.take (rgs l):=⟨_,rfl⟩
    rw [<- hws] at hnm HTKR
    obtain⟨R,hR⟩:∃ R,R=nameO ws:=⟨_,rfl⟩
    rw [<- hR] at hnm HTKR
    rw [show rgs l=e1-(f+1) from by have:=HE1.out;omega] at hnm
    obtain⟨er,out⟩:=R
    clear hwl hSw hws hR
    by_cases her0:er=0
    ·subst her0
     have hv:nmV (0,out)=.tuple #[.agg #[.int .i64 5,.int .i64 0,.string (sb out),.slice none 0 0],.int .i64 0]:=rfl
     have HTK:=kf (HTKR.out.trans (if_neg (fun e=>e rfl)))
     rw [hv] at hnm
     have HNM:=kf hnm
     clear hnm hv
     go_upto_region 34 with(go_at_call 73;refine HNM.out.mono ?_;rintro e w3 ⟨rfl,hc3⟩;have HCY:=kf hc3;clear hc3)
     have HV:=kf (Blk.new w3 24 #[.int .i64 5,.int .i64 0,.string (sb out),.slice none 0 0])
     have HCZ:=kf (HCY.out.alloc (.cells #[.int .i64 5,.int .i64 0,.string (sb out),.slice none 0 0] 24))
     obtain⟨W4,hW4⟩:∃ W4,W4=w3.alloc (.cells #[.int .i64 5,.int .i64 0,.string (sb out),.slice none 0 0] 24):=⟨_,rfl⟩
     obtain⟨gv,hgv⟩:∃ gv,gv=w3.heap.size:=⟨_,rfl⟩
     rw [<- hW4] at HV HCZ
     rw [<- hgv] at HV
     rw [<- hW4,<- hgv]
     have v0:=HV.out.cell 0
     have v1:=HV.out.cell 1
     have v4:=HV.out.cell 2
     have v5:=HV.out.cell 3
     simp at v0 v1 v4 v5
     clear hW4 hgv
     have HC3:=kf (HC1.out.trans HCZ.out (fun _ _ e=>e))
     have HB63:=kf (HB61.out.chg HCZ.out (fun e=>e))
     have HB93:=kf (HB9.out.chg HCZ.out (fun e=>e))
     clear q0 q1 q2 q3 q4 q5 q6 q7 z0 z1 z2 z3 z4 z5 z6 z7 y0 y1 y2 y3 y4 y5 y6 y7
     have q0:=HB93.out.cell 0
     have q1:=HB93.out.cell 1
     have q2:=HB93.out.cell 2
     have q3:=HB93.out.cell 3
     have q4:=HB93.out.cell 4
     have q5:=HB93.out.cell 5
     have q6:=HB93.out.cell 6
     have q7:=HB93.out.cell 7
     simp at q0 q1 q2 q3 q4 q5 q6 q7
     have z0:=HB63.out.frozen 0
     have z1:=HB63.out.frozen 1
     have z2:=HB63.out.frozen 2
     have z3:=HB63.out.frozen 3
     have z4:=HB63.out.frozen 4
     have z5:=HB63.out.frozen 5
     have z6:=HB63.out.frozen 6
     have z7:=HB63.out.frozen 7
     have y0:=HB63.out.cell 0
     have y1:=HB63.out.cell 1
     have y2:=HB63.out.cell 2
     have y3:=HB63.out.cell 3
     have y4:=HB63.out.cell 4
     have y5:=HB63.out.cell 5
     have y6:=HB63.out.cell 6
     have y7:=HB63.out.cell 7
     simp at y0 y1 y2 y3 y4 y5 y6 y7
     go_wp2_with fail
     all_goals
      (try simp only [Exit.noGoto_ret])
      have hb6:=HB63.out.eight (.int .i64 1) (.int .i64 (f:Nat)) (.int .i64 ((e1:Nat))) (.int .i64 5) (.int .i64 0) (.string (sb out)) (.slice none 0 0) (.string ⟨#[]⟩)
      unfold set8 at hb6
      have r0:=hb6.cell 0
      have r1:=hb6.cell 1
      have r2:=hb6.cell 2
      have r3:=hb6.cell 3
      have r4:=hb6.cell 4
      have r5:=hb6.cell 5
      have r6:=hb6.cell 6
      have r7:=hb6.cell 7
      simp at r0 r1 r2 r3 r4 r5 r6 r7
      refine bodyPost_ret (v:=.tuple #[.agg #[.int .i64 1,.int .i64 (f:Nat),.int .i64 ((e1:Nat)),.int .i64 5,.int .i64 0,.string (sb out),.slice none 0 0,.string ⟨#[]⟩],.int .i64 0]) (by simp [results,Tryz.results37,go_sem,r0,r1,r2,r3,r4,r5,r6,r7]) rfl ?_
      exact⟨by rw [HTK.out];first|done|rfl,HC3.out.eight HGE.out _ _ _ _ _ _ _ _⟩
    ·have hv:nmV (er,out)=.tuple #[.agg #[.int .i64 0,.int .i64 0,.string (sb out),.slice none 0 0],.int .i64 er]:=by unfold nmV;simp only [];rw [if_neg her0]
     have HTK:=kf (HTKR.out.trans (if_pos her0))
     have v2:(er != 0)=true:=by simpa using her0
     have v3:(er==0)=false:=by simpa using her0
     clear her0
     rw [hv] at hnm
     have HNM:=kf hnm
     clear hnm hv
     go_upto_region 34 with(go_at_call 73;refine HNM.out.mono ?_;rintro e w3 ⟨rfl,hc3⟩;have HCY:=kf hc3;clear hc3)
     have HV:=kf (Blk.new w3 24 #[.int .i64 0,.int .i64 0,.string (sb out),.slice none 0 0])
     have HCZ:=kf (HCY.out.alloc (.cells #[.int .i64 0,.int .i64 0,.string (sb out),.slice none 0 0] 24))
     obtain⟨W4,hW4⟩:∃ W4,W4=w3.alloc (.cells #[.int .i64 0,.int .i64 0,.string (sb out),.slice none 0 0] 24):=⟨_,rfl⟩
     obtain⟨gv,hgv⟩:∃ gv,gv=w3.heap.size:=⟨_,rfl⟩
     rw [<- hW4] at HV HCZ
     rw [<- hgv] at HV
     rw [<- hW4,<- hgv]
     have v0:=HV.out.cell 0
     have v1:=HV.out.cell 1
     have v4:=HV.out.cell 2
     have v5:=HV.out.cell 3
     simp at v0 v1 v4 v5
     clear hW4 hgv
     have HC3:=kf (HC1.out.trans HCZ.out (fun _ _ e=>e))
     have HB63:=kf (HB61.out.chg HCZ.out (fun e=>e))
     have HB93:=kf (HB9.out.chg HCZ.out (fun e=>e))
     clear q0 q1 q2 q3 q4 q5 q6 q7 z0 z1 z2 z3 z4 z5 z6 z7 y0 y1 y2 y3 y4 y5 y6 y7
     have q0:=HB93.out.cell 0
     have q1:=HB93.out.cell 1
     have q2:=HB93.out.cell 2
     have q3:=HB93.out.cell 3
     have q4:=HB93.out.cell 4
     have q5:=HB93.out.cell 5
     have q6:=HB93.out.cell 6
     have q7:=HB93.out.cell 7
     simp at q0 q1 q2 q3 q4 q5 q6 q7
     have z0:=HB63.out.frozen 0
     have z1:=HB63.out.frozen 1
     have z2:=HB63.out.frozen 2
     have z3:=HB63.out.frozen 3
     have z4:=HB63.out.frozen 4
     have z5:=HB63.out.frozen 5
     have z6:=HB63.out.frozen 6
     have z7:=HB63.out.frozen 7
     have y0:=HB63.out.cell 0
     have y1:=HB63.out.cell 1
     have y2:=HB63.out.cell 2
     have y3:=HB63.out.cell 3
     have y4:=HB63.out.cell 4
     have y5:=HB63.out.cell 5
     have y6:=HB63.out.cell 6
     have y7:=HB63.out.cell 7
     simp at y0 y1 y2 y3 y4 y5 y6 y7
     go_wp2_with fail
     all_goals
      (try simp only [Exit.noGoto_ret])
      have hb6:=HB63.out.eight (.int .i64 0) (.int .i64 (f:Nat)) (.int .i64 (f:Nat)) (.int .i64 0) (.int .i64 0) (.string ⟨#[]⟩) (.slice none 0 0) (.string ⟨#[]⟩)
      unfold set8 at hb6
      have r0:=hb6.cell 0
      have r1:=hb6.cell 1
      have r2:=hb6.cell 2
      have r3:=hb6.cell 3
      have r4:=hb6.cell 4
      have r5:=hb6.cell 5
      have r6:=hb6.cell 6
      have r7:=hb6.cell 7
      simp at r0 r1 r2 r3 r4 r5 r6 r7
      refine bodyPost_ret (v:=.tuple #[.agg #[.int .i64 0,.int .i64 (f:Nat),.int .i64 (f:Nat),.int .i64 0,.int .i64 0,.string ⟨#[]⟩,.slice none 0 0,.string ⟨#[]⟩],.int .i64 er]) (by simp [results,Tryz.results37,go_sem,r0,r1,r2,r3,r4,r5,r6,r7]) rfl ?_
      exact⟨by rw [HTK.out];first|done|rfl,HC3.out.eight HGE.out _ _ _ _ _ _ _ _⟩
  ·have i6:((e1:Int)==n)=false:=by simp;omega
   have HTKR:=kf (HTKR0.out.trans (if_neg (fun e=>hen (by have:=e.1;have:=HE1.out;have:=HLN.out;omega))))
   clear hrl2 hen
   have hwl:(l.take (rgs l)).length=rgs l:=by rw [List.length_take];have:=rgs_le l;omega
   have hSw:Src w 1 (cutL (some ⟨b,off,none⟩) (f+1) c) (rgs l) (c-(f+1)) (lcells (l.take (rgs l))):=by
    have h:=src_cutL (lo:=f+1) (m:=rgs l) HS.out (by rw [<- HN.out];exact hc) (by rw [<- HN.out];have:=HE1.out;omega)
    have e:((lcells bs).drop (f+1)).take (rgs l)=lcells (l.take (rgs l)):=by
     unfold lcells
     rw [<- List.map_drop,<- List.map_take,HLL.out]
    rwa [e] at h
   have hnm:=rname_in (l.take (rgs l)) (cutL (some ⟨b,off,none⟩) (f+1) c) (c-(f+1)) W1 (by rw [hwl];exact Src.below (w0:=w) hSw HC1.out) (by rw [hwl];have:=HE1.out;omega) (by rw [hwl];have:=HE1.out;omega) (fun z hz=>HB.out z (by have h:=List.mem_of_mem_take hz;rw [HLL.out] at h;exact List.mem_of_mem_drop h))
   rw [hwl,cutL_some] at hnm
   obtain⟨ws,hws⟩:∃ ws,ws=l.take (rgs l):=⟨_,rfl⟩
   rw [<- hws] at hnm HTKR
   obtain⟨R,hR⟩:∃ R,R=nameO ws:=⟨_,rfl⟩
   rw [<- hR] at hnm HTKR
   rw [show rgs l=e1-(f+1) from by have:=HE1.out;omega] at hnm
   obtain⟨er,out⟩:=R
   clear hwl hSw hws hR
   by_cases her0:er=0
   ·subst her0
    have hv:nmV (0,out)=.tuple #[.agg #[.int .i64 5,.int .i64 0,.string (sb out),.slice none 0 0],.int .i64 0]:=rfl
    have HTK:=kf (HTKR.out.trans (if_neg (fun e=>e rfl)))
    rw [hv] at hnm
    have HNM:=kf hnm
    clear hnm hv
    go_upto_region 34 with(go_at_call 73;refine HNM.out.mono ?_;rintro e w3 ⟨rfl,hc3⟩;have HCY:=kf hc3;clear hc3)
    have HV:=kf (Blk.new w3 24 #[.int .i64 5,.int .i64 0,.string (sb out),.slice none 0 0])
    have HCZ:=kf (HCY.out.alloc (.cells #[.int .i64 5,.int .i64 0,.string (sb out),.slice none 0 0] 24))
    obtain⟨W4,hW4⟩:∃ W4,W4=w3.alloc (.cells #[.int .i64 5,.int .i64 0,.string (sb out),.slice none 0 0] 24):=⟨_,rfl⟩
    obtain⟨gv,hgv⟩:∃ gv,gv=w3.heap.size:=⟨_,rfl⟩
    rw [<- hW4] at HV HCZ
    rw [<- hgv] at HV
    rw [<- hW4,<- hgv]
    have v0:=HV.out.cell 0
    have v1:=HV.out.cell 1
    have v4:=HV.out.cell 2
    have v5:=HV.out.cell 3
    simp at v0 v1 v4 v5
    clear hW4 hgv
    have HC3:=kf (HC1.out.trans HCZ.out (fun _ _ e=>e))
    have HB63:=kf (HB61.out.chg HCZ.out (fun e=>e))
    have HB93:=kf (HB9.out.chg HCZ.out (fun e=>e))
    clear q0 q1 q2 q3 q4 q5 q6 q7 z0 z1 z2 z3 z4 z5 z6 z7 y0 y1 y2 y3 y4 y5 y6 y7
    have q0:=HB93.out.cell 0
    have q1:=HB93.out.cell 1
    have q2:=HB93.out.cell 2
    have q3:=HB93.out.cell 3
    have q4:=HB93.out.cell 4
    have q5:=HB93.out.cell 5
    have q6:=HB93.out.cell 6
    have q7:=HB93.out.cell 7
    simp at q0 q1 q2 q3 q4 q5 q6 q7
    have z0:=HB63.out.frozen 0
    have z1:=HB63.out.frozen 1
    have z2:=HB63.out.frozen 2
    have z3:=HB63.out.frozen 3
    have z4:=HB63.out.frozen 4
    have z5:=HB63.out.frozen 5
    have z6:=HB63.out.frozen 6
    have z7:=HB63.out.frozen 7
    have y0:=HB63.out.cell 0
    have y1:=HB63.out.cell 1
    have y2:=HB63.out.cell 2
    have y3:=HB63.out.cell 3
    have y4:=HB63.out.cell 4
    have y5:=HB63.out.cell 5
    have y6:=HB63.out.cell 6
    have y7:=HB63.out.cell 7
    simp at y0 y1 y2 y3 y4 y5 y6 y7
    go_wp2_with fail
    all_goals
     (try simp only [Exit.noGoto_ret])
     have hb6:=HB63.out.eight (.int .i64 1) (.int .i64 (f:Nat)) (.int .i64 ((e1:Nat))) (.int .i64 5) (.int .i64 0) (.string (sb out)) (.slice none 0 0) (.string ⟨#[]⟩)
     unfold set8 at hb6
     have r0:=hb6.cell 0
     have r1:=hb6.cell 1
     have r2:=hb6.cell 2
     have r3:=hb6.cell 3
     have r4:=hb6.cell 4
     have r5:=hb6.cell 5
     have r6:=hb6.cell 6
     have r7:=hb6.cell 7
     simp at r0 r1 r2 r3 r4 r5 r6 r7
     refine bodyPost_ret (v:=.tuple #[.agg #[.int .i64 1,.int .i64 (f:Nat),.int .i64 ((e1:Nat)),.int .i64 5,.int .i64 0,.string (sb out),.slice none 0 0,.string ⟨#[]⟩],.int .i64 0]) (by simp [results,Tryz.results37,go_sem,r0,r1,r2,r3,r4,r5,r6,r7]) rfl ?_
     exact⟨by rw [HTK.out];first|done|rfl,HC3.out.eight HGE.out _ _ _ _ _ _ _ _⟩
   ·have hv:nmV (er,out)=.tuple #[.agg #[.int .i64 0,.int .i64 0,.string (sb out),.slice none 0 0],.int .i64 er]:=by unfold nmV;simp only [];rw [if_neg her0]
    have HTK:=kf (HTKR.out.trans (if_pos her0))
    have v2:(er != 0)=true:=by simpa using her0
    have v3:(er==0)=false:=by simpa using her0
    clear her0
    rw [hv] at hnm
    have HNM:=kf hnm
    clear hnm hv
    go_upto_region 34 with(go_at_call 73;refine HNM.out.mono ?_;rintro e w3 ⟨rfl,hc3⟩;have HCY:=kf hc3;clear hc3)
    have HV:=kf (Blk.new w3 24 #[.int .i64 0,.int .i64 0,.string (sb out),.slice none 0 0])
    have HCZ:=kf (HCY.out.alloc (.cells #[.int .i64 0,.int .i64 0,.string (sb out),.slice none 0 0] 24))
    obtain⟨W4,hW4⟩:∃ W4,W4=w3.alloc (.cells #[.int .i64 0,.int .i64 0,.string (sb out),.slice none 0 0] 24):=⟨_,rfl⟩
    obtain⟨gv,hgv⟩:∃ gv,gv=w3.heap.size:=⟨_,rfl⟩
    rw [<- hW4] at HV HCZ
    rw [<- hgv] at HV
    rw [<- hW4,<- hgv]
    have v0:=HV.out.cell 0
    have v1:=HV.out.cell 1
    have v4:=HV.out.cell 2
    have v5:=HV.out.cell 3
    simp at v0 v1 v4 v5
    clear hW4 hgv
    have HC3:=kf (HC1.out.trans HCZ.out (fun _ _ e=>e))
    have HB63:=kf (HB61.out.chg HCZ.out (fun e=>e))
    have HB93:=kf (HB9.out.chg HCZ.out (fun e=>e))
    clear q0 q1 q2 q3 q4 q5 q6 q7 z0 z1 z2 z3 z4 z5 z6 z7 y0 y1 y2 y3 y4 y5 y6 y7
    have q0:=HB93.out.cell 0
    have q1:=HB93.out.cell 1
    have q2:=HB93.out.cell 2
    have q3:=HB93.out.cell 3
    have q4:=HB93.out.cell 4
    have q5:=HB93.out.cell 5
    have q6:=HB93.out.cell 6
    have q7:=HB93.out.cell 7
    simp at q0 q1 q2 q3 q4 q5 q6 q7
    have z0:=HB63.out.frozen 0
    have z1:=HB63.out.frozen 1
    have z2:=HB63.out.frozen 2
    have z3:=HB63.out.frozen 3
    have z4:=HB63.out.frozen 4
    have z5:=HB63.out.frozen 5
    have z6:=HB63.out.frozen 6
    have z7:=HB63.out.frozen 7
    have y0:=HB63.out.cell 0
    have y1:=HB63.out.cell 1
    have y2:=HB63.out.cell 2
    have y3:=HB63.out.cell 3
    have y4:=HB63.out.cell 4
    have y5:=HB63.out.cell 5
    have y6:=HB63.out.cell 6
    have y7:=HB63.out.cell 7
    simp at y0 y1 y2 y3 y4 y5 y6 y7
    go_wp2_with fail
    all_goals
     (try simp only [Exit.noGoto_ret])
     have hb6:=HB63.out.eight (.int .i64 0) (.int .i64 (f:Nat)) (.int .i64 (f:Nat)) (.int .i64 0) (.int .i64 0) (.string ⟨#[]⟩) (.slice none 0 0) (.string ⟨#[]⟩)
     unfold set8 at hb6
     have r0:=hb6.cell 0
     have r1:=hb6.cell 1
     have r2:=hb6.cell 2
     have r3:=hb6.cell 3
     have r4:=hb6.cell 4
     have r5:=hb6.cell 5
     have r6:=hb6.cell 6
     have r7:=hb6.cell 7
     simp at r0 r1 r2 r3 r4 r5 r6 r7
     refine bodyPost_ret (v:=.tuple #[.agg #[.int .i64 0,.int .i64 (f:Nat),.int .i64 (f:Nat),.int .i64 0,.int .i64 0,.string ⟨#[]⟩,.slice none 0 0,.string ⟨#[]⟩],.int .i64 er]) (by simp [results,Tryz.results37,go_sem,r0,r1,r2,r3,r4,r5,r6,r7]) rfl ?_
     exact⟨by rw [HTK.out];first|done|rfl,HC3.out.eight HGE.out _ _ _ _ _ _ _ _⟩
 have u91:((x:Int)==91)=false:=by simp;omega
 have u93:((x:Int)==93)=false:=by simp;omega
 have u60:((x:Int)==60)=false:=by simp;omega
 have u62:((x:Int)==62)=false:=by simp;omega
 have u40:((x:Int)==40)=false:=by simp;omega
 have u47:((x:Int)==47)=false:=by simp;omega
 have HTKR0:=kf (HTK0.out.trans (tok_rest h91 h93 h60 h62 h40 h47))
 have HDL1:=kf (HDLM.out W1)
 clear h91 h93 h60 h62 h40 h47
 by_cases hdl:isDl x=true
 ·have HTK:=kf (HTKR0.out.trans (if_pos hdl))
  rw [hdl] at HDL1
  clear hdl
  go_wp2_with (go_at_call 31;refine HDL1.out.mono ?_;rintro e w3 ⟨rfl,rfl⟩)
  (try simp only [Exit.noGoto_ret])
  have hb6:=HB61.out.eight (.int .i64 0) (.int .i64 (f:Nat)) (.int .i64 (f:Nat)) (.int .i64 0) (.int .i64 0) (.string ⟨#[]⟩) (.slice none 0 0) (.string ⟨#[]⟩)
  unfold set8 at hb6
  have r0:=hb6.cell 0
  have r1:=hb6.cell 1
  have r2:=hb6.cell 2
  have r3:=hb6.cell 3
  have r4:=hb6.cell 4
  have r5:=hb6.cell 5
  have r6:=hb6.cell 6
  have r7:=hb6.cell 7
  simp at r0 r1 r2 r3 r4 r5 r6 r7
  refine bodyPost_ret (v:=.tuple #[.agg #[.int .i64 0,.int .i64 (f:Nat),.int .i64 (f:Nat),.int .i64 0,.int .i64 0,.string ⟨#[]⟩,.slice none 0 0,.string ⟨#[]⟩],.int .i64 11]) (by simp [results,Tryz.results37,go_sem,r0,r1,r2,r3,r4,r5,r6,r7]) rfl ?_
  exact⟨by rw [HTK.out];first|done|rfl,HC1.out.eight HGE.out _ _ _ _ _ _ _ _⟩
 have HE1:=kf (show e0=f+1+rgs l from by
  have h:=HE0.out
  rw [if_pos (show isRg x=true from by simp [isRg,HSPX.out.1,hdl])] at h
  omega)
 have HTKR1:=kf (HTKR0.out.trans (if_neg hdl))
 rw [<- HE1.out] at HTKR1
 rw [show isDl x=false from by simpa using hdl] at HDL1
 have he0c:e0<=c:=by omega
 have he0d:(e0:Int)<=c:=by omega
 have he0f:(f:Int)<=e0:=by have:=HE1.out;omega
 have he0g:f<=e0:=by have:=HE1.out;omega
 clear hdl
 by_cases hen:e0=n
 ·have hm9:Hid (rgs l=l.length):=by show _=_;have:=HE1.out;have:=HLN.out;omega
  subst hen
  cases last
  ·have HTK:=kf (HTKR1.out.trans (if_pos ⟨hm9.out,rfl⟩))
   go_wp2_with (go_at_call 31;refine HDL1.out.mono ?_;rintro e w3 ⟨rfl,rfl⟩)
   (try simp only [Exit.noGoto_ret])
   have hb6:=HB61.out.eight (.int .i64 0) (.int .i64 (f:Nat)) (.int .i64 (f:Nat)) (.int .i64 0) (.int .i64 0) (.string ⟨#[]⟩) (.slice none 0 0) (.string ⟨#[]⟩)
   unfold set8 at hb6
   have r0:=hb6.cell 0
   have r1:=hb6.cell 1
   have r2:=hb6.cell 2
   have r3:=hb6.cell 3
   have r4:=hb6.cell 4
   have r5:=hb6.cell 5
   have r6:=hb6.cell 6
   have r7:=hb6.cell 7
   simp at r0 r1 r2 r3 r4 r5 r6 r7
   refine bodyPost_ret (v:=.tuple #[.agg #[.int .i64 0,.int .i64 (f:Nat),.int .i64 (f:Nat),.int .i64 0,.int .i64 0,.string ⟨#[]⟩,.slice none 0 0,.string ⟨#[]⟩],.int .i64 6]) (by simp [results,Tryz.results37,go_sem,r0,r1,r2,r3,r4,r5,r6,r7]) rfl ?_
   exact⟨by rw [HTK.out];first|done|rfl,HC1.out.eight HGE.out _ _ _ _ _ _ _ _⟩
  ·have HTKR:=kf (HTKR1.out.trans (if_neg (fun e=>by cases e.2)))
   have hwl:((x::l).take (rgs l+1)).length=rgs l+1:=by rw [List.length_take,List.length_cons];have:=rgs_le l;omega
   have hSw:Src w 1 (cutL (some ⟨b,off,none⟩) f c) (rgs l+1) (c-f) (lcells ((x::l).take (rgs l+1))):=by
    have h:=src_cutL (lo:=f) (m:=rgs l+1) HS.out (by rw [<- HN.out];exact hc) (by rw [<- HN.out];have:=HE1.out;omega)
    have e:((lcells bs).drop f).take (rgs l+1)=lcells ((x::l).take (rgs l+1)):=by
     unfold lcells
     rw [<- List.map_drop,<- List.map_take,HD.out,HLL.out]
    rwa [e] at h
   have hcv:=conv_l (Src.below (w0:=w) hSw HC1.out)
   have hcf:¬c=f:=by omega
   rw [cutL_some,if_neg hcf,show rgs l+1=e0-f from by have:=HE1.out;omega] at hcv
   rw [show rgs l+1=e0-f from by have:=HE1.out;omega] at HTKR hwl
   obtain⟨ws,hws⟩:∃ ws,ws=(x::l).take (e0-f):=⟨_,rfl⟩
   have hwb:∀ z∈ws,z<256:=fun z hz=>HB.out z (by rw [hws] at hz;have h:=List.mem_of_mem_take hz;rw [HLL.out,<- HD.out] at h;exact List.mem_of_mem_drop h)
   rw [<- hws] at hcv HTKR hwl
   have hpa:=rparse_any (sb ws) W1 (by rw [sb_size,hwl];omega)
   rw [sl_sb ws hwb] at hpa
   unfold PaTo at hpa
   obtain⟨R,hR⟩:∃ R,R=numOf ws:=⟨_,rfl⟩
   rw [<- hR] at hpa HTKR
   obtain⟨er,vk,vn⟩:=R
   have HPA:=kf hpa
   clear hwl hSw hws hwb hpa hR
   by_cases hnm:isNm x=true
   ·have HTKS:=kf (HTKR.out.trans (if_pos hnm))
    by_cases her0:er=0
    ·subst her0
     have HTK:=kf (HTKS.out.trans (if_neg (fun e=>e rfl)))
     have hcl:(48<=x/\x<=57)\/x=43\/x=45\/x=46:=by
      have h:=hnm
      simp only [isNm,Bool.or_eq_true,Bool.and_eq_true,decide_eq_true_eq,beq_iff_eq] at h
      omega
     clear hnm
     rcases hcl with⟨hx1,hx2⟩|rfl|rfl|rfl
     all_goals
      go_upto_region 43 with(first
       |(go_at_call 31;refine HDL1.out.mono ?_;rintro e w3 ⟨rfl,rfl⟩)
       |(go_at_call 74;refine HPA.out.mono ?_;rintro e w3 ⟨rfl,hc3⟩;have HCY:=kf hc3;clear hc3))
      have HV:=kf (Blk.new w3 24 #[.int .i64 (vk:Nat),.int .i64 vn,.string ⟨#[]⟩,.slice none 0 0])
      have HCZ:=kf (HCY.out.alloc (.cells #[.int .i64 (vk:Nat),.int .i64 vn,.string ⟨#[]⟩,.slice none 0 0] 24))
      obtain⟨W4,hW4⟩:∃ W4,W4=w3.alloc (.cells #[.int .i64 (vk:Nat),.int .i64 vn,.string ⟨#[]⟩,.slice none 0 0] 24):=⟨_,rfl⟩
      obtain⟨gv,hgv⟩:∃ gv,gv=w3.heap.size:=⟨_,rfl⟩
      rw [<- hW4] at HV HCZ
      rw [<- hgv] at HV
      rw [<- hW4,<- hgv]
      have v0:=HV.out.cell 0
      have v1:=HV.out.cell 1
      have v4:=HV.out.cell 2
      have v5:=HV.out.cell 3
      simp at v0 v1 v4 v5
      clear hW4 hgv
      have HC3:=kf (HC1.out.trans HCZ.out (fun _ _ e=>e))
      have HB63:=kf (HB61.out.chg HCZ.out (fun e=>e))
      have HB93:=kf (HB9.out.chg HCZ.out (fun e=>e))
      clear q0 q1 q2 q3 q4 q5 q6 q7 z0 z1 z2 z3 z4 z5 z6 z7 y0 y1 y2 y3 y4 y5 y6 y7
      have q0:=HB93.out.cell 0
      have q1:=HB93.out.cell 1
      have q2:=HB93.out.cell 2
      have q3:=HB93.out.cell 3
      have q4:=HB93.out.cell 4
      have q5:=HB93.out.cell 5
      have q6:=HB93.out.cell 6
      have q7:=HB93.out.cell 7
      simp at q0 q1 q2 q3 q4 q5 q6 q7
      have z0:=HB63.out.frozen 0
      have z1:=HB63.out.frozen 1
      have z2:=HB63.out.frozen 2
      have z3:=HB63.out.frozen 3
      have z4:=HB63.out.frozen 4
      have z5:=HB63.out.frozen 5
      have z6:=HB63.out.frozen 6
      have z7:=HB63.out.frozen 7
      have y0:=HB63.out.cell 0
      have y1:=HB63.out.cell 1
      have y2:=HB63.out.cell 2
      have y3:=HB63.out.cell 3
      have y4:=HB63.out.cell 4
      have y5:=HB63.out.cell 5
      have y6:=HB63.out.cell 6
      have y7:=HB63.out.cell 7
      simp at y0 y1 y2 y3 y4 y5 y6 y7
      go_wp2_with fail
      all_goals
       (try simp only [Exit.noGoto_ret])
       have hb6:=HB63.out.eight (.int .i64 1) (.int .i64 (f:Nat)) (.int .i64 ((e0:Nat))) (.int .i64 (vk:Nat)) (.int .i64 vn) (.string ⟨#[]⟩) (.slice none 0 0) (.string ⟨#[]⟩)
       unfold set8 at hb6
       have r0:=hb6.cell 0
       have r1:=hb6.cell 1
       have r2:=hb6.cell 2
       have r3:=hb6.cell 3
       have r4:=hb6.cell 4
       have r5:=hb6.cell 5
       have r6:=hb6.cell 6
       have r7:=hb6.cell 7
       simp at r0 r1 r2 r3 r4 r5 r6 r7
       refine bodyPost_ret (v:=.tuple #[.agg #[.int .i64 1,.int .i64 (f:Nat),.int .i64 ((e0:Nat)),.int .i64 (vk:Nat),.int .i64 vn,.string ⟨#[]⟩,.slice none 0 0,.string ⟨#[]⟩],.int .i64 0]) (by simp [results,Tryz.results37,go_sem,r0,r1,r2,r3,r4,r5,r6,r7]) rfl ?_
       exact⟨by rw [HTK.out];first|done|rfl,HC3.out.eight HGE.out _ _ _ _ _ _ _ _⟩
    ·have HTK:=kf (HTKS.out.trans (if_pos her0))
     have v2:(er != 0)=true:=by simpa using her0
     have v3:(er==0)=false:=by simpa using her0
     clear her0
     have hcl:(48<=x/\x<=57)\/x=43\/x=45\/x=46:=by
      have h:=hnm
      simp only [isNm,Bool.or_eq_true,Bool.and_eq_true,decide_eq_true_eq,beq_iff_eq] at h
      omega
     clear hnm
     rcases hcl with⟨hx1,hx2⟩|rfl|rfl|rfl
     all_goals
      go_upto_region 43 with(first
       |(go_at_call 31;refine HDL1.out.mono ?_;rintro e w3 ⟨rfl,rfl⟩)
       |(go_at_call 74;refine HPA.out.mono ?_;rintro e w3 ⟨rfl,hc3⟩;have HCY:=kf hc3;clear hc3))
      have HV:=kf (Blk.new w3 24 #[.int .i64 (vk:Nat),.int .i64 vn,.string ⟨#[]⟩,.slice none 0 0])
      have HCZ:=kf (HCY.out.alloc (.cells #[.int .i64 (vk:Nat),.int .i64 vn,.string ⟨#[]⟩,.slice none 0 0] 24))
      obtain⟨W4,hW4⟩:∃ W4,W4=w3.alloc (.cells #[.int .i64 (vk:Nat),.int .i64 vn,.string ⟨#[]⟩,.slice none 0 0] 24):=⟨_,rfl⟩
      obtain⟨gv,hgv⟩:∃ gv,gv=w3.heap.size:=⟨_,rfl⟩
      rw [<- hW4] at HV HCZ
      rw [<- hgv] at HV
      rw [<- hW4,<- hgv]
      have v0:=HV.out.cell 0
      have v1:=HV.out.cell 1
      have v4:=HV.out.cell 2
      have v5:=HV.out.cell 3
      simp at v0 v1 v4 v5
      clear hW4 hgv
      have HC3:=kf (HC1.out.trans HCZ.out (fun _ _ e=>e))
      have HB63:=kf (HB61.out.chg HCZ.out (fun e=>e))
      have HB93:=kf (HB9.out.chg HCZ.out (fun e=>e))
      clear q0 q1 q2 q3 q4 q5 q6 q7 z0 z1 z2 z3 z4 z5 z6 z7 y0 y1 y2 y3 y4 y5 y6 y7
      have q0:=HB93.out.cell 0
      have q1:=HB93.out.cell 1
      have q2:=HB93.out.cell 2
      have q3:=HB93.out.cell 3
      have q4:=HB93.out.cell 4
      have q5:=HB93.out.cell 5
      have q6:=HB93.out.cell 6
      have q7:=HB93.out.cell 7
      simp at q0 q1 q2 q3 q4 q5 q6 q7
      have z0:=HB63.out.frozen 0
      have z1:=HB63.out.frozen 1
      have z2:=HB63.out.frozen 2
      have z3:=HB63.out.frozen 3
      have z4:=HB63.out.frozen 4
      have z5:=HB63.out.frozen 5
      have z6:=HB63.out.frozen 6
      have z7:=HB63.out.frozen 7
      have y0:=HB63.out.cell 0
      have y1:=HB63.out.cell 1
      have y2:=HB63.out.cell 2
      have y3:=HB63.out.cell 3
      have y4:=HB63.out.cell 4
      have y5:=HB63.out.cell 5
      have y6:=HB63.out.cell 6
      have y7:=HB63.out.cell 7
      simp at y0 y1 y2 y3 y4 y5 y6 y7
      go_wp2_with fail
      all_goals
       (try simp only [Exit.noGoto_ret])
       have hb6:=HB63.out.eight (.int .i64 0) (.int .i64 (f:Nat)) (.int .i64 (f:Nat)) (.int .i64 0) (.int .i64 0) (.string ⟨#[]⟩) (.slice none 0 0) (.string ⟨#[]⟩)
       unfold set8 at hb6
       have r0:=hb6.cell 0
       have r1:=hb6.cell 1
       have r2:=hb6.cell 2
       have r3:=hb6.cell 3
       have r4:=hb6.cell 4
       have r5:=hb6.cell 5
       have r6:=hb6.cell 6
       have r7:=hb6.cell 7
       simp at r0 r1 r2 r3 r4 r5 r6 r7
       refine bodyPost_ret (v:=.tuple #[.agg #[.int .i64 0,.int .i64 (f:Nat),.int .i64 (f:Nat),.int .i64 0,.int .i64 0,.string ⟨#[]⟩,.slice none 0 0,.string ⟨#[]⟩],.int .i64 er]) (by simp [results,Tryz.results37,go_sem,r0,r1,r2,r3,r4,r5,r6,r7]) rfl ?_
       exact⟨by rw [HTK.out];first|done|rfl,HC3.out.eight HGE.out _ _ _ _ _ _ _ _⟩
   ·have HTK:=kf (HTKR.out.trans (if_neg hnm))
    have hcl:(x<48\/57<x)/\x≠43/\x≠45/\x≠46:=by
     simp [isNm] at hnm
     omega
    have u43:((x:Int)==43)=false:=by simp;omega
    have u45:((x:Int)==45)=false:=by simp;omega
    have u46:((x:Int)==46)=false:=by simp;omega
    obtain⟨hcl,_⟩:=hcl
    clear hnm
    rcases hcl with hx1|hx1
    all_goals
     go_wp2_with (go_at_call 31;refine HDL1.out.mono ?_;rintro e w3 ⟨rfl,rfl⟩)
     all_goals
      (try simp only [Exit.noGoto_ret])
      have hb6:=HB61.out.eight (.int .i64 6) (.int .i64 (f:Nat)) (.int .i64 ((e0:Nat))) (.int .i64 0) (.int .i64 0) (.string ⟨#[]⟩) (.slice none 0 0) (.string (sb ws))
      unfold set8 at hb6
      have r0:=hb6.cell 0
      have r1:=hb6.cell 1
      have r2:=hb6.cell 2
      have r3:=hb6.cell 3
      have r4:=hb6.cell 4
      have r5:=hb6.cell 5
      have r6:=hb6.cell 6
      have r7:=hb6.cell 7
      simp at r0 r1 r2 r3 r4 r5 r6 r7
      refine bodyPost_ret (v:=.tuple #[.agg #[.int .i64 6,.int .i64 (f:Nat),.int .i64 ((e0:Nat)),.int .i64 0,.int .i64 0,.string ⟨#[]⟩,.slice none 0 0,.string (sb ws)],.int .i64 0]) (by simp [results,Tryz.results37,go_sem,r0,r1,r2,r3,r4,r5,r6,r7]) rfl ?_
      exact⟨by rw [HTK.out];first|done|rfl,HC1.out.eight HGE.out _ _ _ _ _ _ _ _⟩
 ·have i6:((e0:Int)==n)=false:=by simp;omega
  have HTKR:=kf (HTKR1.out.trans (if_neg (fun e=>hen (by have:=e.1;have:=HE1.out;have:=HLN.out;omega))))
  clear hen
  have hwl:((x::l).take (rgs l+1)).length=rgs l+1:=by rw [List.length_take,List.length_cons];have:=rgs_le l;omega
  have hSw:Src w 1 (cutL (some ⟨b,off,none⟩) f c) (rgs l+1) (c-f) (lcells ((x::l).take (rgs l+1))):=by
   have h:=src_cutL (lo:=f) (m:=rgs l+1) HS.out (by rw [<- HN.out];exact hc) (by rw [<- HN.out];have:=HE1.out;omega)
   have e:((lcells bs).drop f).take (rgs l+1)=lcells ((x::l).take (rgs l+1)):=by
    unfold lcells
    rw [<- List.map_drop,<- List.map_take,HD.out,HLL.out]
   rwa [e] at h
  have hcv:=conv_l (Src.below (w0:=w) hSw HC1.out)
  have hcf:¬c=f:=by omega
  rw [cutL_some,if_neg hcf,show rgs l+1=e0-f from by have:=HE1.out;omega] at hcv
  rw [show rgs l+1=e0-f from by have:=HE1.out;omega] at HTKR hwl
  obtain⟨ws,hws⟩:∃ ws,ws=(x::l).take (e0-f):=⟨_,rfl⟩
  have hwb:∀ z∈ws,z<256:=fun z hz=>HB.out z (by rw [hws] at hz;have h:=List.mem_of_mem_take hz;rw [HLL.out,<- HD.out] at h;exact List.mem_of_mem_drop h)
  rw [<- hws] at hcv HTKR hwl
  have hpa:=rparse_any (sb ws) W1 (by rw [sb_size,hwl];omega)
  rw [sl_sb ws hwb] at hpa
  unfold PaTo at hpa
  obtain⟨R,hR⟩:∃ R,R=numOf ws:=⟨_,rfl⟩
  rw [<- hR] at hpa HTKR
  obtain⟨er,vk,vn⟩:=R
  have HPA:=kf hpa
  clear hwl hSw hws hwb hpa hR
  by_cases hnm:isNm x=true
  ·have HTKS:=kf (HTKR.out.trans (if_pos hnm))
   by_cases her0:er=0
   ·subst her0
    have HTK:=kf (HTKS.out.trans (if_neg (fun e=>e rfl)))
    have hcl:(48<=x/\x<=57)\/x=43\/x=45\/x=46:=by
     have h:=hnm
     simp only [isNm,Bool.or_eq_true,Bool.and_eq_true,decide_eq_true_eq,beq_iff_eq] at h
     omega
    clear hnm
    rcases hcl with⟨hx1,hx2⟩|rfl|rfl|rfl
    all_goals
     go_upto_region 43 with(first
      |(go_at_call 31;refine HDL1.out.mono ?_;rintro e w3 ⟨rfl,rfl⟩)
      |(go_at_call 74;refine HPA.out.mono ?_;rintro e w3 ⟨rfl,hc3⟩;have HCY:=kf hc3;clear hc3))
     have HV:=kf (Blk.new w3 24 #[.int .i64 (vk:Nat),.int .i64 vn,.string ⟨#[]⟩,.slice none 0 0])
     have HCZ:=kf (HCY.out.alloc (.cells #[.int .i64 (vk:Nat),.int .i64 vn,.string ⟨#[]⟩,.slice none 0 0] 24))
     obtain⟨W4,hW4⟩:∃ W4,W4=w3.alloc (.cells #[.int .i64 (vk:Nat),.int .i64 vn,.string ⟨#[]⟩,.slice none 0 0] 24):=⟨_,rfl⟩
     obtain⟨gv,hgv⟩:∃ gv,gv=w3.heap.size:=⟨_,rfl⟩
     rw [<- hW4] at HV HCZ
     rw [<- hgv] at HV
     rw [<- hW4,<- hgv]
     have v0:=HV.out.cell 0
     have v1:=HV.out.cell 1
     have v4:=HV.out.cell 2
     have v5:=HV.out.cell 3
     simp at v0 v1 v4 v5
     clear hW4 hgv
     have HC3:=kf (HC1.out.trans HCZ.out (fun _ _ e=>e))
     have HB63:=kf (HB61.out.chg HCZ.out (fun e=>e))
     have HB93:=kf (HB9.out.chg HCZ.out (fun e=>e))
     clear q0 q1 q2 q3 q4 q5 q6 q7 z0 z1 z2 z3 z4 z5 z6 z7 y0 y1 y2 y3 y4 y5 y6 y7
     have q0:=HB93.out.cell 0
     have q1:=HB93.out.cell 1
     have q2:=HB93.out.cell 2
     have q3:=HB93.out.cell 3
     have q4:=HB93.out.cell 4
     have q5:=HB93.out.cell 5
     have q6:=HB93.out.cell 6
     have q7:=HB93.out.cell 7
     simp at q0 q1 q2 q3 q4 q5 q6 q7
     have z0:=HB63.out.frozen 0
     have z1:=HB63.out.frozen 1
     have z2:=HB63.out.frozen 2
     have z3:=HB63.out.frozen 3
     have z4:=HB63.out.frozen 4
     have z5:=HB63.out.frozen 5
     have z6:=HB63.out.frozen 6
     have z7:=HB63.out.frozen 7
     have y0:=HB63.out.cell 0
     have y1:=HB63.out.cell 1
     have y2:=HB63.out.cell 2
     have y3:=HB63.out.cell 3
     have y4:=HB63.out.cell 4
     have y5:=HB63.out.cell 5
     have y6:=HB63.out.cell 6
     have y7:=HB63.out.cell 7
     simp at y0 y1 y2 y3 y4 y5 y6 y7
     go_wp2_with fail
     all_goals
      (try simp only [Exit.noGoto_ret])
      have hb6:=HB63.out.eight (.int .i64 1) (.int .i64 (f:Nat)) (.int .i64 ((e0:Nat))) (.int .i64 (vk:Nat)) (.int .i64 vn) (.string ⟨#[]⟩) (.slice none 0 0) (.string ⟨#[]⟩)
      unfold set8 at hb6
      have r0:=hb6.cell 0
      have r1:=hb6.cell 1
      have r2:=hb6.cell 2
      have r3:=hb6.cell 3
      have r4:=hb6.cell 4
      have r5:=hb6.cell 5
      have r6:=hb6.cell 6
      have r7:=hb6.cell 7
      simp at r0 r1 r2 r3 r4 r5 r6 r7
      refine bodyPost_ret (v:=.tuple #[.agg #[.int .i64 1,.int .i64 (f:Nat),.int .i64 ((e0:Nat)),.int .i64 (vk:Nat),.int .i64 vn,.string ⟨#[]⟩,.slice none 0 0,.string ⟨#[]⟩],.int .i64 0]) (by simp [results,Tryz.results37,go_sem,r0,r1,r2,r3,r4,r5,r6,r7]) rfl ?_
      exact⟨by rw [HTK.out];first|done|rfl,HC3.out.eight HGE.out _ _ _ _ _ _ _ _⟩
   ·have HTK:=kf (HTKS.out.trans (if_pos her0))
    have v2:(er != 0)=true:=by simpa using her0
    have v3:(er==0)=false:=by simpa using her0
    clear her0
    have hcl:(48<=x/\x<=57)\/x=43\/x=45\/x=46:=by
     have h:=hnm
     simp only [isNm,Bool.or_eq_true,Bool.and_eq_true,decide_eq_true_eq,beq_iff_eq] at h
     omega
    clear hnm
    rcases hcl with⟨hx1,hx2⟩|rfl|rfl|rfl
    all_goals
     go_upto_region 43 with(first
      |(go_at_call 31;refine HDL1.out.mono ?_;rintro e w3 ⟨rfl,rfl⟩)
      |(go_at_call 74;refine HPA.out.mono ?_;rintro e w3 ⟨rfl,hc3⟩;have HCY:=kf hc3;clear hc3))
     have HV:=kf (Blk.new w3 24 #[.int .i64 (vk:Nat),.int .i64 vn,.string ⟨#[]⟩,.slice none 0 0])
     have HCZ:=kf (HCY.out.alloc (.cells #[.int .i64 (vk:Nat),.int .i64 vn,.string ⟨#[]⟩,.slice none 0 0] 24))
     obtain⟨W4,hW4⟩:∃ W4,W4=w3.alloc (.cells #[.int .i64 (vk:Nat),.int .i64 vn,.string ⟨#[]⟩,.slice none 0 0] 24):=⟨_,rfl⟩
     obtain⟨gv,hgv⟩:∃ gv,gv=w3.heap.size:=⟨_,rfl⟩
     rw [<- hW4] at HV HCZ
     rw [<- hgv] at HV
     rw [<- hW4,<- hgv]
     have v0:=HV.out.cell 0
     have v1:=HV.out.cell 1
     have v4:=HV.out.cell 2
     have v5:=HV.out.cell 3
     simp at v0 v1 v4 v5
     clear hW4 hgv
     have HC3:=kf (HC1.out.trans HCZ.out (fun _ _ e=>e))
     have HB63:=kf (HB61.out.chg HCZ.out (fun e=>e))
     have HB93:=kf (HB9.out.chg HCZ.out (fun e=>e))
     clear q0 q1 q2 q3 q4 q5 q6 q7 z0 z1 z2 z3 z4 z5 z6 z7 y0 y1 y2 y3 y4 y5 y6 y7
     have q0:=HB93.out.cell 0
     have q1:=HB93.out.cell 1
     have q2:=HB93.out.cell 2
     have q3:=HB93.out.cell 3
     have q4:=HB93.out.cell 4
     have q5:=HB93.out.cell 5
     have q6:=HB93.out.cell 6
     have q7:=HB93.out.cell 7
     simp at q0 q1 q2 q3 q4 q5 q6 q7
     have z0:=HB63.out.frozen 0
     have z1:=HB63.out.frozen 1
     have z2:=HB63.out.frozen 2
     have z3:=HB63.out.frozen 3
     have z4:=HB63.out.frozen 4
     have z5:=HB63.out.frozen 5
     have z6:=HB63.out.frozen 6
     have z7:=HB63.out.frozen 7
     have y0:=HB63.out.cell 0
     have y1:=HB63.out.cell 1
     have y2:=HB63.out.cell 2
     have y3:=HB63.out.cell 3
     have y4:=HB63.out.cell 4
     have y5:=HB63.out.cell 5
     have y6:=HB63.out.cell 6
     have y7:=HB63.out.cell 7
     simp at y0 y1 y2 y3 y4 y5 y6 y7
     go_wp2_with fail
     all_goals
      (try simp only [Exit.noGoto_ret])
      have hb6:=HB63.out.eight (.int .i64 0) (.int .i64 (f:Nat)) (.int .i64 (f:Nat)) (.int .i64 0) (.int .i64 0) (.string ⟨#[]⟩) (.slice none 0 0) (.string ⟨#[]⟩)
      unfold set8 at hb6
      have r0:=hb6.cell 0
      have r1:=hb6.cell 1
      have r2:=hb6.cell 2
      have r3:=hb6.cell 3
      have r4:=hb6.cell 4
      have r5:=hb6.cell 5
      have r6:=hb6.cell 6
      have r7:=hb6.cell 7
      simp at r0 r1 r2 r3 r4 r5 r6 r7
      refine bodyPost_ret (v:=.tuple #[.agg #[.int .i64 0,.int .i64 (f:Nat),.int .i64 (f:Nat),.int .i64 0,.int .i64 0,.string ⟨#[]⟩,.slice none 0 0,.string ⟨#[]⟩],.int .i64 er]) (by simp [results,Tryz.results37,go_sem,r0,r1,r2,r3,r4,r5,r6,r7]) rfl ?_
      exact⟨by rw [HTK.out];first|done|rfl,HC3.out.eight HGE.out _ _ _ _ _ _ _ _⟩
  ·have HTK:=kf (HTKR.out.trans (if_neg hnm))
   have hcl:(x<48\/57<x)/\x≠43/\x≠45/\x≠46:=by
    simp [isNm] at hnm
    omega
   have u43:((x:Int)==43)=false:=by simp;omega
   have u45:((x:Int)==45)=false:=by simp;omega
   have u46:((x:Int)==46)=false:=by simp;omega
   obtain⟨hcl,_⟩:=hcl
   clear hnm
   rcases hcl with hx1|hx1
   all_goals
    go_wp2_with (go_at_call 31;refine HDL1.out.mono ?_;rintro e w3 ⟨rfl,rfl⟩)
    all_goals
     (try simp only [Exit.noGoto_ret])
     have hb6:=HB61.out.eight (.int .i64 6) (.int .i64 (f:Nat)) (.int .i64 ((e0:Nat))) (.int .i64 0) (.int .i64 0) (.string ⟨#[]⟩) (.slice none 0 0) (.string (sb ws))
     unfold set8 at hb6
     have r0:=hb6.cell 0
     have r1:=hb6.cell 1
     have r2:=hb6.cell 2
     have r3:=hb6.cell 3
     have r4:=hb6.cell 4
     have r5:=hb6.cell 5
     have r6:=hb6.cell 6
     have r7:=hb6.cell 7
     simp at r0 r1 r2 r3 r4 r5 r6 r7
     refine bodyPost_ret (v:=.tuple #[.agg #[.int .i64 6,.int .i64 (f:Nat),.int .i64 ((e0:Nat)),.int .i64 0,.int .i64 0,.string ⟨#[]⟩,.slice none 0 0,.string (sb ws)],.int .i64 0]) (by simp [results,Tryz.results37,go_sem,r0,r1,r2,r3,r4,r5,r6,r7]) rfl ?_
     exact⟨by rw [HTK.out];first|done|rfl,HC1.out.eight HGE.out _ _ _ _ _ _ _ _⟩
end Go.Proofs.YtcehpobjnbgpdaaGreatDoor
