/- Merged by program. -/
import Derived.Test.YtcehpobjnbgpdaaGreatDoorC14
set_option linter.unusedVariables false
set_option linter.unusedSimpArgs false
namespace Go.Proofs.YtcehpobjnbgpdaaGreatDoor
open Go.RowKit
def nmV (r:Int × List Nat):Value:=.tuple #[.agg #[.int .i64 (if r.1=0 then 5 else 0),.int .i64 0,.string (sb r.2),.slice none 0 0],.int .i64 r.1]
theorem nameF_x {x:Nat} (l:List Nat) (h:x≠35):nameF (x::l)=(nameF l).map (x::·):=by
 rcases l with _|⟨a,_|⟨b,l⟩⟩<;>simp [nameF,h]
theorem nameF_35 {y z a b:Nat} (l:List Nat) (ha:hexD y=some a) (hb:hexD z=some b):nameF (35::y::z::l)=(nameF l).map ((16*a+b)::·):=by
 simp [nameF,ha,hb]
theorem nameF_35s {l:List Nat} (h:l.length<2):nameF (35::l)=none:=by
 rcases l with _|⟨x,_|⟨y,l⟩⟩
 ·simp [nameF]
 ·simp [nameF]
 ·simp at h;omega
theorem nameF_35n {y z:Nat} (l:List Nat) (h:hexD y=none\/hexD z=none):nameF (35::y::z::l)=none:=by
 rcases h with h|h
 ·simp [nameF,h]
 ·cases hy:hexD y with
  |none=>simp [nameF,hy]
  |some a=>simp [nameF,hy,h]
theorem nameO_none {l:List Nat} (h:nameF l=none):nameO l=(17,[]):=by unfold nameO;rw [h]
theorem nameO_bad {l o:List Nat} (h:nameF l=some o) (hb:0∈o\/127<o.length):nameO l=(17,[]):=by unfold nameO;rw [h];simp only [];rw [if_pos hb]
theorem nameO_ok {l o:List Nat} (h:nameF l=some o) (hb:¬(0∈o\/127<o.length)):nameO l=(0,o):=by unfold nameO;rw [h];simp only [];rw [if_neg hb]
theorem map_cons_app {o:Option (List Nat)} {out:List Nat} {x:Nat}:(o.map (x::·)).map (out++·)=o.map (out++[x]++·):=by
 cases o with
 |none=>rfl
 |some l=>simp
theorem mem_take_next {l:List Nat} {k x:Nat} (h:0 ∉ l.take k) (hx:l[k]?=some x) (h0:x≠0):0 ∉ l.take (k+1):=by
 rw [take_snoc hx]
 intro hm
 rcases List.mem_append.1 hm with hm|hm
 ·exact h hm
 ·rw [List.mem_singleton] at hm;exact h0 hm.symm
def NmIn (ws:List Nat) (w wr:World) (g k m c2:Nat) (out:List Nat) (A2:Option Addr):Prop :=
 m=out.length/\GR 5 w wr (lcells out) m A2 c2/\nameF ws=(nameF (ws.drop k)).map (out++·)
set_option maxHeartbeats 4000000 in
set_option maxRecDepth 100000 in
theorem rname_in (ws:List Nat) (A:Option Addr) (c:Nat) (w:World) (hS:Src w 1 A ws.length c (lcells ws)) (hl:ws.length<=1000000) (hc:ws.length<=c) (hb:∀ x∈ws,x<256) :
  Calls Tryz.prog 73 #[.slice A ws.length c] w fun e w'=>e=.returned (nmV (nameO ws))/\Chg NoS w w':=by
 have HS:=kf hS
 have HB:=kf hb
 obtain⟨n,hn⟩:∃ n,n=ws.length:=⟨_,rfl⟩
 have HN:=kf hn
 rw [<- hn] at hl hc ⊢
 have HG:=kf (Blk.new w 24 #[.int .i64 0,.int .i64 0,.string ⟨#[]⟩,.slice none 0 0])
 obtain⟨W0,hW0⟩:∃ W0,W0=w.alloc (.cells #[.int .i64 0,.int .i64 0,.string ⟨#[]⟩,.slice none 0 0] 24):=⟨_,rfl⟩
 have HC0:=kf ((Chg.refl NoS w).alloc (.cells #[.int .i64 0,.int .i64 0,.string ⟨#[]⟩,.slice none 0 0] 24))
 obtain⟨g,hg⟩:∃ g,g=w.heap.size:=⟨_,rfl⟩
 rw [<- hW0] at HG HC0
 rw [<- hg] at HG
 have HGE:=kf (show w.heap.size<=g by omega)
 clear hS hn hb
 go_enter Tryz.func73,Tryz.ntmps73
 go_upto_region 3 with fail
 rw [<- hg,<- hW0]
 clear hg hW0
 go_loopw [4,5] (fun vo vk wr=>∃ (k m c2:Nat) (out:List Nat) (A2:Option Addr),k<=n/\m<=k/\vo=.slice A2 m c2/\vk=.int .i64 (k:Nat)/\Hid (NmIn ws W0 wr g k m c2 out A2)) (fun _ vk _=>n-(intOf vk).toNat)
 case atStart=>exact⟨0,0,0,[],none,by omega,by omega,rfl,rfl,kf ⟨rfl,GR.start W0,by rw [List.drop_zero];cases nameF ws<;>rfl⟩⟩
 case round =>
  obtain⟨k,m,c2,out,A2,hk,hm,rfl,rfl,HI⟩:=hrel
  have HGW:=kf (HG.out.chg HI.out.2.1.chg (fun e=>e))
  have HCW:=kf (HC0.out.trans HI.out.2.1.chg (fun _ _ e=>e))
  have f0:=HGW.out.frozen 0
  have f1:=HGW.out.frozen 1
  have f2:=HGW.out.frozen 2
  have f3:=HGW.out.frozen 3
  have q0:=HGW.out.cell 0
  have q1:=HGW.out.cell 1
  have q2:=HGW.out.cell 2
  have q3:=HGW.out.cell 3
  simp at q0 q1 q2 q3
  by_cases h1:k<n
  ·obtain⟨x,hx,hd⟩:=drop_at (bs:=ws) (k:=k) (by rw [<- HN.out];exact h1)
   obtain⟨b,off,rfl,hcell⟩:=lcell HS.out (HC0.out.trans HI.out.2.1.chg (fun _ _ e=>e)) (by rw [<- HN.out];omega)
   have c0:=hcell k x hx
   have HCELL:=kf hcell
   have i1:(k:Int)<n:=by omega
   have HD:=kf hd
   clear hcell hx hd
   by_cases h35:x=35
   ·subst h35
    by_cases hs:n<=k+2
    ·have HNO:=kf (nameO_none (l:=ws) (by rw [HI.out.2.2,HD.out,nameF_35s (by rw [List.length_drop,<- HN.out];omega)];rfl))
     have j1:(n:Int)<=(k:Int)+2:=by omega
     go_wp2_with fail
     (try simp only [Exit.noGoto_ret])
     have hb:=HGW.out.four (.int .i64 0) (.int .i64 0) (.string ⟨#[]⟩) (.slice none 0 0)
     have r0:=hb.cell 0
     have r1:=hb.cell 1
     have r2:=hb.cell 2
     have r3:=hb.cell 3
     simp at r0 r1 r2 r3
     refine bodyPost_ret (v:=.tuple #[.agg #[.int .i64 0,.int .i64 0,.string ⟨#[]⟩,.slice none 0 0],.int .i64 17]) (by simp [results,Tryz.results73,go_sem,r0,r1,r2,r3]) rfl ?_
     exact⟨by rw [HNO.out];rfl,HCW.out.four HGE.out _ _ _ _⟩
    ·obtain⟨y,hy,hdy⟩:=drop_at (bs:=ws) (k:=k+1) (by rw [<- HN.out];omega)
     obtain⟨z,hz,hdz⟩:=drop_at (bs:=ws) (k:=k+2) (by rw [<- HN.out];omega)
     have c1:=HCELL.out (k+1) y hy
     have c2':=HCELL.out (k+2) z hz
     have c3:=c1
     have c4:=c2'
     rw [show off+(k+1)=off+k+1 from by omega] at c3
     rw [show off+(k+2)=off+k+2 from by omega] at c4
     have hy256:y<256:=HB.out y (List.mem_of_getElem? hy)
     have hz256:z<256:=HB.out z (List.mem_of_getElem? hz)
     have i2:(k:Int)+2<n:=by omega
     have i3:(k:Int)+1<n:=by omega
     have i4:k+2<n:=by omega
     have i5:k+1<n:=by omega
     have s1:IntKind.i64.wrap ((k:Int)+1)=(k:Int)+1:=by rw [IntKind.wrap_i64];omega
     have s2:IntKind.i64.wrap ((k:Int)+2)=(k:Int)+2:=by rw [IntKind.wrap_i64];omega
     have i6:(0:Int)<=(k:Int)+1:=by omega
     have i7:(0:Int)<=(k:Int)+2:=by omega
     have i8:((k:Int)+1).toNat=k+1:=by omega
     have i9:((k:Int)+2).toNat=k+2:=by omega
     have HD2:=kf (show ws.drop (k+1)=y::z::ws.drop (k+3) from by rw [hdy,hdz])
     have HHX:=kf (fun(q:Nat) (h:q<256) W=>rhex_any q h W)
     clear hy hz hdy hdz
     cases ha:hexD y with
     |none =>
      have HNO:=kf (nameO_none (l:=ws) (by rw [HI.out.2.2,HD.out,HD2.out,nameF_35n _ (.inl ha)];rfl))
      have hA:=hexI_no ha
      clear ha
      go_wp2_with (go_at_call 111;refine(HHX.out _ (by assumption) _).mono ?_;rintro e w3 ⟨rfl,rfl⟩)
      (try simp only [Exit.noGoto_ret])
      have hb:=HGW.out.four (.int .i64 0) (.int .i64 0) (.string ⟨#[]⟩) (.slice none 0 0)
      have r0:=hb.cell 0
      have r1:=hb.cell 1
      have r2:=hb.cell 2
      have r3:=hb.cell 3
      simp at r0 r1 r2 r3
      refine bodyPost_ret (v:=.tuple #[.agg #[.int .i64 0,.int .i64 0,.string ⟨#[]⟩,.slice none 0 0],.int .i64 17]) (by simp [results,Tryz.results73,go_sem,r0,r1,r2,r3]) rfl ?_
      exact⟨by rw [HNO.out];rfl,HCW.out.four HGE.out _ _ _ _⟩
     |some a =>
      have hA:=hexI_some ha
      have ha16:=hexD_lt ha
      cases hbz:hexD z with
      |none =>
       have HNO:=kf (nameO_none (l:=ws) (by rw [HI.out.2.2,HD.out,HD2.out,nameF_35n _ (.inr hbz)];rfl))
       have hZ:=hexI_no hbz
       clear ha hbz
       go_wp2_with (go_at_call 111;refine(HHX.out _ (by assumption) _).mono ?_;rintro e w3 ⟨rfl,rfl⟩)
       (try simp only [Exit.noGoto_ret])
       have hb:=HGW.out.four (.int .i64 0) (.int .i64 0) (.string ⟨#[]⟩) (.slice none 0 0)
       have r0:=hb.cell 0
       have r1:=hb.cell 1
       have r2:=hb.cell 2
       have r3:=hb.cell 3
       simp at r0 r1 r2 r3
       refine bodyPost_ret (v:=.tuple #[.agg #[.int .i64 0,.int .i64 0,.string ⟨#[]⟩,.slice none 0 0],.int .i64 17]) (by simp [results,Tryz.results73,go_sem,r0,r1,r2,r3]) rfl ?_
       exact⟨by rw [HNO.out];rfl,HCW.out.four HGE.out _ _ _ _⟩
      |some b' =>
       have hZ:=hexI_some hbz
       have hb16:=hexD_lt hbz
       have HNX:=kf (nameF_35 (ws.drop (k+3)) ha hbz)
       have hw:IntKind.u8.wrap (16*(a:Int)+(b':Int))=((16*a+b':Nat):Int):=by rw [IntKind.wrap_u8];omega
       have s3:IntKind.i64.wrap (16*(a:Int))=16*(a:Int):=by rw [IntKind.wrap_i64];omega
       have s4:IntKind.i64.wrap (16*(a:Int)+(b':Int))=16*(a:Int)+(b':Int):=by rw [IntKind.wrap_i64];omega
       clear ha hbz
       go_upto_region 9 with(go_at_call 111;refine(HHX.out _ (by assumption) _).mono ?_;rintro e w3 ⟨rfl,rfl⟩)
       first
        |(go_loud (go_region_law (first
          |(refine step8 (w:=W0) (wr:=wr) (out:=out) (y:=16*a+b') (B:=wr.heap.size) (by rfl) (.tmp 49) (.tmp 65) (by rfl) (by rfl) (by rfl) HI.out.2.1 (by omega) ((Chg.refl _ _).alloc _).drew (by simp) ?_;intro g6 c6 w6 hg6)
          |(go_simp;go_at_call 111;refine(HHX.out _ (by assumption) _).mono ?_;rintro e w3 ⟨rfl,rfl⟩))))
        |fail "region"
       all_goals
        have HG6:=kf hg6
        clear hg6
        go_wp2_with fail
        go_roundw
        case rel=>exact⟨k+3,m+1,c6,out++[16*a+b'],some ⟨g6,0,none⟩,by omega,by omega,rfl,congrArg (Value.int .i64) (by omega),kf ⟨by rw [List.length_append,<- HI.out.1];rfl,HG6.out,by rw [HI.out.2.2,HD.out,HD2.out,HNX.out,map_cons_app]⟩⟩
        case measure=>simp [intOf];omega
   ·have e0:((x:Int) != 35)=true:=by simp;omega
    have e1:((x:Int)==35)=false:=by simp;omega
    have HNX:=kf (nameF_x (ws.drop (k+1)) h35)
    clear h35
    go_wp2_with (at_builtin;refine app8 (w:=W0) (wr:=wr) (out:=out) (y:=x) rfl (.tmp 18) (.tmp 23) rfl rfl rfl HI.out.2.1 (by omega) ((Chg.refl _ _).alloc _) (by simp) ?_;intro A3 c3 w3 hg3;have HG3:=kf hg3;clear hg3)
    go_roundw
    case rel=>exact⟨k+1,m+1,c3,out++[x],A3,by omega,by omega,rfl,by go_num,kf ⟨by rw [List.length_append,<- HI.out.1];rfl,HG3.out,by rw [HI.out.2.2,HD.out,HNX.out,map_cons_app]⟩⟩
    case measure=>simp [intOf];omega
  ·obtain rfl:k=n:=by omega
   have HO:=kf (show nameF ws=some out from by rw [HI.out.2.2,List.drop_of_length_le (by rw [<- HN.out];exact Nat.le_refl _)];simp [nameF])
   have HLM:=kf HI.out.1
   have hcv:=conv_l (src_own HI.out.2.1.own)
   go_upto_region 12 with fail
   go_loopw [6] (fun vk wr2=>∃ j:Nat,j<=m/\vk=.int .i64 (j:Nat)/\wr2=wr/\Hid (0 ∉ out.take j)) (fun vk _=>m-(intOf vk).toNat)
   case atStart=>exact⟨0,by omega,rfl,rfl,kf (by simp)⟩
   case round =>
    obtain⟨j,hj,rfl,rfl,HZ0⟩:=hrel
    by_cases h2:j<m
    ·obtain⟨x,hx,hd⟩:=drop_at (bs:=out) (k:=j) (by rw [<- HLM.out];exact h2)
     obtain⟨b2,off2,rfl,hcell⟩:=lcell (src_own HI.out.2.1.own) (Chg.refl _ _) (by rw [<- HLM.out];omega)
     have c0:=hcell j x hx
     have HX:=kf hx
     have i1:(j:Int)<m:=by omega
     clear hcell hd hx
     by_cases hx0:x=0
     ·subst hx0
      have HNO:=kf (nameO_bad HO.out (.inl (List.mem_of_getElem? HX.out)))
      go_wp2_with fail
      (try simp only [Exit.noGoto_ret])
      have hb:=HGW.out.four (.int .i64 0) (.int .i64 0) (.string ⟨#[]⟩) (.slice none 0 0)
      have r0:=hb.cell 0
      have r1:=hb.cell 1
      have r2:=hb.cell 2
      have r3:=hb.cell 3
      simp at r0 r1 r2 r3
      refine bodyPost_ret (v:=.tuple #[.agg #[.int .i64 0,.int .i64 0,.string ⟨#[]⟩,.slice none 0 0],.int .i64 17]) (by simp [results,Tryz.results73,go_sem,r0,r1,r2,r3]) rfl ?_
      exact⟨by rw [HNO.out];rfl,HCW.out.four HGE.out _ _ _ _⟩
     ·have e0:((x:Int)==0)=false:=by simp;omega
      have e1:((x:Int) != 0)=true:=by simp;omega
      have HZ1:=kf (mem_take_next HZ0.out HX.out hx0)
      clear hx0
      go_wp2_with fail
      go_roundw
      case rel=>exact⟨j+1,by omega,by go_num,by simp,HZ1⟩
      case measure=>simp [intOf];omega
    ·obtain rfl:j=m:=by omega
     have HZ2:=kf (show 0 ∉ out from by have h:=HZ0.out;rwa [List.take_of_length_le (by rw [<- HLM.out];exact Nat.le_refl _)] at h)
     by_cases h7:127<j
     ·have HNO:=kf (nameO_bad HO.out (.inr (by rw [<- HLM.out];exact h7)))
      go_wp2_with fail
      (try simp only [Exit.noGoto_ret])
      have hb:=HGW.out.four (.int .i64 0) (.int .i64 0) (.string ⟨#[]⟩) (.slice none 0 0)
      have r0:=hb.cell 0
      have r1:=hb.cell 1
      have r2:=hb.cell 2
      have r3:=hb.cell 3
      simp at r0 r1 r2 r3
      refine bodyPost_ret (v:=.tuple #[.agg #[.int .i64 0,.int .i64 0,.string ⟨#[]⟩,.slice none 0 0],.int .i64 17]) (by simp [results,Tryz.results73,go_sem,r0,r1,r2,r3]) rfl ?_
      exact⟨by rw [HNO.out];rfl,HCW.out.four HGE.out _ _ _ _⟩
     ·have HNO:=kf (nameO_ok HO.out (fun e=>e.elim HZ2.out (fun h=>h7 (by rw [HLM.out];exact h))))
      have h8:j<=127:=by omega
      clear h7
      go_wp2_with fail
      (try simp only [Exit.noGoto_ret])
      have hb:=HGW.out.four (.int .i64 5) (.int .i64 0) (.string (sb out)) (.slice none 0 0)
      have r0:=hb.cell 0
      have r1:=hb.cell 1
      have r2:=hb.cell 2
      have r3:=hb.cell 3
      simp at r0 r1 r2 r3
      refine bodyPost_ret (v:=.tuple #[.agg #[.int .i64 5,.int .i64 0,.string (sb out),.slice none 0 0],.int .i64 0]) (by simp [results,Tryz.results73,go_sem,r0,r1,r2,r3]) rfl ?_
      exact⟨by rw [HNO.out];rfl,HCW.out.four HGE.out _ _ _ _⟩
end Go.Proofs.YtcehpobjnbgpdaaGreatDoor
