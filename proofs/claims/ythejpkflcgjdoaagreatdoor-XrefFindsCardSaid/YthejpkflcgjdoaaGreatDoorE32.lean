/- Merged by program. -/
import Derived.Test.YthejpkflcgjdoaaGreatDoorE30
import Derived.Deep.LoopGhost
set_option linter.unusedVariables false
set_option linter.unusedSimpArgs false
namespace Go.Proofs.YthejpkflcgjdoaaGreatDoor
open Go.RowKit
theorem spc_step {bs:List Nat} {q x:Nat} {l:List Nat} (hd:bs.drop q=x::bs.drop (q+1)):spcX bs q=if isSp x=true then spcX bs (q+1)+1 else 0:=by
 unfold spcX
 rw [hd,List.takeWhile_cons]
 by_cases h:isSp x=true
 ·rw [if_pos h,if_pos h];rfl
 ·rw [if_neg h,if_neg h];rfl
theorem spc_end {bs:List Nat} {q:Nat} (h:bs.length<=q):spcX bs q=0:=by
 unfold spcX
 rw [List.drop_of_length_le h]
 rfl
set_option maxHeartbeats 4000000 in
set_option maxRecDepth 100000 in
theorem xspc_any {w0 w:World} {bs:List Nat} {A:Option Addr} {c R:Nat} {last:Bool} {p:Nat} {e:Int} (hB:RSrc w0 bs A c) (h:XB w0 bs A c R last ((p:Nat),e) w) (hp:p<=bs.length) :
  Calls Tryz.prog 110 #[.pointer (some ⟨R,0,none⟩)] w (XTo w0 bs A c R last w (.tuple #[]) (((p+spcX bs p:Nat):Int),e)):=by
 have HR:=kf h
 have HCELL:=kf (fun(W:World) (hW:Chg NoS w0 W) (hn:0<bs.length)=>lcell hB.src hW hn)
 have hlen:=hB.len
 have hcap:=hB.cap
 have HDR:=kf (fun q (hq:q<bs.length)=>drop_at (bs:=bs) (k:=q) hq)
 have HST:=kf (fun q x (hd:bs.drop q=x::bs.drop (q+1))=>spc_step (l:=[]) hd)
 have HEN:=kf (fun q (hq:bs.length<=q)=>spc_end (bs:=bs) hq)
 obtain⟨T,hT⟩:∃ T,T=p+spcX bs p:=⟨_,rfl⟩
 have HT:=kf hT
 rw [<- hT]
 obtain⟨n,hn⟩:∃ n,n=bs.length:=⟨_,rfl⟩
 rw [<- hn] at hp hlen hcap HCELL HDR HEN
 have HNL:=kf hn
 clear h hB hT hn
 go_enter Tryz.func110,Tryz.ntmps110
 go_wp2_with fail
 go_loopg [] (n-p) (fun g wr=>∃ q:Nat,q<=n/\g=n-q/\Hid (XB w0 bs A c R last ((q:Nat),e) wr)/\Hid (Chg (Only R) w wr)/\Hid (T=q+spcX bs q))
 case atStart=>exact⟨p,hp,rfl,HR,kf (Chg.refl _ _),HT⟩
 case round =>
  obtain⟨q,hq,rfl,HRq,HCq,HTq⟩:=hrel
  obtain⟨q0,q1,q2,q3,z1,z3⟩:=HRq.out.cells
  simp only [] at q1 q3
  rw [<- HNL.out] at q0
  by_cases hlt:q<n
  ·obtain⟨x,hx,hd⟩:=HDR.out q hlt
   obtain⟨b,off,hA,hcell⟩:=HCELL.out _ HRq.out.chg (by omega)
   subst hA
   have c0:=hcell q x hx
   have HSX:=kf (HST.out q x hd)
   have HSP:=kf (fun W=>pspace_any x W)
   have d1:decide ((q:Int)<(n:Int))=true:=by simp;omega
   have b1:(q:Int)<n:=by omega
   clear hcell hx hd
   by_cases hs:isSp x=true
   ·rw [hs] at HSP
    have HSS:=kf hs
    clear hs
    go_upto_region 0 with fail
    go_quiet ((go_at_call 151;exact quiet_left (HSP.out _)))
    go_wp2_with fail
    go_roundg (n-(q+1))
    case rel =>
     refine⟨q+1,by omega,rfl,(congrArg (fun z:Int=>XB w0 bs (some ⟨b,off,none⟩) c R last (z,e) ((wr.drewN nq).setCell ⟨R,1,none⟩ (.int .i64 ((q:Int)+1)))) (show(q:Int)+1=((q+1:Nat):Int) by omega)).mp (((HRq.out.call ((Chg.refl NoS _).drewN nq)).setA ((q:Int)+1))),kf (only_tr (only_tr HCq.out (only_of ((Chg.refl NoS _).drewN nq))) (only_set _ _ _ _)),kf ?_⟩
     rw [HTq.out,HSX.out,if_pos HSS.out]
     omega
    case measure=>omega
   ·have hs':isSp x=false:=by simpa using hs
    rw [hs'] at HSP
    have HF:=kf (show spcX bs q=0 from by rw [HSX.out,if_neg hs])
    clear hs hs'
    go_upto_region 0 with fail
    go_quiet ((go_at_call 151;exact quiet_left (HSP.out _)))
    go_wp2_with fail
    first|go_end0|go_ret|go_ret2
    refine⟨rfl,?_,only_tr HCq.out (only_of ((Chg.refl NoS _).drewN nq))⟩
    rw [HTq.out,HF.out]
    exact HRq.out.call ((Chg.refl NoS _).drewN nq)
  ·have d1:decide ((q:Int)<(n:Int))=false:=by simp;omega
   have HF:=kf (HEN.out q (by omega))
   go_upto_region 0 with fail
   go_quiet (fail)
   go_wp2_with fail
   first|go_end0|go_ret|go_ret2
   refine⟨rfl,?_,only_tr HCq.out (only_of ((Chg.refl NoS _).drewN nq))⟩
   rw [HTq.out,HF.out]
   exact HRq.out.call ((Chg.refl NoS _).drewN nq)
theorem entsX_end {bs:List Nat} {last:Bool} {n:Nat} {s:FS} {l:List XEn} (h:n=0\/s.2≠0):entsX bs last n s l=(l,s):=by
 rcases h with h|h
 ·subst h;rfl
 ·exact entsX_err h
theorem entsX_go {bs:List Nat} {last:Bool} {n q:Nat} {l:List XEn}:entsX bs last (n+1) ((q:Nat),0) l=entsX bs last n (entX bs last (q+spcX bs q)).2 (l++[(entX bs last (q+spcX bs q)).1]):=by
 rw [entsX,if_neg (by simp)]
 rfl
theorem src_e1 {W:World} {B:Nat} {e:XEn} {T:TypeId} (h:Blk W B T #[.int .i64 e.pl,.int .i64 e.gen,.bool e.us]):Src W 3 (some ⟨B,0,none⟩) 1 1 (ecells [e]):=by
 refine⟨rfl,fun e=>(by cases e),fun ad ha j u hj=>?_⟩
 cases ha
 have hj3:j<3:=(List.getElem?_eq_some_iff.1 hj).1
 have hadd:(⟨B,0,none⟩:Addr).add j=⟨B,j,none⟩:=by unfold Addr.add;split<;>simp_all
 rw [hadd,h.cell j]
 rcases j with _|_|_|j
 ·exact hj
 ·exact hj
 ·exact hj
 ·omega
def XLTo (w0:World) (bs:List Nat) (A:Option Addr) (c R:Nat) (last:Bool) (w:World) (l:List XEn) (s:FS) (e:Ending) (w':World):Prop :=
 ∃ (B:Option Addr) (d:Nat),e=.returned (.slice B l.length d)/\Ev (fun i=>i<w.heap.size) w' (EnS l B d)/\XB w0 bs A c R last s w'/\Chg (Only R) w w'
set_option maxHeartbeats 8000000 in
set_option maxRecDepth 100000 in
theorem xents_any {w0 w:World} {bs:List Nat} {A:Option Addr} {c R:Nat} {last:Bool} {s:FS} (hB:RSrc w0 bs A c) (h:XB w0 bs A c R last s w) (hf:Fine4 bs.length s) (m:Int) (hm:s.2=0->0<=m/\m<=4097) :
  Calls Tryz.prog 78 #[.pointer (some ⟨R,0,none⟩),.int .i64 m] w (XLTo w0 bs A c R last w (entsX bs last m.toNat s []).1 (entsX bs last m.toNat s []).2):=by
 have HR:=kf h
 have HW0:Hid (w0.heap.size<=w.heap.size/\R<w.heap.size):=⟨h.chg.size,h.lt⟩
 have HSP:=kf (fun(W:World) (q:Nat) (hW:XB w0 bs A c R last ((q:Nat),0) W) (hq:q<=bs.length)=>xspc_any hB hW hq)
 have HEN:=kf (fun(W:World) (q:Nat) (hW:XB w0 bs A c R last ((q:Nat),0) W) (hq:q<=bs.length)=>xent_any hB hW hq)
 have HFN:=kf (fun q=>entX_fn (last:=last) (bs:=bs) (p:=q))
 have HGO:=kf (fun(n q:Nat) (l:List XEn)=>entsX_go (bs:=bs) (last:=last) (n:=n) (q:=q) (l:=l))
 have HND:=kf (fun(n:Nat) (s:FS) (l:List XEn) (hn:n=0\/s.2≠0)=>entsX_end (bs:=bs) (last:=last) (l:=l) hn)
 have HLE:=kf (fun p (hp:p<=bs.length)=>spc_le bs p hp)
 have hf':=hf
 obtain⟨T,hT⟩:∃ T,T=entsX bs last m.toNat s []:=⟨_,rfl⟩
 rw [<- hT]
 have HT:=kf hT
 have HM:=kf hm
 have HF:=kf hf
 clear h hB hT hm hf hf'
 go_enter Tryz.func78,Tryz.ntmps78
 go_wp2_with fail
 go_loopg [5] m.toNat (fun g v5 wr=>∃ (k:Nat) (l:List XEn) (sk:FS) (B:Option Addr) (d:Nat),v5=.slice B k d/\g=m.toNat-k/\Hid (s.2=0->k<=m.toNat)/\Hid (s.2≠0->sk=s)/\Hid (RwE w wr l k B d)/\Hid (XB w0 bs A c R last sk wr)/\Hid (Chg (Only R) w wr)/\Hid (Fine4 bs.length sk)/\Hid (T=entsX bs last (m.toNat-k) sk l))
 case atStart=>exact⟨0,[],s,none,0,rfl,rfl,fun _=>Nat.zero_le _,fun _=>rfl,RwE.start (Nat.le_refl _),HR.out,Chg.refl _ _,HF.out,HT.out⟩
 case round =>
  obtain⟨k,l,sk,B,d,rfl,rfl,HKM,HSK,HRE,HRk,HCk,HFk,HTk⟩:=hrel
  obtain⟨a,e⟩:=sk
  obtain⟨q0,q1,q2,q3,z1,z3⟩:=HRk.out.cells
  simp only [] at q1 q3
  by_cases he:e=0
  ·subst he
   have hs0:s.2=0:=Classical.byContradiction fun hne=>by have h1:=HSK.out hne;rw [<- h1] at hne;exact hne rfl
   obtain⟨m0,m1⟩:=HM.out hs0
   have hkm:=HKM.out hs0
   obtain⟨M,rfl⟩:∃ M:Nat,m=(M:Nat):=⟨m.toNat,by omega⟩
   rw [Int.toNat_natCast] at hkm
   have HS0:=kf hs0
   clear m0 hs0
   by_cases hlt:k<M
   ·obtain⟨a0,a1⟩:=HFk.out.resolve_left (fun h=>h rfl)
    simp only [] at a0 a1
    obtain⟨q,rfl⟩:∃ q:Nat,a=(q:Nat):=⟨a.toNat,by omega⟩
    have d1:decide ((k:Int)<(M:Int))=true:=by simp;omega
    have HX1:=kf (HSP.out wr q HRk.out (by omega))
    have hle2:=HLE.out q (by omega)
    have HGk:=kf (HGO.out (M-(k+1)) q l)
    obtain⟨qq,hqq⟩:∃ qq,qq=q+spcX bs q:=⟨_,rfl⟩
    rw [<- hqq] at hle2
    rw [<- hqq] at HX1 HGk
    have HX2:=kf (fun W hW=>HEN.out W qq hW hle2)
    have HF2:=kf (HFN.out qq)
    obtain⟨E,hE⟩:∃ E,E=entX bs last qq:=⟨_,rfl⟩
    rw [<- hE] at HGk HX2 HF2
    obtain⟨⟨e1,e2,e3⟩,s3⟩:=E
    unfold XEn.cells at HX2
    simp only [] at HGk HX2 HF2
    have b1:k<=4097:=by omega
    clear a0 a1 hle2 hqq hE
    go_upto_region 3 with fail
    clear q0 q1 q2 q3 z1 z3
    go_upto_region 4 with(go_at_call 110;refine HX1.out.mono ?_;rintro e w5 ⟨rfl,hr5,hc5⟩;have HR5:=kf hr5;have HC5:=kf (only_tr HCk.out hc5);have HE5:=kf (HRE.out.turn hc5 (fun i hi=>by rw [hi];exact HW0.out.2));clear hr5 hc5)
    go_wp2_with (first
     |(go_at_call 111;refine(HX2.out _ HR5.out).mono ?_;rintro e w6 ⟨rfl,hr6,hc6⟩;have HR6:=kf hr6;have HC6:=kf (only_tr HC5.out hc6);have HE6:=kf (HE5.out.turn hc6 (fun i hi=>by rw [hi];exact HW0.out.2));clear hr6 hc6)
     |(at_builtin;refine appE rfl (.tmp 19) (.tmp 22) rfl rfl rfl (HE6.out.turn (S:=NoS) ((Chg.refl NoS w6).alloc _) (fun _ h=>h.elim)) (by omega) (src_e1 (e:=⟨e1,e2,e3⟩) (Blk.new w6 _ _)) ?_;intro A3 c3 w8 hre8 hcg8;have HE8:=kf hre8;have HG8:=kf hcg8;clear hre8 hcg8))
    have HA6:=kf ((Chg.refl NoS w6).alloc (.cells #[.int .i64 e1,.int .i64 e2,.bool e3] 29))
    have hch:Chg (fun i=>w.heap.size<=i) w6 w8:=(HA6.out.mono (T:=fun i=>w.heap.size<=i) (fun _ _ e=>e.elim)).trans (HG8.out (fun i=>w.heap.size<=i) (fun _ h=>h)) (fun _ _ h=>h)
    have HR8:=kf (HR6.out.far hch (by have:=HW0.out;omega) (fun i hi=>by have:=HW0.out;omega))
    have HC8:=kf (HC6.out.trans hch (fun i hi h=>by omega))
    clear hch HA6
    go_roundg (M-(k+1))
    case rel =>
     refine⟨k+1,l++[⟨e1,e2,e3⟩],s3,A3,c3,rfl,rfl,kf (fun _=>by rw [Int.toNat_natCast];omega),kf (fun h=>absurd HS0.out h),HE8,HR8,HC8,HF2,kf ?_⟩
     rw [HTk.out,Int.toNat_natCast,show M-k=M-(k+1)+1 by omega]
     exact HGk.out
    case measure=>rw [Int.toNat_natCast];omega
   ·have d1:decide ((k:Int)<(M:Int))=false:=by simp;omega
    have HZ:=kf (HTk.out.trans (HND.out _ _ _ (.inl (by rw [Int.toNat_natCast];omega))))
    have d2:decide (k<M)=false:=by simpa using hlt
    clear hkm
    go_wp2_with fail
    go_ret
    rw [HZ.out]
    have h9:=HRE.out.len
    exact⟨B,d,by rw [h9];rfl,HRE.out.ev,HRk.out,HCk.out⟩
  ·have r1:(e==0)=false:=by simpa using he
   have HZ:=kf (HTk.out.trans (HND.out _ _ _ (.inr he)))
   clear he
   go_wp2_with fail
   go_ret
   rw [HZ.out]
   have h9:=HRE.out.len
   exact⟨B,d,by rw [h9];rfl,HRE.out.ev,HRk.out,HCk.out⟩
end Go.Proofs.YthejpkflcgjdoaaGreatDoor
