/- Merged by program. -/
import Derived.Test.YtcehpobjnbgpdaaGreatDoorC02
set_option linter.unusedVariables false
set_option linter.unusedSimpArgs false
namespace Go.Proofs.YtcehpobjnbgpdaaGreatDoor
open Go.RowKit
def escV (p:Nat) (r:Int × Option Nat × Nat):Value:=.tuple #[.int .u8 ((r.2.1.getD 0:Nat):Int),.int .i64 (if r.1=0 then((p+r.2.2:Nat):Int) else 0),.bool r.2.1.isSome,.int .i64 r.1]
theorem escO_13 (last:Bool) (l:List Nat):escO last (13::l)=if l=[]/\last=false then(6,none,0) else if l.head?=some 10 then(0,none,2) else(0,none,1):=rfl
theorem escO_dig {last:Bool} {c:Nat} {l:List Nat} (h:48<=c/\c<=55):escO last (c::l)=if (octs 3 0 (c::l)).2<3/\(c::l).length<=(octs 3 0 (c::l)).2/\last=false then(6,none,0) else(0,some ((octs 3 0 (c::l)).1%256),(octs 3 0 (c::l)).2):=by
 rw [escO_cons,if_neg (show ¬c=110 by omega),if_neg (show ¬c=114 by omega),if_neg (show ¬c=116 by omega),if_neg (show ¬c=98 by omega),if_neg (show ¬c=102 by omega),if_neg (show ¬c=10 by omega),if_neg (show ¬c=13 by omega),if_neg (show ¬(c<48\/55<c) by omega)]
theorem octs_end {k n:Nat} {l:List Nat} (h:k=0\/l=[]\/∃ c m,l=c::m/\¬(48<=c/\c<=55)):octs k n l=(n,0):=by
 rcases k with _|k
 ·rfl
 ·rcases h with h|rfl|⟨c,m,rfl,h⟩
  ·cases h
  ·rfl
  ·rw [octs,if_neg h]
theorem octs_dig {k n c:Nat} {l:List Nat} (hk:0<k) (h:48<=c/\c<=55):octs k n (c::l)=((octs (k-1) (8*n+(c-48)) l).1,(octs (k-1) (8*n+(c-48)) l).2+1):=by
 obtain⟨j,rfl⟩:∃ j,k=j+1:=⟨k-1,by omega⟩
 rw [octs,if_pos h]
 rfl
set_option maxHeartbeats 2000000 in
set_option maxRecDepth 100000 in
theorem resc_any (bs:List Nat) (A:Option Addr) (c p:Nat) (last:Bool) (w:World) (hS:Src w 1 A bs.length c (lcells bs)) (hl:bs.length<=1000000) (hc:bs.length<=c) (hp:p<=bs.length) (hb:∀ x∈bs,x<256) :
  Calls Tryz.prog 113 #[.slice A bs.length c,.int .i64 (p:Nat),.bool last] w fun e w'=>e=.returned (escV p (escO last (bs.drop p)))/\w=w':=by
 have HS:=kf hS
 have HB:=kf hb
 obtain⟨n,hn⟩:∃ n,n=bs.length:=⟨_,rfl⟩
 have HN:=kf hn
 rw [<- hn] at hl hp hc ⊢
 clear hS hn hb
 by_cases h0:p=n
 ·subst h0
  have HE:=kf (show bs.drop p=[] from List.drop_of_length_le (by rw [<- HN.out];exact Nat.le_refl _))
  have HC:=kf (fun W=>rcut_any last W)
  go_enter Tryz.func113,Tryz.ntmps113
  go_wp2_with (go_at_call 112;refine(HC.out _).mono ?_;rintro e w' ⟨rfl,rfl⟩)
  try simp only [Exit.inBlock,Exit.then]
  refine bodyPost_ret (results_tmp4l rfl _ _ _) rfl ?_
  exact⟨by rw [HE.out];cases last<;>rfl,rfl⟩
 have hpn:p<n:=by omega
 obtain⟨x,hx,hd⟩:=drop_at (bs:=bs) (k:=p) (by rw [<- HN.out];exact hpn)
 obtain⟨b,off,rfl,hcell⟩:=lcell HS.out (Chg.refl _ _) (by rw [<- HN.out];omega)
 have c0:=hcell p x hx
 have HCELL:=kf hcell
 have HD:=kf hd
 have hx256:x<256:=HB.out x (List.mem_of_getElem? hx)
 have HX:=kf hx
 have i1:(p:Int)<n:=by omega
 clear hcell hx hd h0
 by_cases hs:x=110\/x=114\/x=116\/x=98\/x=102\/x=10
 ·rcases hs with rfl|rfl|rfl|rfl|rfl|rfl
  all_goals
   go_enter Tryz.func113,Tryz.ntmps113
   go_wp2_with fail
   try simp only [Exit.inBlock,Exit.then]
   refine bodyPost_ret (results_tmp4l rfl _ _ _) rfl ?_
   exact⟨by rw [HD.out];rfl,rfl⟩
 by_cases h13:x=13
 ·subst h13
  clear hs
  by_cases h1:p+1=n
  ·have HE:=kf (show bs.drop (p+1)=[] from List.drop_of_length_le (by rw [<- HN.out];omega))
   have j1:(n:Int)<=(p:Int)+1:=by omega
   cases last
   all_goals
    go_enter Tryz.func113,Tryz.ntmps113
    go_wp2_with fail
    try simp only [Exit.inBlock,Exit.then]
    refine bodyPost_ret (results_tmp4l rfl _ _ _) rfl ?_
    exact⟨by rw [HD.out,HE.out];rfl,rfl⟩
  ·obtain⟨y,hy,hd2⟩:=drop_at (bs:=bs) (k:=p+1) (by rw [<- HN.out];omega)
   have c1:=HCELL.out (p+1) y hy
   have HD2:=kf hd2
   have i2:(p:Int)+1<n:=by omega
   have i3:p+1<n:=by omega
   clear hy hd2 h1
   by_cases h10:y=10
   ·subst h10
    go_enter Tryz.func113,Tryz.ntmps113
    go_wp2_with fail
    try simp only [Exit.inBlock,Exit.then]
    refine bodyPost_ret (results_tmp4l rfl _ _ _) rfl ?_
    exact⟨by rw [HD.out,HD2.out];rfl,rfl⟩
   ·have e0:((y:Int)==10)=false:=by simp;omega
    have e1:((y:Int) != 10)=true:=by simp;omega
    have HE:=kf (show escO last (13::y::bs.drop (p+1+1))=(0,none,1) from by
     rw [escO_13,if_neg (show ¬(y::bs.drop (p+1+1)=[]/\last=false) by simp),if_neg (show ¬(y::bs.drop (p+1+1)).head?=some 10 by simpa using h10)])
    clear h10
    go_enter Tryz.func113,Tryz.ntmps113
    go_wp2_with fail
    try simp only [Exit.inBlock,Exit.then]
    refine bodyPost_ret (results_tmp4l rfl _ _ _) rfl ?_
    exact⟨by rw [HD.out,HD2.out,HE.out];rfl,rfl⟩
 have e1:((x:Int)==110)=false:=by simp;omega
 have e2:((x:Int)==114)=false:=by simp;omega
 have e3:((x:Int)==116)=false:=by simp;omega
 have e4:((x:Int)==98)=false:=by simp;omega
 have e5:((x:Int)==102)=false:=by simp;omega
 have e6:((x:Int)==10)=false:=by simp;omega
 have e7:((x:Int)==13)=false:=by simp;omega
 by_cases h8:x<48\/55<x
 ·have HE:=kf (show escO last (x::bs.drop (p+1))=(0,some x,1) from by
   rw [escO_cons,if_neg (show ¬x=110 by omega),if_neg (show ¬x=114 by omega),if_neg (show ¬x=116 by omega),if_neg (show ¬x=98 by omega),if_neg (show ¬x=102 by omega),if_neg (show ¬x=10 by omega),if_neg h13,if_pos h8])
  clear hs h13
  rcases h8 with h8|h8
  all_goals
   go_enter Tryz.func113,Tryz.ntmps113
   go_wp2_with fail
   try simp only [Exit.inBlock,Exit.then]
   refine bodyPost_ret (results_tmp4l rfl _ _ _) rfl ?_
   exact⟨by rw [HD.out,HE.out];rfl,rfl⟩
 have g1:48<=x:=by omega
 have g2:x<=55:=by omega
 have HO:=kf (escO_dig (last:=last) (l:=bs.drop (p+1)) ⟨g1,g2⟩)
 clear hs h13 h8
 go_enter Tryz.func113,Tryz.ntmps113
 go_upto_region 26 with fail
 clear c0 e1 e2 e3 e4 e5 e6 e7 g1 g2
 go_loopw [11,12] (fun vn vk wr=>∃ m k:Nat,k<=3/\p+k<=n/\m<=511/\(k<=2->m<=63)/\(k<=1->m<=7)/\(k=0->m=0)/\vn=.int .i64 (m:Nat)/\vk=.int .i64 (k:Nat)/\wr=w/\Hid (octs 3 0 (x::bs.drop (p+1))=((octs (3-k) m (bs.drop (p+k))).1,k+(octs (3-k) m (bs.drop (p+k))).2))) (fun _ vk _=>3-(intOf vk).toNat)
 case atStart=>exact⟨0,0,by omega,by omega,by omega,by omega,by omega,by omega,rfl,rfl,rfl,kf (by show octs 3 0 (x::bs.drop (p+1))=((octs 3 0 (bs.drop p)).1,0+(octs 3 0 (bs.drop p)).2);rw [HD.out,Nat.zero_add])⟩
 case round =>
  obtain⟨m,k,hk,hpk,hm,hm2,hm1,hm0,rfl,rfl,rfl,HR⟩:=hrel
  have HLEN:=kf (show(x::bs.drop (p+1)).length=n-p from by rw [<- HD.out,List.length_drop,<- HN.out])
  have hw:IntKind.u8.wrap ((m:Int)%256)=((m%256:Nat):Int):=by rw [IntKind.wrap_u8];omega
  by_cases h3:k=3
  ·subst h3
   have HT:=kf (octs_end (k:=3-3) (n:=m) (l:=bs.drop (p+3)) (.inl rfl))
   go_wp2_with fail
   try simp only [Exit.inBlock,Exit.then]
   refine bodyPost_ret (results_tmp4l rfl _ _ _) rfl ?_
   refine⟨?_,rfl⟩
   have hv:escO last (x::bs.drop (p+1))=(0,some (m%256),3):=by
    rw [HO.out,HR.out,HT.out,if_neg (fun e=>absurd e.1 (by simp))]
    rfl
   rw [HD.out,hv]
   rfl
  ·have hk3:k<3:=by omega
   by_cases h4:p+k=n
   ·have HT:=kf (octs_end (k:=3-k) (n:=m) (l:=bs.drop (p+k)) (.inr (.inl (List.drop_of_length_le (by rw [<- HN.out];omega)))))
    have j1:(n:Int)<=(p:Int)+k:=by omega
    have j2:¬((p:Int)+k<n):=by omega
    cases last
    ·have hv:Hid (escO false (x::bs.drop (p+1))=(6,none,0)):=by
      show _=_
      rw [HO.out,HR.out,HT.out,if_pos]
      exact⟨by show k+0<3;omega,by rw [HLEN.out];show n-p<=k+0;omega,rfl⟩
     clear h4 h3
     go_wp2_with fail
     try simp only [Exit.inBlock,Exit.then]
     refine bodyPost_ret (results_tmp4l rfl _ _ _) rfl ?_
     exact⟨by rw [HD.out,hv.out];rfl,rfl⟩
    ·have hv:Hid (escO true (x::bs.drop (p+1))=(0,some (m%256),k)):=by
      show _=_
      rw [HO.out,HR.out,HT.out,if_neg (fun e=>absurd e.2.2 (by decide))]
      rfl
     clear h4 h3
     go_wp2_with fail
     try simp only [Exit.inBlock,Exit.then]
     refine bodyPost_ret (results_tmp4l rfl _ _ _) rfl ?_
     exact⟨by rw [HD.out,hv.out];rfl,rfl⟩
   ·obtain⟨y,hy,hd2⟩:=drop_at (bs:=bs) (k:=p+k) (by rw [<- HN.out];omega)
    have c1:=HCELL.out (p+k) y hy
    have hy256:y<256:=HB.out y (List.mem_of_getElem? hy)
    have c2:=c1
    rw [show off+(p+k)=off+p+k from by omega] at c2
    have HD2:=kf hd2
    have i2:(p:Int)+k<n:=by omega
    have i3:p+k<n:=by omega
    have i4:((p:Int)+k).toNat=p+k:=by omega
    clear hy hd2 h4 h3
    by_cases h5:48<=y/\y<=55
    ·have HT:=kf (octs_dig (k:=3-k) (n:=m) (l:=bs.drop (p+k+1)) (by omega) h5)
     obtain⟨g1,g2⟩:=h5
     have hm63:=hm2 (by omega)
     go_wp2_with fail
     go_roundw
     case rel =>
      refine⟨8*m+(y-48),k+1,by omega,by omega,by omega,by omega,by omega,by omega,congrArg (Value.int .i64) (by omega),by go_num,by simp,kf ?_⟩
      rw [HR.out,HD2.out,HT.out,show 3-(k+1)=3-k-1 from by omega,show p+(k+1)=p+k+1 from by omega]
      exact Prod.ext rfl (by simp only [];omega)
     case measure=>simp [intOf];omega
    ·have HT:=kf (octs_end (k:=3-k) (n:=m) (l:=bs.drop (p+k)) (.inr (.inr ⟨y,_,HD2.out,h5⟩)))
     have hv:Hid (escO last (x::bs.drop (p+1))=(0,some (m%256),k)):=by
      show _=_
      rw [HO.out,HR.out,HT.out,if_neg (fun e=>by have h:=e.2.1;rw [HLEN.out] at h;have h:n-p<=k+0:=h;omega)]
      rfl
     have h6:y<48\/(48<=y/\55<y):=by omega
     clear h5
     rcases h6 with h6|⟨h6,h7⟩
     all_goals
      go_wp2_with fail
      try simp only [Exit.inBlock,Exit.then]
      refine bodyPost_ret (results_tmp4l rfl _ _ _) rfl ?_
      exact⟨by rw [HD.out,hv.out];rfl,rfl⟩
end Go.Proofs.YtcehpobjnbgpdaaGreatDoor
