/- Merged by program. -/
import Derived.Test.YtcehpobjnbgpdaaGreatDoorC06
import Derived.Test.YtcehpobjnbgpdaaGreatDoorC27
set_option linter.unusedVariables false
set_option maxRecDepth 100000
set_option maxHeartbeats 4000000
set_option linter.unusedSimpArgs false
namespace Go.Proofs.YtcehpobjnbgpdaaGreatDoor
open Go.RowKit
theorem KF.blk {R g:Nat} {V W:World} {T:TypeId} {cs:Array Value} (h:KF R V W) (hg:g≠R) (hT:T≠5) (hb:Blk V g T cs):Blk W g T cs :=
 h g _ hg (fun cs' e=>hT (Obj.cells.inj e).2.1) hb
theorem isd_lt {l:List Nat} (h:∀ d∈l,isD d\/d=45\/d=46):∀ d∈l,d<256:=by
 intro d hd
 have hk:=h d hd
 unfold isD at hk
 omega
def numF (k n:Int):List Nat:=if k=2 then intTxt n else realTxt n
theorem numF_lt (k n:Int):∀ d∈numF k n,d<256:=by
 unfold numF
 split
 ·exact isd_lt (int_b n)
 ·exact isd_lt (real_b n)
theorem fnum_any {V w W:World} {R:Nat} {out:List Nat} (h:FB V w W R out) (hL:LibOk w) (k n:Int) (s:ByteArray) (A:Option Addr) (len cap:Nat) (hc:chkOf k n s.size len=0) (hl:out.length+(numF k n).length<=400000) :
  Calls Tryz.prog 50 #[.pointer (some ⟨R,0,none⟩),.agg #[.int .i64 k,.int .i64 n,.string s,.slice A len cap]] W fun e W'=>e=.returned (.tuple #[])/\FB V w W' R (out++numF k n):=by
 have HP:=kf (fun X (hX:LibOk X)=>print_any k n s A len cap X hX)
 have hpr:prOf k n s.size len=(numF k n,0):=by unfold prOf numF;rw [if_pos hc]
 have HPR:=kf hpr
 have HW:=kf (fun X (hX:FB V w X R out)=>fpwstr_any hX (numF k n) (numF_lt k n) (by omega) (by omega))
 obtain⟨L,hLn⟩:∃ L,L=sb (numF k n):=⟨_,rfl⟩
 have HP2:Hid (∀ X,LibOk X->Calls Tryz.prog 85 #[.agg #[.int .i64 k,.int .i64 n,.string s,.slice A len cap]] X fun e w'=>e=.returned (.tuple #[.string L,.int .i64 0])/\Chg NoS X w'):=fun X hX=>by
  refine(HP.out X hX).mono fun e w' h=>?_
  unfold PrTo at h
  rw [HPR.out,<- hLn] at h
  exact h
 rw [<- hLn] at HW
 have HF:=kf (h.alloc (.cells #[.int .i64 k,.int .i64 n,.string s,.slice A len cap] 24))
 have HB:=kf (Blk.new W 24 #[.int .i64 k,.int .i64 n,.string s,.slice A len cap])
 have HLib:=kf hL
 obtain⟨W1,hW1⟩:∃ W1,W1=W.alloc (.cells #[.int .i64 k,.int .i64 n,.string s,.slice A len cap] 24):=⟨_,rfl⟩
 obtain⟨g,hg⟩:∃ g,g=W.heap.size:=⟨_,rfl⟩
 rw [<- hW1] at HF HB
 rw [<- hg] at HB
 clear h hL hc hpr HPR HP hLn
 go_enter Tryz.func50,Tryz.ntmps50
 go_upto_region 1 with fail
 rw [<- hg,<- hW1]
 clear hg hW1
 have q0:=HB.out.cell 0
 have q1:=HB.out.cell 1
 have q2:=HB.out.cell 2
 have q3:=HB.out.cell 3
 simp at q0 q1 q2 q3
 go_wp2_with first
  |(go_at_call 85;refine(HP2.out _ (HLib.out.chg HF.out.chg)).mono ?_;rintro e w2 ⟨rfl,h2⟩;have HF2:=kf (HF.out.call h2);clear h2)
  |(go_at_call 48;refine(HW.out _ HF2.out).mono ?_;rintro e w3 ⟨rfl,h3⟩;have HF3:=kf h3;clear h3)
 go_end0
 exact⟨rfl,HF3.out⟩
theorem formL_app:∀ (j:Nat) (a b:List VT),formL j (a++b)=formL j a++formL (if a=[] then j else 1) b:=by
 intro j a
 induction a generalizing j with
 |nil=>intro b;rw [formL_nil,if_pos rfl];rfl
 |cons t a ih =>
  intro b
  rw [List.cons_append,formL_cons,formL_cons,ih 1 b,if_neg (List.cons_ne_nil _ _)]
  simp only [List.append_assoc,ite_self]
theorem formL_snoc {l:List VT} {k:Nat} {t:VT} (h:l[k]?=some t):formL 0 (l.take (k+1))=formL 0 (l.take k)++(List.replicate (if k=0 then 0 else 1) 32++formT t):=by
 have e:l.take (k+1)=l.take k++[t]:=by rw [List.take_add_one,h];rfl
 have hk:=(List.getElem?_eq_some_iff.1 h).1
 have h0:(l.take k=[])=(k=0):=by
  apply propext
  constructor
  ·intro h1
   have h2:=congrArg List.length h1
   rw [List.length_take] at h2
   simp only [List.length_nil] at h2
   omega
  ·rintro rfl;rfl
 rw [e,formL_app,formL_cons,formL_nil,List.append_nil]
 simp only [h0]
theorem formL_le (l:List VT) (k:Nat):(formL 0 (l.take k)).length<=(formL 0 l).length:=by
 have e:formL 0 l=formL 0 (l.take k++l.drop k):=by rw [List.take_append_drop]
 rw [e,formL_app,List.length_append]
 omega
def PV (t:VT):Prop:=∀ (c:VC) (V w W:World) (R:Nat) (out:List Nat),LibOk w->ValIs w t c->FB V w W R out->out.length+(formT t).length<=400000 ->
 Calls Tryz.prog 26 #[.pointer (some ⟨R,0,none⟩),c.val] W fun e W'=>e=.returned (.tuple #[])/\FB V w W' R (out++formT t)
theorem flist_any (l:List VT) (hP:∀ t∈l,PV t) (A:Option Addr) (len cap:Nat) {V w W:World} {R:Nat} {out:List Nat} (hL:LibOk w) (hl:l.length=len) (hr:RowIs w A 0 l) (hm:len<=9223372036854775807) (h:FB V w W R out) (hb:out.length+(formL 0 l).length<=400000) :
  Calls Tryz.prog 52 #[.pointer (some ⟨R,0,none⟩),.slice A len cap] W fun e W'=>e=.returned (.tuple #[])/\FB V w W' R (out++formL 0 l):=by
 have HW:=kf (fun V X o x (hX:FB V w X R o) (ho:o.length<=1000000)=>fpwbyte_any hX x ho)
 have HP:=kf hP
 have HLib:=kf hL
 have HL:=kf hl
 have HR:=kf hr
 have HF:=kf h
 have HBL:=kf hb
 clear hP hL hl hr h hb
 go_enter Tryz.func52,Tryz.ntmps52
 go_upto_region 1 with fail
 go_loopw [8] (fun vk wr=>∃ k:Nat,k<=len/\vk=.int .i64 (k:Nat)/\Hid (FB V w wr R (out++formL 0 (l.take k)))/\Hid (RowIs w A k (l.drop k))) (fun vk _=>len-(intOf vk).toNat)
 case atStart=>exact⟨0,by omega,rfl,by rw [List.take_zero,formL_nil,List.append_nil];exact HF.out,by rw [List.drop_zero];exact HR.out⟩
 case round =>
  obtain⟨k,hk,rfl,HT,HRW⟩:=hrel
  obtain⟨o,ho⟩:∃ o,o=out++formL 0 (l.take k):=⟨_,rfl⟩
  rw [<- ho] at HT
  have HO:=kf ho
  clear ho
  by_cases hlt:k<len
  ·obtain⟨t',ht',hdd⟩:=drop_vt (l:=l) (k:=k) (by rw [HL.out];exact hlt)
   obtain⟨b,off,rfl⟩:∃ b off,A=some ⟨b,off,none⟩:=by
    have h:=HR.out
    cases hll:l with
    |nil=>rw [hll] at ht';simp at ht'
    |cons t0 l0=>rw [hll] at h;exact h.start
   have hrw:=HRW.out
   rw [hdd] at hrw
   obtain⟨ek,en,es,eA,el,ec,c0,c1,c2,c3,hv',hr'⟩:=hrw.at0 HT.out.chg
   have HRN:=kf hr'
   have HV:=kf (show out++formL 0 (l.take (k+1))=o++(List.replicate (if k=0 then 0 else 1) 32++formT t') from by rw [HO.out,formL_snoc ht',List.append_assoc])
   have hlen:o.length+(if k=0 then 0 else 1)+(formT t').length<=400000:=by
    have h1:=formL_le l (k+1)
    have h2:=congrArg List.length HV.out
    have h3:=HBL.out
    simp only [List.length_append,List.length_replicate] at h2
    omega
   have HX:=kf (fun X o2 (hX:FB (wr.alloc (.cells #[.int .i64 ek,.int .i64 en,.string es,.slice eA el ec] 24)) w X R o2) (ho2:o2.length+(formT t').length<=400000)=>HP.out t' (List.mem_of_getElem? ht') ⟨ek,en,es,eA,el,ec⟩ _ w X R o2 HLib.out hv' hX ho2)
   unfold VC.val at HX
   simp only [] at HX
   have HBX:=kf (Blk.new wr 24 #[.int .i64 ek,.int .i64 en,.string es,.slice eA el ec])
   have hgR:wr.heap.size≠R:=fun e=>absurd HT.out.lt (by omega)
   have HFX:=kf ((HT.out.alloc (.cells #[.int .i64 ek,.int .i64 en,.string es,.slice eA el ec] 24)).here)
   have HKX:=kf ((HT.out.alloc (.cells #[.int .i64 ek,.int .i64 en,.string es,.slice eA el ec] 24)).kf)
   clear hrw hv' hr' hdd ht'
   obtain⟨W1,hW1⟩:∃ W1,W1=wr.alloc (.cells #[.int .i64 ek,.int .i64 en,.string es,.slice eA el ec] 24):=⟨_,rfl⟩
   obtain⟨g,hg⟩:∃ g,g=wr.heap.size:=⟨_,rfl⟩
   rw [<- hW1] at HX HBX HFX HKX
   rw [<- hg] at HBX hgR
   by_cases h0:k=0
   ·subst h0
    simp only [if_true,Nat.add_zero] at hlen
    have HVV:=kf (show o++(List.replicate (if 0=0 then 0 else 1) 32++formT t')=o++formT t' from rfl)
    simp only [Nat.zero_mul,Nat.add_zero] at c0 c1 c2 c3
    go_upto_region 3 with fail
    rw [<- hg,<- hW1]
    clear hg hW1
    have q0:=HBX.out.cell 0
    have q1:=HBX.out.cell 1
    have q2:=HBX.out.cell 2
    have q3:=HBX.out.cell 3
    simp at q0 q1 q2 q3
    go_wp2_with (go_at_call 26;refine(HX.out _ _ HFX.out hlen).mono ?_;rintro e w3 ⟨rfl,h3⟩;have HT3:=kf h3;clear h3)
    go_roundw
    case rel=>exact⟨1,by omega,by go_num,by rw [HV.out,HVV.out];exact HT3.out.base (HKX.out.trans HT3.out.kf),HRN.out⟩
    case measure=>simp [intOf];omega
   ·rw [if_neg h0] at hlen
    have HVV:=kf (show o++(List.replicate (if k=0 then 0 else 1) 32++formT t')=o++[32]++formT t' from by rw [if_neg h0];simp)
    have hl2:(o++[32]).length+(formT t').length<=400000:=by simp only [List.length_append,List.length_cons,List.length_nil];omega
    have d0:decide ((0:Int)<(k:Int))=true:=by simp;omega
    have d0':decide (0<k)=true:=by simp;omega
    clear h0
    go_upto_region 3 with fail
    rw [<- hg,<- hW1]
    clear hg hW1
    go_upto_region 5 with(go_at_call 86;refine(HW.out _ _ _ 32 HFX.out (by omega)).mono ?_;rintro e w2 ⟨rfl,h2⟩;have HT2:=kf h2;clear h2)
    have HBY:=kf (HT2.out.kf.blk hgR (by decide) HBX.out)
    have q0:=HBY.out.cell 0
    have q1:=HBY.out.cell 1
    have q2:=HBY.out.cell 2
    have q3:=HBY.out.cell 3
    simp at q0 q1 q2 q3
    go_wp2_with (go_at_call 26;refine(HX.out _ _ HT2.out hl2).mono ?_;rintro e w3 ⟨rfl,h3⟩;have HT3:=kf h3;clear h3)
    go_roundw
    case rel=>exact⟨k+1,by omega,by go_num,by rw [HV.out,HVV.out];exact HT3.out.base (HKX.out.trans HT3.out.kf),HRN.out⟩
    case measure=>simp [intOf];omega
  ·obtain rfl:k=len:=by omega
   have HV:=kf (show out++formL 0 l=o from by rw [HO.out,List.take_of_length_le (by rw [HL.out];exact Nat.le_refl _)])
   go_wp2_with fail
   go_end0
   exact⟨rfl,by rw [HV.out];exact HT.out⟩
theorem fb_true:(⟨(Lib.formatBool true).toArray⟩:ByteArray)=sb [116,114,117,101]:=by rfl
theorem fb_false:(⟨(Lib.formatBool false).toArray⟩:ByteArray)=sb [102,97,108,115,101]:=by rfl
structure FV (V w W1:World) (R g:Nat) (out:List Nat) (k n:Int) (s:ByteArray) (A:Option Addr) (len cap:Nat):Prop where
 blk:Blk W1 g 24 #[.int .i64 k,.int .i64 n,.string s,.slice A len cap]
 ne:g≠R
 fb:FB W1 w W1 R out
 kf:KF R V W1
theorem FV.of {V w W:World} {R:Nat} {out:List Nat} (h:FB V w W R out) (k n:Int) (s:ByteArray) (A:Option Addr) (len cap:Nat) :
  FV V w (W.alloc (.cells #[.int .i64 k,.int .i64 n,.string s,.slice A len cap] 24)) R W.heap.size out k n s A len cap :=
 ⟨Blk.new _ _ _,fun e=>absurd h.lt (by omega),(h.alloc _).here,(h.alloc _).kf⟩
theorem FV.at_ {V w W1 X:World} {R g:Nat} {out o2:List Nat} {k n:Int} {s:ByteArray} {A:Option Addr} {len cap:Nat} (h:FV V w W1 R g out k n s A len cap) (hX:FB W1 w X R o2):Blk X g 24 #[.int .i64 k,.int .i64 n,.string s,.slice A len cap] :=
 hX.kf.blk h.ne (by decide) h.blk
theorem FV.end_ {V w W1 X:World} {R g:Nat} {out o2:List Nat} {k n:Int} {s:ByteArray} {A:Option Addr} {len cap:Nat} (h:FV V w W1 R g out k n s A len cap) (hX:FB W1 w X R o2):FB V w X R o2:=hX.base (h.kf.trans hX.kf)
theorem fval_null {V w W:World} {R:Nat} {out:List Nat} (h:FB V w W R out) (hL:LibOk w) (n:Int) (s:ByteArray) (A:Option Addr) (len cap:Nat) (hl:out.length+([110,117,108,108]).length<=400000) :
  Calls Tryz.prog 26 #[.pointer (some ⟨R,0,none⟩),.agg #[.int .i64 0,.int .i64 n,.string s,.slice A len cap]] W fun e W'=>e=.returned (.tuple #[])/\FB V w W' R (out++([110,117,108,108])):=by
 have HLib:=kf hL
 have HFV:=kf (FV.of h 0 n s A len cap)
 obtain⟨W1,hW1⟩:∃ W1,W1=W.alloc (.cells #[.int .i64 0,.int .i64 n,.string s,.slice A len cap] 24):=⟨_,rfl⟩
 obtain⟨g,hg⟩:∃ g,g=W.heap.size:=⟨_,rfl⟩
 rw [<- hW1,<- hg] at HFV
 have HW0:=kf (fun X o (hX:FB W1 w X R o) (ho:o.length<=1000000)=>(show Calls Tryz.prog 48 #[.pointer (some ⟨R,0,none⟩),.string ⟨#[110,117,108,108]⟩] X fun e W'=>e=.returned (.tuple #[.int .i64 (4:Nat),.nilIface])/\FB W1 w W' R (o++[110,117,108,108]) from fpwstr_any hX [110,117,108,108] (by decide) ho (by decide)))
 clear h hL
 go_enter Tryz.func26,Tryz.ntmps26
 go_upto_region 1 with fail
 rw [<- hg,<- hW1]
 clear hg hW1
 have q0:=HFV.out.blk.cell 0
 have q1:=HFV.out.blk.cell 1
 have q2:=HFV.out.blk.cell 2
 have q3:=HFV.out.blk.cell 3
 simp at q0 q1 q2 q3
 go_wp2_with (go_at_call 48;refine(HW0.out _ _ HFV.out.fb (by omega)).mono ?_;rintro e w3 ⟨rfl,h3⟩;have HT3:=kf h3;clear h3)
 go_end0
 exact⟨rfl,HFV.out.end_ HT3.out⟩
theorem fval_true {V w W:World} {R:Nat} {out:List Nat} (h:FB V w W R out) (hL:LibOk w) (s:ByteArray) (A:Option Addr) (len cap:Nat) (hl:out.length+([116,114,117,101]).length<=400000) :
  Calls Tryz.prog 26 #[.pointer (some ⟨R,0,none⟩),.agg #[.int .i64 1,.int .i64 1,.string s,.slice A len cap]] W fun e W'=>e=.returned (.tuple #[])/\FB V w W' R (out++([116,114,117,101])):=by
 have HLib:=kf hL
 have HFV:=kf (FV.of h 1 1 s A len cap)
 obtain⟨W1,hW1⟩:∃ W1,W1=W.alloc (.cells #[.int .i64 1,.int .i64 1,.string s,.slice A len cap] 24):=⟨_,rfl⟩
 obtain⟨g,hg⟩:∃ g,g=W.heap.size:=⟨_,rfl⟩
 rw [<- hW1,<- hg] at HFV
 have HW0:=kf (fun X o (hX:FB W1 w X R o) (ho:o.length<=1000000)=>(show Calls Tryz.prog 48 #[.pointer (some ⟨R,0,none⟩),.string ⟨#[116,114,117,101]⟩] X fun e W'=>e=.returned (.tuple #[.int .i64 (4:Nat),.nilIface])/\FB W1 w W' R (o++[116,114,117,101]) from fpwstr_any hX [116,114,117,101] (by decide) ho (by decide)))
 have HFM:=kf (fun X=>(show Calls Tryz.prog 49 #[.bool true] X fun e w'=>e=.returned (.string ⟨#[116,114,117,101]⟩)/\w'=X from by have h1:=Go.Proofs.Tryz.strconv_FormatBool true X;rw [fb_true] at h1;exact h1))
 clear h hL
 go_enter Tryz.func26,Tryz.ntmps26
 go_upto_region 1 with fail
 rw [<- hg,<- hW1]
 clear hg hW1
 have q0:=HFV.out.blk.cell 0
 have q1:=HFV.out.blk.cell 1
 have q2:=HFV.out.blk.cell 2
 have q3:=HFV.out.blk.cell 3
 simp at q0 q1 q2 q3
 go_upto_region 5 with fail
 first
  |(go_loud (go_region_held3 (fun w'=>w'.cell? ⟨g,1,none⟩=some (.int .i64 1))
    (first|(go_keep;done)|assumption)
    (first
     |(go_at_call 49;refine(HFM.out _).mono ?_;rintro e w5 ⟨rfl,rfl⟩)
     |(go_at_call 48;refine(HW0.out _ _ HFV.out.fb.drew (by omega)).mono ?_;rintro e w3 ⟨rfl,h3⟩;have hb3:=HFV.out.at_ h3;have d1:=hb3.cell 1;simp at d1;have HT3:=kf h3;clear h3 hb3))))
  |fail "region"
 go_wp2_with fail
 go_end0
 exact⟨rfl,HFV.out.end_ HT3.out⟩
theorem fval_false {V w W:World} {R:Nat} {out:List Nat} (h:FB V w W R out) (hL:LibOk w) (s:ByteArray) (A:Option Addr) (len cap:Nat) (hl:out.length+([102,97,108,115,101]).length<=400000) :
  Calls Tryz.prog 26 #[.pointer (some ⟨R,0,none⟩),.agg #[.int .i64 1,.int .i64 0,.string s,.slice A len cap]] W fun e W'=>e=.returned (.tuple #[])/\FB V w W' R (out++([102,97,108,115,101])):=by
 have HLib:=kf hL
 have HFV:=kf (FV.of h 1 0 s A len cap)
 obtain⟨W1,hW1⟩:∃ W1,W1=W.alloc (.cells #[.int .i64 1,.int .i64 0,.string s,.slice A len cap] 24):=⟨_,rfl⟩
 obtain⟨g,hg⟩:∃ g,g=W.heap.size:=⟨_,rfl⟩
 rw [<- hW1,<- hg] at HFV
 have HW0:=kf (fun X o (hX:FB W1 w X R o) (ho:o.length<=1000000)=>(show Calls Tryz.prog 48 #[.pointer (some ⟨R,0,none⟩),.string ⟨#[102,97,108,115,101]⟩] X fun e W'=>e=.returned (.tuple #[.int .i64 (5:Nat),.nilIface])/\FB W1 w W' R (o++[102,97,108,115,101]) from fpwstr_any hX [102,97,108,115,101] (by decide) ho (by decide)))
 have HFM:=kf (fun X=>(show Calls Tryz.prog 49 #[.bool false] X fun e w'=>e=.returned (.string ⟨#[102,97,108,115,101]⟩)/\w'=X from by have h1:=Go.Proofs.Tryz.strconv_FormatBool false X;rw [fb_false] at h1;exact h1))
 clear h hL
 go_enter Tryz.func26,Tryz.ntmps26
 go_upto_region 1 with fail
 rw [<- hg,<- hW1]
 clear hg hW1
 have q0:=HFV.out.blk.cell 0
 have q1:=HFV.out.blk.cell 1
 have q2:=HFV.out.blk.cell 2
 have q3:=HFV.out.blk.cell 3
 simp at q0 q1 q2 q3
 go_upto_region 5 with fail
 first
  |(go_loud (go_region_held3 (fun w'=>w'.cell? ⟨g,1,none⟩=some (.int .i64 0))
    (first|(go_keep;done)|assumption)
    (first
     |(go_at_call 49;refine(HFM.out _).mono ?_;rintro e w5 ⟨rfl,rfl⟩)
     |(go_at_call 48;refine(HW0.out _ _ HFV.out.fb.drew (by omega)).mono ?_;rintro e w3 ⟨rfl,h3⟩;have hb3:=HFV.out.at_ h3;have d1:=hb3.cell 1;simp at d1;have HT3:=kf h3;clear h3 hb3))))
  |fail "region"
 go_wp2_with fail
 go_end0
 exact⟨rfl,HFV.out.end_ HT3.out⟩
theorem fval_int {V w W:World} {R:Nat} {out:List Nat} (h:FB V w W R out) (hL:LibOk w) (n:Int) (s:ByteArray) (A:Option Addr) (len cap:Nat) (hc:chkOf 2 n s.size len=0) (hl:out.length+(numF 2 n).length<=400000) :
  Calls Tryz.prog 26 #[.pointer (some ⟨R,0,none⟩),.agg #[.int .i64 2,.int .i64 n,.string s,.slice A len cap]] W fun e W'=>e=.returned (.tuple #[])/\FB V w W' R (out++(numF 2 n)):=by
 have HLib:=kf hL
 have HFV:=kf (FV.of h 2 n s A len cap)
 obtain⟨W1,hW1⟩:∃ W1,W1=W.alloc (.cells #[.int .i64 2,.int .i64 n,.string s,.slice A len cap] 24):=⟨_,rfl⟩
 obtain⟨g,hg⟩:∃ g,g=W.heap.size:=⟨_,rfl⟩
 rw [<- hW1,<- hg] at HFV
 have HN:=kf (fun X (hX:FB W1 w X R out)=>fnum_any hX HLib.out 2 n s A len cap hc hl)
 clear hc
 clear h hL
 go_enter Tryz.func26,Tryz.ntmps26
 go_upto_region 1 with fail
 rw [<- hg,<- hW1]
 clear hg hW1
 have q0:=HFV.out.blk.cell 0
 have q1:=HFV.out.blk.cell 1
 have q2:=HFV.out.blk.cell 2
 have q3:=HFV.out.blk.cell 3
 simp at q0 q1 q2 q3
 go_wp2_with (go_at_call 50;refine(HN.out _ HFV.out.fb).mono ?_;rintro e w3 ⟨rfl,h3⟩;have HT3:=kf h3;clear h3)
 go_end0
 exact⟨rfl,HFV.out.end_ HT3.out⟩
theorem fval_real {V w W:World} {R:Nat} {out:List Nat} (h:FB V w W R out) (hL:LibOk w) (n:Int) (s:ByteArray) (A:Option Addr) (len cap:Nat) (hc:chkOf 3 n s.size len=0) (hl:out.length+(numF 3 n).length<=400000) :
  Calls Tryz.prog 26 #[.pointer (some ⟨R,0,none⟩),.agg #[.int .i64 3,.int .i64 n,.string s,.slice A len cap]] W fun e W'=>e=.returned (.tuple #[])/\FB V w W' R (out++(numF 3 n)):=by
 have HLib:=kf hL
 have HFV:=kf (FV.of h 3 n s A len cap)
 obtain⟨W1,hW1⟩:∃ W1,W1=W.alloc (.cells #[.int .i64 3,.int .i64 n,.string s,.slice A len cap] 24):=⟨_,rfl⟩
 obtain⟨g,hg⟩:∃ g,g=W.heap.size:=⟨_,rfl⟩
 rw [<- hW1,<- hg] at HFV
 have HN:=kf (fun X (hX:FB W1 w X R out)=>fnum_any hX HLib.out 3 n s A len cap hc hl)
 clear hc
 clear h hL
 go_enter Tryz.func26,Tryz.ntmps26
 go_upto_region 1 with fail
 rw [<- hg,<- hW1]
 clear hg hW1
 have q0:=HFV.out.blk.cell 0
 have q1:=HFV.out.blk.cell 1
 have q2:=HFV.out.blk.cell 2
 have q3:=HFV.out.blk.cell 3
 simp at q0 q1 q2 q3
 go_wp2_with (go_at_call 50;refine(HN.out _ HFV.out.fb).mono ?_;rintro e w3 ⟨rfl,h3⟩;have HT3:=kf h3;clear h3)
 go_end0
 exact⟨rfl,HFV.out.end_ HT3.out⟩
theorem fval_text {V w W:World} {R:Nat} {out:List Nat} (h:FB V w W R out) (hL:LibOk w) (n:Int) (s:ByteArray) (A:Option Addr) (len cap:Nat) (hl:out.length+(txF (sl s)).length<=400000) :
  Calls Tryz.prog 26 #[.pointer (some ⟨R,0,none⟩),.agg #[.int .i64 4,.int .i64 n,.string s,.slice A len cap]] W fun e W'=>e=.returned (.tuple #[])/\FB V w W' R (out++(txF (sl s))):=by
 have HLib:=kf hL
 have HFV:=kf (FV.of h 4 n s A len cap)
 obtain⟨W1,hW1⟩:∃ W1,W1=W.alloc (.cells #[.int .i64 4,.int .i64 n,.string s,.slice A len cap] 24):=⟨_,rfl⟩
 obtain⟨g,hg⟩:∃ g,g=W.heap.size:=⟨_,rfl⟩
 rw [<- hW1,<- hg] at HFV
 have HN:=kf (fun X (hX:FB W1 w X R out)=>ftext_any hX s hl)
 clear h hL
 go_enter Tryz.func26,Tryz.ntmps26
 go_upto_region 1 with fail
 rw [<- hg,<- hW1]
 clear hg hW1
 have q0:=HFV.out.blk.cell 0
 have q1:=HFV.out.blk.cell 1
 have q2:=HFV.out.blk.cell 2
 have q3:=HFV.out.blk.cell 3
 simp at q0 q1 q2 q3
 go_wp2_with (go_at_call 33;refine(HN.out _ HFV.out.fb).mono ?_;rintro e w3 ⟨rfl,h3⟩;have HT3:=kf h3;clear h3)
 go_end0
 exact⟨rfl,HFV.out.end_ HT3.out⟩
theorem fval_name {V w W:World} {R:Nat} {out:List Nat} (h:FB V w W R out) (hL:LibOk w) (n:Int) (s:ByteArray) (A:Option Addr) (len cap:Nat) (hl:out.length+(nmF (sl s)).length<=400000) :
  Calls Tryz.prog 26 #[.pointer (some ⟨R,0,none⟩),.agg #[.int .i64 5,.int .i64 n,.string s,.slice A len cap]] W fun e W'=>e=.returned (.tuple #[])/\FB V w W' R (out++(nmF (sl s))):=by
 have HLib:=kf hL
 have HFV:=kf (FV.of h 5 n s A len cap)
 obtain⟨W1,hW1⟩:∃ W1,W1=W.alloc (.cells #[.int .i64 5,.int .i64 n,.string s,.slice A len cap] 24):=⟨_,rfl⟩
 obtain⟨g,hg⟩:∃ g,g=W.heap.size:=⟨_,rfl⟩
 rw [<- hW1,<- hg] at HFV
 have HN:=kf (fun X (hX:FB W1 w X R out)=>fname_any hX s hl)
 clear h hL
 go_enter Tryz.func26,Tryz.ntmps26
 go_upto_region 1 with fail
 rw [<- hg,<- hW1]
 clear hg hW1
 have q0:=HFV.out.blk.cell 0
 have q1:=HFV.out.blk.cell 1
 have q2:=HFV.out.blk.cell 2
 have q3:=HFV.out.blk.cell 3
 simp at q0 q1 q2 q3
 go_wp2_with (go_at_call 51;refine(HN.out _ HFV.out.fb).mono ?_;rintro e w3 ⟨rfl,h3⟩;have HT3:=kf h3;clear h3)
 go_end0
 exact⟨rfl,HFV.out.end_ HT3.out⟩
theorem fval_array {V w W:World} {R:Nat} {out:List Nat} (h:FB V w W R out) (hL:LibOk w) (n:Int) (s:ByteArray) (A:Option Addr) (len cap:Nat) (l:List VT) (hP:∀ t∈l,PV t) (hll:l.length=len) (hr:RowIs w A 0 l) (hm:len<=9223372036854775807) (hl:out.length+([91]++formL 0 l++[93]).length<=400000) :
  Calls Tryz.prog 26 #[.pointer (some ⟨R,0,none⟩),.agg #[.int .i64 6,.int .i64 n,.string s,.slice A len cap]] W fun e W'=>e=.returned (.tuple #[])/\FB V w W' R (out++([91]++formL 0 l++[93])):=by
 have HLib:=kf hL
 have HFV:=kf (FV.of h 6 n s A len cap)
 obtain⟨W1,hW1⟩:∃ W1,W1=W.alloc (.cells #[.int .i64 6,.int .i64 n,.string s,.slice A len cap] 24):=⟨_,rfl⟩
 obtain⟨g,hg⟩:∃ g,g=W.heap.size:=⟨_,rfl⟩
 rw [<- hW1,<- hg] at HFV
 have HW0:=kf (fun X o (hX:FB W1 w X R o) (ho:o.length<=1000000)=>(show Calls Tryz.prog 48 #[.pointer (some ⟨R,0,none⟩),.string ⟨#[91]⟩] X fun e W'=>e=.returned (.tuple #[.int .i64 (1:Nat),.nilIface])/\FB W1 w W' R (o++[91]) from fpwstr_any hX [91] (by decide) ho (by decide)))
 have HW1:=kf (fun X o (hX:FB W1 w X R o) (ho:o.length<=1000000)=>(show Calls Tryz.prog 48 #[.pointer (some ⟨R,0,none⟩),.string ⟨#[93]⟩] X fun e W'=>e=.returned (.tuple #[.int .i64 (1:Nat),.nilIface])/\FB W1 w W' R (o++[93]) from fpwstr_any hX [93] (by decide) ho (by decide)))
 have hl2:(out++[91]).length+(formL 0 l).length<=400000:=by simp only [List.length_append,List.length_cons,List.length_nil] at hl ⊢;omega
 have hl3:(out++[91]++formL 0 l).length<=1000000:=by rw [List.length_append];omega
 have HLS:=kf (fun X (hX:FB W1 w X R (out++[91]))=>flist_any l hP A len cap HLib.out hll hr hm hX hl2)
 have HE:=kf (show out++([91]++formL 0 l++[93])=out++[91]++formL 0 l++[93] from by simp only [List.append_assoc])
 clear hP hll hr
 clear h hL
 go_enter Tryz.func26,Tryz.ntmps26
 go_upto_region 1 with fail
 rw [<- hg,<- hW1]
 clear hg hW1
 have q0:=HFV.out.blk.cell 0
 have q1:=HFV.out.blk.cell 1
 have q2:=HFV.out.blk.cell 2
 have q3:=HFV.out.blk.cell 3
 simp at q0 q1 q2 q3
 go_upto_region 15 with(go_at_call 48;refine(HW0.out _ _ HFV.out.fb (by omega)).mono ?_;rintro e w2 ⟨rfl,h2⟩;have HT2:=kf h2;clear h2)
 have hb2:=HFV.out.at_ HT2.out
 have p3:=hb2.cell 3
 simp at p3
 clear hb2
 go_upto_region 16 with(go_at_call 52;refine(HLS.out _ HT2.out).mono ?_;rintro e w3 ⟨rfl,h3⟩;have HT3:=kf h3;clear h3)
 go_wp2_with (go_at_call 48;refine(HW1.out _ _ HT3.out hl3).mono ?_;rintro e w4 ⟨rfl,h4⟩;have HT4:=kf h4;clear h4)
 go_end0
 exact⟨rfl,by have h5:=HFV.out.end_ HT4.out;rw [<- HE.out] at h5;exact h5⟩
theorem fval_dict {V w W:World} {R:Nat} {out:List Nat} (h:FB V w W R out) (hL:LibOk w) (n:Int) (s:ByteArray) (A:Option Addr) (len cap:Nat) (l:List VT) (hP:∀ t∈l,PV t) (hll:l.length=len) (hr:RowIs w A 0 l) (hm:len<=9223372036854775807) (hl:out.length+([60,60]++formL 0 l++[62,62]).length<=400000) :
  Calls Tryz.prog 26 #[.pointer (some ⟨R,0,none⟩),.agg #[.int .i64 7,.int .i64 n,.string s,.slice A len cap]] W fun e W'=>e=.returned (.tuple #[])/\FB V w W' R (out++([60,60]++formL 0 l++[62,62])):=by
 have HLib:=kf hL
 have HFV:=kf (FV.of h 7 n s A len cap)
 obtain⟨W1,hW1⟩:∃ W1,W1=W.alloc (.cells #[.int .i64 7,.int .i64 n,.string s,.slice A len cap] 24):=⟨_,rfl⟩
 obtain⟨g,hg⟩:∃ g,g=W.heap.size:=⟨_,rfl⟩
 rw [<- hW1,<- hg] at HFV
 have HW0:=kf (fun X o (hX:FB W1 w X R o) (ho:o.length<=1000000)=>(show Calls Tryz.prog 48 #[.pointer (some ⟨R,0,none⟩),.string ⟨#[60,60]⟩] X fun e W'=>e=.returned (.tuple #[.int .i64 (2:Nat),.nilIface])/\FB W1 w W' R (o++[60,60]) from fpwstr_any hX [60,60] (by decide) ho (by decide)))
 have HW1:=kf (fun X o (hX:FB W1 w X R o) (ho:o.length<=1000000)=>(show Calls Tryz.prog 48 #[.pointer (some ⟨R,0,none⟩),.string ⟨#[62,62]⟩] X fun e W'=>e=.returned (.tuple #[.int .i64 (2:Nat),.nilIface])/\FB W1 w W' R (o++[62,62]) from fpwstr_any hX [62,62] (by decide) ho (by decide)))
 have hl2:(out++[60,60]).length+(formL 0 l).length<=400000:=by simp only [List.length_append,List.length_cons,List.length_nil] at hl ⊢;omega
 have hl3:(out++[60,60]++formL 0 l).length<=1000000:=by rw [List.length_append];omega
 have HLS:=kf (fun X (hX:FB W1 w X R (out++[60,60]))=>flist_any l hP A len cap HLib.out hll hr hm hX hl2)
 have HE:=kf (show out++([60,60]++formL 0 l++[62,62])=out++[60,60]++formL 0 l++[62,62] from by simp only [List.append_assoc])
 clear hP hll hr
 clear h hL
 go_enter Tryz.func26,Tryz.ntmps26
 go_upto_region 1 with fail
 rw [<- hg,<- hW1]
 clear hg hW1
 have q0:=HFV.out.blk.cell 0
 have q1:=HFV.out.blk.cell 1
 have q2:=HFV.out.blk.cell 2
 have q3:=HFV.out.blk.cell 3
 simp at q0 q1 q2 q3
 go_upto_region 19 with(go_at_call 48;refine(HW0.out _ _ HFV.out.fb (by omega)).mono ?_;rintro e w2 ⟨rfl,h2⟩;have HT2:=kf h2;clear h2)
 have hb2:=HFV.out.at_ HT2.out
 have p3:=hb2.cell 3
 simp at p3
 clear hb2
 go_upto_region 20 with(go_at_call 52;refine(HLS.out _ HT2.out).mono ?_;rintro e w3 ⟨rfl,h3⟩;have HT3:=kf h3;clear h3)
 go_wp2_with (go_at_call 48;refine(HW1.out _ _ HT3.out hl3).mono ?_;rintro e w4 ⟨rfl,h4⟩;have HT4:=kf h4;clear h4)
 go_end0
 exact⟨rfl,by have h5:=HFV.out.end_ HT4.out;rw [<- HE.out] at h5;exact h5⟩
theorem fval_ref {V w W:World} {R:Nat} {out:List Nat} (h:FB V w W R out) (hL:LibOk w) (n:Int) (s:ByteArray) (A:Option Addr) (len cap:Nat) (hn1:1<=n) (hn2:n<=4096) (hl:out.length+(intTxt n++[32,48,32,82]).length<=400000) :
  Calls Tryz.prog 26 #[.pointer (some ⟨R,0,none⟩),.agg #[.int .i64 8,.int .i64 n,.string s,.slice A len cap]] W fun e W'=>e=.returned (.tuple #[])/\FB V w W' R (out++(intTxt n++[32,48,32,82])):=by
 have HLib:=kf hL
 have HFV:=kf (FV.of h 8 n s A len cap)
 obtain⟨W1,hW1⟩:∃ W1,W1=W.alloc (.cells #[.int .i64 8,.int .i64 n,.string s,.slice A len cap] 24):=⟨_,rfl⟩
 obtain⟨g,hg⟩:∃ g,g=W.heap.size:=⟨_,rfl⟩
 rw [<- hW1,<- hg] at HFV
 have HW0:=kf (fun X o (hX:FB W1 w X R o) (ho:o.length<=1000000)=>(show Calls Tryz.prog 48 #[.pointer (some ⟨R,0,none⟩),.string ⟨#[32,48,32,82]⟩] X fun e W'=>e=.returned (.tuple #[.int .i64 (4:Nat),.nilIface])/\FB W1 w W' R (o++[32,48,32,82]) from fpwstr_any hX [32,48,32,82] (by decide) ho (by decide)))
 have hl2:out.length+(numF 2 n).length<=400000:=by rw [List.length_append] at hl;show out.length+(intTxt n).length<=_;omega
 have hl3:(out++numF 2 n).length<=1000000:=by rw [List.length_append];omega
 have HN:=kf (fun X (hX:FB W1 w X R out)=>fnum_any hX HLib.out 2 n ⟨#[]⟩ none 0 0 (by unfold chkOf;rw [if_pos ⟨rfl,rfl,.inl ⟨rfl,by omega,by omega⟩⟩]) hl2)
 have HIO:=kf (fun X=>intOf_any n X)
 have HE:=kf (show out++(intTxt n++[32,48,32,82])=out++numF 2 n++[32,48,32,82] from by rw [List.append_assoc];rfl)
 clear hn1 hn2
 clear h hL
 go_enter Tryz.func26,Tryz.ntmps26
 go_upto_region 1 with fail
 rw [<- hg,<- hW1]
 clear hg hW1
 have q0:=HFV.out.blk.cell 0
 have q1:=HFV.out.blk.cell 1
 have q2:=HFV.out.blk.cell 2
 have q3:=HFV.out.blk.cell 3
 simp at q0 q1 q2 q3
 go_upto_region 23 with first
  |(go_at_call 23;refine(HIO.out _).mono ?_;rintro e w2 ⟨rfl,h2⟩;have HT2:=kf (HFV.out.fb.call h2);clear h2)
  |(go_at_call 50;refine(HN.out _ HT2.out).mono ?_;rintro e w3 ⟨rfl,h3⟩;have HT3:=kf h3;clear h3)
 go_wp2_with (go_at_call 48;refine(HW0.out _ _ HT3.out hl3).mono ?_;rintro e w4 ⟨rfl,h4⟩;have HT4:=kf h4;clear h4)
 go_end0
 exact⟨rfl,by have h5:=HFV.out.end_ HT4.out;rw [<- HE.out] at h5;exact h5⟩
theorem pv_any:∀ (N:Nat) (t:VT),sizT t<=N->firstT t=0->PV t:=by
 intro N
 induction N using Nat.strongRecOn with
 |_ N ih =>
  intro t hN hf c V w W R out hL hv h hl
  obtain⟨k,n,s,l⟩:=t
  rw [sizT_mk] at hN
  obtain⟨ck,cn,cs,A,len,cap⟩:=c
  obtain⟨e1,e2,e3,hg,hll,hr⟩:=hv.inv
  simp only [] at e1 e2 e3 hll hr
  subst e1 e2 e3
  have hlm:=hg.len
  simp only [] at hlm
  unfold maxLen at hlm
  have hin:ck=6\/ck=7->∀ x∈l,PV x:=fun hk x hx=>by
   have hfx:=first_in hk hf x hx
   obtain⟨i,hi,rfl⟩:=List.mem_iff_getElem.1 hx
   have:=sizL_at (List.getElem?_eq_getElem hi)
   exact ih (N-1) (by omega) _ (by omega) hfx
  have ho:=own_zero hf
  unfold VC.val
  simp only []
  rcases kind_of ho with rfl|rfl|rfl|rfl|rfl|rfl|rfl|rfl|rfl
  ·rw [form_0] at hl ⊢
   exact fval_null h hL cn cs A len cap hl
  ·rw [own_1] at ho
   split at ho
   ·next hh =>
    rcases hh.2.2 with rfl|rfl
    ·rw [form_1,if_neg (by decide)] at hl ⊢
     exact fval_false h hL cs A len cap hl
    ·rw [form_1,if_pos rfl] at hl ⊢
     exact fval_true h hL cs A len cap hl
   ·cases ho
  ·rw [own_2,hll] at ho
   rw [form_2] at hl ⊢
   exact fval_int h hL cn cs A len cap ho hl
  ·rw [own_3,hll] at ho
   rw [form_3] at hl ⊢
   exact fval_real h hL cn cs A len cap ho hl
  ·rw [form_4] at hl ⊢
   exact fval_text h hL cn cs A len cap hl
  ·rw [form_5] at hl ⊢
   exact fval_name h hL cn cs A len cap hl
  ·have e:formT (.mk 6 cn cs l)=[91]++formL 0 l++[93]:=by rw [form_6];rfl
   rw [e] at hl ⊢
   exact fval_array h hL cn cs A len cap l (hin (.inl rfl)) hll hr hlm hl
  ·have e:formT (.mk 7 cn cs l)=[60,60]++formL 0 l++[62,62]:=by rw [form_7];rfl
   rw [e] at hl ⊢
   exact fval_dict h hL cn cs A len cap l (hin (.inr rfl)) hll hr hlm hl
  ·rw [own_8] at ho
   split at ho
   ·next hh =>
    rw [form_8] at hl ⊢
    exact fval_ref h hL cn cs A len cap hh.2.2.1 hh.2.2.2 hl
   ·cases ho
noncomputable def ownT:VT->Int|.mk k n s l=>ownO k n s l
open Classical in
noncomputable def stepC (t:VT) (d:Nat) (st:Int):Int × Bool:=(if st=0 then ownT t else st,decide ((if st=0 then ownT t else st)=0))
theorem stepC_z (k n:Int) (s:ByteArray) (l:List VT) (d:Nat):(stepC (.mk k n s l) d 0).1=ownO k n s l:=by
 unfold stepC
 simp only [if_pos]
 rfl
structure CJ (w0:World) (g:Nat) (st:Int) (W:World):Prop where
 a:Blk W g 27 #[.int .i64 st]
 new:w0.heap.size<=g
 chg:Chg NoS w0 W
theorem CJ.call {w0 W W':World} {g:Nat} {st:Int} (h:CJ w0 g st W) (hc:Chg NoS W W'):CJ w0 g st W':=⟨h.a.chg hc (fun e=>e),h.new,h.chg.trans hc (fun _ _ e=>e)⟩
theorem CJ.set {w0 W:World} {g:Nat} {st:Int} (h:CJ w0 g st W) (n:Int):CJ w0 g n (W.setCell ⟨g,0,none⟩ (.int .i64 n)) :=
 ⟨h.a.set_ 0 _,h.new,h.chg.setCell (p:=⟨g,0,none⟩) (fun h2=>absurd h2 (Nat.not_lt.2 h.new)) _⟩
theorem chk1_any (w0:World) (g:Nat) (t:VT) (c:VC) (d:Nat) (st:Int) (W:World) (hv:ValIs W t c) (hj:CJ w0 g st W) :
  Calls Tryz.prog 46 #[c.val,.int .i64 (d:Nat),.pointer (some ⟨g,0,none⟩)] W fun e w'=>e=.returned (.bool (stepC t d st).2)/\CJ w0 g (stepC t d st).1 w'/\Chg (fun i=>i=g) W w':=by
 have HV:=kf hv
 obtain⟨tk,tn,ts,l⟩:=t
 obtain⟨h1,h2,h3,_,_,_⟩:=hv.inv
 obtain⟨ck,cn,cs,A,len,cap⟩:=c
 simp only [] at h1 h2 h3
 subst h1 h2 h3
 have HJ:=kf (hj.call ((Chg.refl NoS W).alloc (.cells #[.int .i64 ck,.int .i64 cn,.string cs,.slice A len cap] 24)))
 have hl:=hj.a.lt
 have hne:¬W.heap.size=g:=by omega
 have x0:=HJ.out.a.cell 0
 have x1:=HJ.out.a.frozen 0
 simp at x0
 have HC:=kf (((Chg.refl (fun i=>i=g) W).alloc (.cells #[.int .i64 ck,.int .i64 cn,.string cs,.slice A len cap] 24)))
 have HA:=kf (fun(W':World) (h:Chg NoS W W')=>alone_any ⟨ck,cn,cs,A,len,cap⟩ l W' (HV.out.chg h))
 unfold VC.val at HA ⊢
 simp only [] at HA ⊢
 clear hj hv hl
 by_cases h0:st=0
 ·subst h0
  obtain⟨z,hz⟩:∃ z,z=ownO ck cn cs l:=⟨_,rfl⟩
  have HS1:=kf (show(stepC (.mk ck cn cs l) d 0).1=z from by rw [hz];exact stepC_z _ _ _ _ _)
  have HS2:=kf (show(stepC (.mk ck cn cs l) d 0).2=decide (z=0) from by rw [hz];unfold stepC;simp only [if_pos];exact decide_eq_decide.2 Iff.rfl)
  rw [HS1.out,HS2.out]
  rw [<- hz] at HA
  clear hz HS1 HS2
  go_enter Tryz.func46,Tryz.ntmps46
  go_upto_region 3 with(go_at_call 47;refine(HA.out _ ((Chg.refl NoS W).alloc _)).mono ?_;rintro e w3 ⟨rfl,hc3⟩;have HJ3:=kf (HJ.out.call hc3);have HC3:=kf (HC.out.trans (Chg.weak hc3) (fun _ _ e=>e));have y1:=HJ3.out.a.frozen 0;have y0:=HJ3.out.a.cell 0;simp at y0;clear hc3 x0 x1)
  have HJ4:=kf (HJ3.out.set z)
  have HC4:=kf (HC3.out.setCell (p:=⟨g,0,none⟩) (fun _=>rfl) (.int .i64 z))
  have q0:=HJ4.out.a.cell 0
  simp at q0
  clear y0 y1
  by_cases hz0:z=0
  ·subst hz0
   go_wp2_with fail
   go_ret
   exact⟨rfl,HJ4.out,HC4.out⟩
  ·have e0:(z==0)=false:=by simpa using hz0
   have HZ:=kf hz0
   clear hz0
   go_wp2_with fail
   go_ret
   exact⟨by simp [HZ.out],HJ4.out,HC4.out⟩
 ·have e0:(st==0)=false:=by simpa using h0
  have HS1:=kf (show(stepC (.mk ck cn cs l) d st).1=st from if_neg h0)
  have HS2:=kf (show(stepC (.mk ck cn cs l) d st).2=false from by unfold stepC;simp only [if_neg h0];exact decide_eq_false h0)
  rw [HS1.out,HS2.out]
  clear h0 HS1 HS2
  go_enter Tryz.func46,Tryz.ntmps46
  go_wp2_with fail
  go_ret
  exact⟨rfl,HJ.out,HC.out⟩
theorem chk_see (w0:World) (g:Nat):SeeOf w0 46 #[.pointer (some ⟨g,0,none⟩)] (fun i=>i=g) (CJ w0 g) stepC where
 chg:=fun _ _ h=>h.chg
 keep:=fun _ _ _ h hc=>h.call hc
 low:=fun _ _ h i hi=>hi ▸ h.a.lt
 see:=fun t c d st W hv hj _=>chk1_any w0 g t c d st W hv hj
theorem own_leaf {k n:Int} {s:ByteArray} {l:List VT} (h:ownO k n s l=0) (h6:¬(k=6\/k=7)):l=[]:=by
 have h2:l.length=0:=by
  unfold ownO at h
  split at h
  ·split at h<;>omega
  ·split at h
   ·split at h<;>omega
   ·split at h
    ·unfold chkOf at h;split at h<;>omega
    ·split at h
     ·split at h<;>omega
     ·split at h
      ·split at h
       ·omega
       ·split at h<;>omega
      ·split at h
       ·omega
       ·split at h
        ·omega
        ·split at h
         ·split at h<;>omega
         ·omega
 exact List.length_eq_zero_iff.1 h2
mutual
theorem walkC_T:∀ (t:VT) (d:Nat) (st:Int),walkT stepC t d st=if st=0 then firstT t else st
 |.mk k n s l,d,st=>by
  by_cases h0:st=0
  ·subst h0
   rw [if_pos rfl,firstT_mk]
   have e1:(stepC (.mk k n s l) d 0).1=ownO k n s l:=stepC_z _ _ _ _ _
   by_cases hz:ownO k n s l=0
   ·rw [walkT_on (show(stepC (.mk k n s l) d 0).2=true from decide_eq_true (by rw [if_pos rfl];exact hz)),e1,hz,if_neg (fun h=>h rfl),walkC_L l (d+1) 0,if_pos rfl]
    by_cases h6:k=6\/k=7
    ·rw [if_pos h6]
    ·rw [if_neg h6,own_leaf hz h6,firstL]
   ·rw [walkT_no (show(stepC (.mk k n s l) d 0).2=false from decide_eq_false (by rw [if_pos rfl];exact hz)),e1,if_pos hz]
  ·rw [if_neg h0,walkT_no (show(stepC (.mk k n s l) d st).2=false from decide_eq_false (by rw [if_neg h0];exact h0))]
   exact if_neg h0
theorem walkC_L:∀ (l:List VT) (d:Nat) (st:Int),walkL stepC l d st=if st=0 then firstL l else st
 |[],d,st=>by
  rw [walkL,firstL]
  split
  ·next h=>exact h
  ·rfl
 |t::l,d,st=>by
  rw [walkL_cons,walkC_T t d st,walkC_L l d,firstL_cons]
  by_cases h0:st=0
  ·rw [if_pos h0,if_pos h0]
   by_cases h1:firstT t=0
   ·rw [if_pos h1,if_neg (fun h=>h h1)]
   ·rw [if_neg h1,if_pos h1]
  ·rw [if_neg h0,if_neg h0,if_neg h0]
end
theorem check_any (t:VT) (c:VC) (w:World) (hv:ValIs w t c) (hs:sizT t<=1000000) :
  Calls Tryz.prog 25 #[c.val] w fun e w'=>e=.returned (.int .i64 (checkT t))/\Chg NoS w w':=by
 have HV:=kf hv
 obtain⟨ck,cn,cs,A,len,cap⟩:=c
 have HD:=kf (fun(W:World) (h:Chg NoS w W)=>depu_any t ⟨ck,cn,cs,A,len,cap⟩ 65 W (HV.out.chg h) (by omega) (by omega))
 have HW:=kf (fun(W:World) (g:Nat) (h:CJ w g 0 W)=>walk_any w 46 _ (fun args w=>rfl) _ _ _ (chk_see w g) t ⟨ck,cn,cs,A,len,cap⟩ 1 0 W HV.out h (by omega))
 rw [walkC_T t 1 0,if_pos rfl] at HW
 have HB:=kf (Blk.new w 24 #[.int .i64 ck,.int .i64 cn,.string cs,.slice A len cap])
 have HC0:=kf ((Chg.refl NoS w).alloc (.cells #[.int .i64 ck,.int .i64 cn,.string cs,.slice A len cap] 24))
 unfold VC.val at HD HW ⊢
 simp only [] at HD HW ⊢
 have hdp:=(depthT_le t).1
 obtain⟨D,hD⟩:∃ D:Nat,D=depthT t:=⟨_,rfl⟩
 rw [<- hD] at HD hdp
 have ex:∃ m:Nat,m=min 65 D:=⟨_,rfl⟩
 obtain⟨m,hm⟩:=ex
 rw [<- hm] at HD
 clear hv
 by_cases h64:64<D
 ·have HE:=kf (show checkT t=15 from by unfold checkT;rw [<- hD,if_pos h64])
  obtain rfl:m=65:=by omega
  clear hD hm
  go_enter Tryz.func25,Tryz.ntmps25
  go_wp2_with (go_at_call 44;refine(HD.out _ HC0.out).mono ?_;rintro e w3 ⟨rfl,hc3⟩;have HC3:=kf (HC0.out.trans hc3 (fun _ _ e=>e));clear hc3)
  go_ret
  exact⟨ret_v64 HE.out.symm,HC3.out⟩
 ·have HE:=kf (show checkT t=firstT t from by unfold checkT;rw [<- hD,if_neg h64])
  have d1:decide ((64:Int)<(m:Int))=false:=by simp;omega
  have d1':decide (64<m)=false:=by simp;omega
  clear hD hm h64
  go_enter Tryz.func25,Tryz.ntmps25
  go_upto_region 3 with(go_at_call 44;refine(HD.out _ HC0.out).mono ?_;rintro e w3 ⟨rfl,hc3⟩;have HC3:=kf (HC0.out.trans hc3 (fun _ _ e=>e));have HB3:=kf (HB.out.chg hc3 (fun e=>e));clear hc3)
  have HB4:=kf (HB3.out.alloc (.cells #[.int .i64 0] 27))
  have HJ4:=kf (⟨Blk.new w3 27 #[.int .i64 0],HC3.out.size,HC3.out.alloc _⟩:CJ w w3.heap.size 0 _)
  have x0:=HB4.out.cell 0
  have x1:=HB4.out.cell 1
  have x2:=HB4.out.cell 2
  have x3:=HB4.out.cell 3
  simp at x0 x1 x2 x3
  go_wp2_with (go_at_call 45;refine(HW.out _ _ HJ4.out).mono ?_;rintro e w5 ⟨rfl,hj5,_⟩;have HJ5:=kf hj5;have y0:=hj5.a.cell 0;simp at y0;clear hj5 x0 x1 x2 x3)
  go_ret
  exact⟨ret_v64 HE.out.symm,HJ5.out.chg⟩
theorem nmF_lt {s:List Nat} (h:∀ c∈s,c<256):∀ d∈nmF s,d<256:=by
 intro d hd
 rw [nmF] at hd
 rcases List.mem_cons.1 hd with rfl|hd
 ·decide
 induction s with
 |nil=>cases hd
 |cons c s ih =>
  rw [nmL] at hd
  rcases List.mem_append.1 hd with h1|h1
  ·have hc:=h c (List.mem_cons_self ..)
   unfold nmC at h1
   split at h1
   ·rw [List.mem_singleton] at h1;omega
   ·rcases List.mem_cons.1 h1 with rfl|h1
    ·decide
    ·exact hex2_lt hc d h1
  ·exact ih (fun x hx=>h x (List.mem_cons_of_mem _ hx)) (List.mem_cons_of_mem _ h1) h1
theorem esL_lt {s:List Nat} (h:∀ c∈s,c<256):∀ d∈esL s,d<256:=by
 intro d hd
 induction s with
 |nil=>cases hd
 |cons c s ih =>
  rw [esL] at hd
  rcases List.mem_append.1 hd with h1|h1
  ·exact esC_lt (h c (List.mem_cons_self ..)) d h1
  ·exact ih (fun x hx=>h x (List.mem_cons_of_mem _ hx)) h1
theorem hxL_lt {s:List Nat} (h:∀ c∈s,c<256):∀ d∈hxL s,d<256:=by
 intro d hd
 induction s with
 |nil=>cases hd
 |cons c s ih =>
  rw [hxL] at hd
  rcases List.mem_append.1 hd with h1|h1
  ·exact hex2_lt (h c (List.mem_cons_self ..)) d h1
  ·exact ih (fun x hx=>h x (List.mem_cons_of_mem _ hx)) h1
theorem txF_lt {s:List Nat} (h:∀ c∈s,c<256):∀ d∈txF s,d<256:=by
 intro d hd
 unfold txF at hd
 split at hd
 ·rcases List.mem_cons.1 hd with rfl|hd
  ·decide
  rcases List.mem_append.1 hd with h1|h1
  ·exact esL_lt h d h1
  ·rw [List.mem_singleton] at h1;omega
 ·rcases List.mem_cons.1 hd with rfl|hd
  ·decide
  rcases List.mem_append.1 hd with h1|h1
  ·exact hxL_lt h d h1
  ·rw [List.mem_singleton] at h1;omega
mutual
theorem form_lt:∀ (t:VT),∀ d∈formT t,d<256
 |.mk k n s l=>by
  intro d hd
  have h32:∀ (x:List Nat),(∀ y∈x,y<256)->d∈x->d<256:=fun x hx hd=>hx d hd
  rw [formT] at hd
  split at hd
  ·exact h32 _ (by decide) hd
  split at hd
  ·split at hd
   ·exact h32 _ (by decide) hd
   ·exact h32 _ (by decide) hd
  split at hd
  ·exact isd_lt (int_b n) d hd
  split at hd
  ·exact isd_lt (real_b n) d hd
  split at hd
  ·exact txF_lt (sl_lt s) d hd
  split at hd
  ·exact nmF_lt (sl_lt s) d hd
  split at hd
  ·rcases List.mem_append.1 hd with hd|hd
   ·exact isd_lt (int_b n) d hd
   ·exact h32 _ (by decide) hd
  split at hd
  ·rcases List.mem_cons.1 hd with rfl|hd
   ·decide
   rcases List.mem_append.1 hd with hd|hd
   ·exact formL_lt 0 l d hd
   ·exact h32 _ (by decide) hd
  ·rcases List.mem_cons.1 hd with rfl|hd
   ·decide
   rcases List.mem_cons.1 hd with rfl|hd
   ·decide
   rcases List.mem_append.1 hd with hd|hd
   ·exact formL_lt 0 l d hd
   ·exact h32 _ (by decide) hd
theorem formL_lt:∀ (j:Nat) (l:List VT),∀ d∈formL j l,d<256
 |j,[]=>fun d hd=>by rw [formL_nil] at hd;cases hd
 |j,t::l=>fun d hd=>by
  rw [formL_cons] at hd
  rcases List.mem_append.1 hd with hd|hd
  ·have:=List.eq_of_mem_replicate hd;omega
  rcases List.mem_append.1 hd with hd|hd
  ·exact form_lt t d hd
  ·exact formL_lt 1 l d hd
end
noncomputable def showO (t:VT):List Nat:=if checkT t=0 then formT t else []
theorem first_of {t:VT} (h:checkT t=0):firstT t=0:=by
 unfold checkT at h
 split at h
 ·cases h
 ·exact h
theorem show_any (t:VT) (c:VC) (w:World) (hL:LibOk w) (hv:ValIs w t c) (hs:sizT t<=1000000) (hl:checkT t=0->(formT t).length<=400000) :
  Calls Tryz.prog 9 #[c.val] w fun e w'=>e=.returned (.tuple #[.string (sb (showO t)),.int .i64 (checkT t)])/\Chg NoS w w':=by
 have HLib:=kf hL
 have HV:=kf hv
 have HCK:=kf (fun X (hX:Chg NoS w X)=>check_any t c X (hv.chg hX) hs)
 have HFV:=kf (fun(hf:firstT t=0) X R (hX:FB w w X R []) (h2:([]:List Nat).length+(formT t).length<=400000)=>pv_any _ t (Nat.le_refl _) hf c w w X R [] hL hv hX h2)
 have HSH:=kf (show showO t=if checkT t=0 then formT t else [] from rfl)
 obtain⟨ck,cn,cs,A,len,cap⟩:=c
 unfold VC.val at HCK HFV ⊢
 simp only [] at HCK HFV ⊢
 have HB:=kf (Blk.new w 24 #[.int .i64 ck,.int .i64 cn,.string cs,.slice A len cap])
 have HC0:=kf ((Chg.refl NoS w).alloc (.cells #[.int .i64 ck,.int .i64 cn,.string cs,.slice A len cap] 24))
 obtain⟨W1,hW1⟩:∃ W1,W1=w.alloc (.cells #[.int .i64 ck,.int .i64 cn,.string cs,.slice A len cap] 24):=⟨_,rfl⟩
 obtain⟨g,hg⟩:∃ g,g=w.heap.size:=⟨_,rfl⟩
 rw [<- hW1] at HB HC0
 rw [<- hg] at HB
 obtain⟨z,hz⟩:∃ z,z=checkT t:=⟨_,rfl⟩
 rw [<- hz] at HCK HSH hl ⊢
 have HZ:=kf hz
 clear hL hv hz
 by_cases h0:z=0
 ·subst h0
  have hlen:=hl rfl
  have HE:=kf (show showO t=formT t from by rw [HSH.out,if_pos rfl])
  have hf:=first_of HZ.out.symm
  have HFF:=kf (HFV.out hf)
  have HLT:=kf (form_lt t)
  clear hl hf HSH
  go_enter Tryz.func9,Tryz.ntmps9
  go_upto_region 1 with fail
  rw [<- hg,<- hW1]
  clear hg hW1
  have q0:=HB.out.cell 0
  have q1:=HB.out.cell 1
  have q2:=HB.out.cell 2
  have q3:=HB.out.cell 3
  simp at q0 q1 q2 q3
  go_upto_region 4 with(go_at_call 25;refine(HCK.out _ HC0.out).mono ?_;rintro e w2 ⟨rfl,h2⟩;have HC2:=kf (HC0.out.trans h2 (fun _ _ e=>e));have HB2:=kf (HB.out.chg h2 (fun h=>h));clear h2)
  have HST:=kf (FB.start w w2 HC2.out)
  have HB3:=kf (HB2.out.alloc (.cells #[.pointer none,.slice none 0 0] 52))
  obtain⟨W3,hW3⟩:∃ W3,W3=w2.alloc (.cells #[.pointer none,.slice none 0 0] 52):=⟨_,rfl⟩
  obtain⟨R,hR⟩:∃ R,R=w2.heap.size:=⟨_,rfl⟩
  rw [<- hW3] at HST HB3
  rw [<- hR] at HST
  clear q0 q1 q2 q3
  go_upto_region 5 with fail
  rw [<- hW3,<- hR]
  clear hW3 hR
  have q0:=HB3.out.cell 0
  have q1:=HB3.out.cell 1
  have q2:=HB3.out.cell 2
  have q3:=HB3.out.cell 3
  simp at q0 q1 q2 q3
  go_wp2_with first
   |(go_at_call 26;refine(HFF.out _ _ HST.out (by simpa using hlen)).mono ?_;rintro e w4 ⟨rfl,h4⟩;have HF4:=kf h4;clear h4)
   |(go_at_call 27;refine(fpstring_any HF4.out (by rw [List.nil_append];exact HLT.out) (by rw [List.nil_append];omega)).mono ?_;rintro e w5 ⟨rfl,h5⟩;have HC5:=kf h5;clear h5)
  go_ret2
  exact⟨by rw [HE.out];rfl,HC5.out⟩
 ·have HE:=kf (show showO t=[] from by rw [HSH.out,if_neg h0])
  have d0:(z==0)=false:=by simpa using h0
  have d0':(z != 0)=true:=by simpa using h0
  clear hl h0 HSH HFV
  go_enter Tryz.func9,Tryz.ntmps9
  go_upto_region 1 with fail
  rw [<- hg,<- hW1]
  clear hg hW1
  have q0:=HB.out.cell 0
  have q1:=HB.out.cell 1
  have q2:=HB.out.cell 2
  have q3:=HB.out.cell 3
  simp at q0 q1 q2 q3
  go_wp2_with (go_at_call 25;refine(HCK.out _ HC0.out).mono ?_;rintro e w2 ⟨rfl,h2⟩;have HC2:=kf (HC0.out.trans h2 (fun _ _ e=>e));clear h2)
  go_ret2
  exact⟨by rw [HE.out];rfl,HC2.out⟩
theorem slen_any (t:VT) (c:VC) (w:World) (hL:LibOk w) (hv:ValIs w t c) (hs:sizT t<=1000000) (hl:checkT t=0->(formT t).length<=400000) :
  Calls Tryz.prog 11 #[c.val] w fun e w'=>e=.returned (.int .i64 ((showO t).length:Nat))/\Chg NoS w w':=by
 have HSH:=kf (fun X (hX:Chg NoS w X)=>show_any t c X (hL.chg hX) (hv.chg hX) hs hl)
 obtain⟨ck,cn,cs,A,len,cap⟩:=c
 unfold VC.val at HSH ⊢
 simp only [] at HSH ⊢
 have HB:=kf (Blk.new w 24 #[.int .i64 ck,.int .i64 cn,.string cs,.slice A len cap])
 have HC0:=kf ((Chg.refl NoS w).alloc (.cells #[.int .i64 ck,.int .i64 cn,.string cs,.slice A len cap] 24))
 obtain⟨W1,hW1⟩:∃ W1,W1=w.alloc (.cells #[.int .i64 ck,.int .i64 cn,.string cs,.slice A len cap] 24):=⟨_,rfl⟩
 obtain⟨g,hg⟩:∃ g,g=w.heap.size:=⟨_,rfl⟩
 rw [<- hW1] at HB HC0
 rw [<- hg] at HB
 obtain⟨z,hz⟩:∃ z,z=checkT t:=⟨_,rfl⟩
 obtain⟨S,hS⟩:∃ S,S=sb (showO t):=⟨_,rfl⟩
 have HLE:=kf (show S.size=(showO t).length from by rw [hS,sb_size])
 rw [<- hz,<- hS] at HSH
 obtain⟨m,hm⟩:∃ m,m=(showO t).length:=⟨_,rfl⟩
 rw [<- hm] at HLE ⊢
 have hle:=HLE.out
 clear hL hv hl hz hS hm HLE
 go_enter Tryz.func11,Tryz.ntmps11
 go_upto_region 1 with fail
 rw [<- hg,<- hW1]
 clear hg hW1
 have q0:=HB.out.cell 0
 have q1:=HB.out.cell 1
 have q2:=HB.out.cell 2
 have q3:=HB.out.cell 3
 simp at q0 q1 q2 q3
 go_wp2_with (go_at_call 9;refine(HSH.out _ HC0.out).mono ?_;rintro e w2 ⟨rfl,h2⟩;have HC2:=kf (HC0.out.trans h2 (fun _ _ e=>e));clear h2)
 go_ret
 exact⟨rfl,HC2.out⟩
theorem stext_any (s:ByteArray) (w:World) (hs:s.size<=100000) :
  Calls Tryz.prog 14 #[.string s] w fun e w'=>e=.returned (.string (sb (txF (sl s))))/\Chg NoS w w':=by
 have hlen:(txF (sl s)).length<=400000:=by
  unfold txF
  split
  ·have:=esL_le2 (sl s)
   rw [sl_len] at this
   simp only [List.length_cons,List.length_append,List.length_nil]
   omega
  ·have:=hxL_two (sl s)
   rw [sl_len] at this
   simp only [List.length_cons,List.length_append,List.length_nil]
   omega
 have HST:=kf (FB.start w w (Chg.refl NoS w))
 have HT:=kf (fun X R (hX:FB w w X R [])=>ftext_any hX s (by simpa using hlen))
 have HLT:=kf (txF_lt (sl_lt s))
 obtain⟨W1,hW1⟩:∃ W1,W1=w.alloc (.cells #[.pointer none,.slice none 0 0] 52):=⟨_,rfl⟩
 obtain⟨R,hR⟩:∃ R,R=w.heap.size:=⟨_,rfl⟩
 rw [<- hW1] at HST
 rw [<- hR] at HST
 go_enter Tryz.func14,Tryz.ntmps14
 go_upto_region 2 with fail
 rw [<- hW1,<- hR]
 clear hW1 hR
 go_wp2_with first
  |(go_at_call 33;refine(HT.out _ _ HST.out).mono ?_;rintro e w4 ⟨rfl,h4⟩;have HF4:=kf h4;clear h4)
  |(go_at_call 27;refine(fpstring_any HF4.out (by rw [List.nil_append];exact HLT.out) (by rw [List.nil_append];omega)).mono ?_;rintro e w5 ⟨rfl,h5⟩;have HC5:=kf h5;clear h5)
 go_ret
 exact⟨rfl,HC5.out⟩
def sA13:ByteArray:=⟨#[65]⟩
def int713:VT:=.mk 2 7 ⟨#[]⟩ []
def wkD13:List VT:=[nmT sA13,int713]
theorem dict_wk13:dictT wkD13=wkD13:=by
 have k0:keyAt wkD13 0=sA13:=rfl
 have v0:valAt wkD13 0=int713:=rfl
 have h:sortR (keyAt wkD13) (List.range (wkD13.length / 2))=[0]:=by rfl
 unfold dictT
 rw [h]
 show emF (keyAt wkD13) (valAt wkD13) [0]=_
 rw [emF_last,k0,v0]
 rfl
theorem tA13:textO sA13:=by unfold textO sA13;exact⟨by intro d hd;simp [sl] at hd;omega,by decide⟩
theorem check_wk13:checkT (.mk 7 0 ⟨#[]⟩ wkD13)=0:=by
 have hdp:depthT (.mk 7 0 ⟨#[]⟩ wkD13)=2:=by unfold wkD13 nmT int713;simp [depthT,depthL]
 unfold checkT
 rw [hdp,if_neg (by decide),firstT_mk]
 have hd:ownO 7 0 ⟨#[]⟩ wkD13=0:=by
  rw [own_7]
  refine dict_ok rfl ?_ ?_
  ·intro j t h
   match j,h with
   |0,h=>cases h;rfl
   |j+1,h=>rw [show 2*(j+1)=2*j+2 by omega] at h;simp [wkD13] at h
  ·intro j t u h h2
   rw [show 2*j+2=2*j+2 by omega] at h2
   simp [wkD13] at h2
 rw [hd,if_neg (fun h=>h rfl),if_pos (.inr rfl)]
 have fz:∀ {k n:Int} {s:ByteArray} {l:List VT},ownO k n s l=0->¬(k=6\/k=7)->firstT (.mk k n s l)=0:=fun h h6=>by
  rw [firstT_mk,h,if_neg (fun h=>h rfl),if_neg h6]
 have e1:firstT (nmT sA13)=0:=fz (by rw [own_5,if_neg (fun h=>h tA13)];exact if_pos ⟨rfl,rfl⟩) (by decide)
 have e3:firstT int713=0:=fz (by rw [own_2];unfold chkOf;exact if_pos ⟨rfl,rfl,by unfold mayN;simp⟩) (by decide)
 unfold wkD13
 rw [firstL_cons,e1,firstL_cons,e3]
 simp [firstL]
theorem int_one (d:Nat) (h:d<10):intTxt (d:Int)=[48+d]:=by
 have e:(d:Int).natAbs=d:=by omega
 rw [intTxt,signL,if_neg (by omega),e,txt_step d 1 (by omega),show d / 10=0 by omega,show d%10=d by omega,txt_none]
 rfl
theorem form_wk13:formT (.mk 7 0 ⟨#[]⟩ wkD13)=[60,60,47,65,32,55,62,62]:=by
 rw [form_7]
 unfold wkD13
 rw [formL_cons,formL_cons,formL_nil,nmT,form_5,int713,form_2,show(7:Int)=((7:Nat):Int) from rfl,int_one 7 (by decide)]
 have e1:sl sA13=[65]:=by simp [sl,sA13]
 rw [e1]
 decide
theorem leaf_is (k n:Int) (hk:-9223372036854775808<=k/\k<=9223372036854775807) (hn:-9223372036854775808<=n/\n<=9223372036854775807) (W:World):ValIs W (.mk k n ⟨#[]⟩ []) ⟨k,n,⟨#[]⟩,none,0,0⟩ :=
 .mk ⟨k,n,⟨#[]⟩,none,0,0⟩ [] ⟨hk,hn,Nat.zero_le _,fun _=>⟨rfl,rfl⟩,Nat.le_refl _,Nat.zero_le _⟩ rfl (.nil _ _)
theorem check_ref13:checkT (.mk 8 3 ⟨#[]⟩ [])=0:=by
 have hdp:depthT (.mk 8 3 ⟨#[]⟩ [])=1:=by simp [depthT]
 unfold checkT
 have ho:ownO 8 3 ⟨#[]⟩ []=0:=by rw [own_8];exact if_pos ⟨rfl,rfl,by decide,by decide⟩
 rw [hdp,if_neg (by decide),firstT_mk,ho,if_neg (fun h=>h rfl),if_neg (by decide)]
theorem form_ref13:formT (.mk 8 3 ⟨#[]⟩ [])=[51,32,48,32,82]:=by
 rw [form_8,show(3:Int)=((3:Nat):Int) from rfl,int_one 3 (by decide)]
 rfl
theorem wkd13_any (W:World):Calls Tryz.prog 21 #[.slice (some ⟨W.heap.size,0,none⟩) 2 2] (W.alloc (.cells #[.int .i64 5,.int .i64 0,.string ⟨#[65]⟩,.slice none 0 0,.int .i64 2,.int .i64 7,.string ⟨#[]⟩,.slice none 0 0] 24)) fun e w'=>∃ (A:Option Addr) (cap:Nat),e=.returned (.agg #[.int .i64 7,.int .i64 0,.string ⟨#[]⟩,.slice A 2 cap])/\ValIs w' (.mk 7 0 ⟨#[]⟩ wkD13) ⟨7,0,⟨#[]⟩,A,2,cap⟩/\Chg NoS (W.alloc (.cells #[.int .i64 5,.int .i64 0,.string ⟨#[65]⟩,.slice none 0 0,.int .i64 2,.int .i64 7,.string ⟨#[]⟩,.slice none 0 0] 24)) w':=by
 letI:KD.LVI:=insVI NoS (W.alloc (.cells #[.int .i64 5,.int .i64 0,.string ⟨#[65]⟩,.slice none 0 0,.int .i64 2,.int .i64 7,.string ⟨#[]⟩,.slice none 0 0] 24))
 have h:=KD.dictOf_k wkD13 [⟨5,0,sA13,none,0,0⟩,⟨2,7,⟨#[]⟩,none,0,0⟩] (some ⟨W.heap.size,0,none⟩) 2 2 (W.alloc (.cells #[.int .i64 5,.int .i64 0,.string ⟨#[65]⟩,.slice none 0 0,.int .i64 2,.int .i64 7,.string ⟨#[]⟩,.slice none 0 0] 24)) rfl rfl
  (KD.src_two (e:=⟨5,0,sA13,none,0,0⟩) (f:=⟨2,7,⟨#[]⟩,none,0,0⟩) (Blk.new W 24 #[.int .i64 5,.int .i64 0,.string ⟨#[65]⟩,.slice none 0 0,.int .i64 2,.int .i64 7,.string ⟨#[]⟩,.slice none 0 0]))
  (KD.is_two (t:=nmT sA13) (u:=int713) (ins_leaf NoS _ 5 0 sA13 (by decide) (by decide) (by decide)) (ins_leaf NoS _ 2 7 ⟨#[]⟩ (by decide) (by decide) (by decide)))
  (fun a ha=>by cases ha;rfl) (Nat.le_refl _) (by decide) (by
   intro t ht
   simp only [wkD13,List.mem_cons,List.not_mem_nil,or_false] at ht
   rcases ht with rfl|rfl<;>decide)
 rw [dict_wk13] at h
 refine h.mono ?_
 rintro e w' ⟨es,A,n,c,rfl,hgv,hn⟩
 obtain rfl:n=2:=hgv.tlen.symm
 exact⟨A,c,rfl,(ins_row (O:=NoS) hgv.own (fun _ _ e=>e) hgv.len hgv.tlen (fun j t e h1 h2=>Ins.chg (hgv.is j t e h1 h2) hgv.chg) (by decide) (by decide) (by decide)).now,hgv.chg⟩
theorem works_any13 (w:World) (hL:LibOk w):Calls Tryz.prog 8 #[] w fun e w'=>e=.returned (.bool true)/\Chg NoS w w':=by
 have HN:=kf (fun(W:World) (h:Chg NoS w W)=>(nameOf_any ⟨#[65]⟩ W).mono (fun e w' k=>(⟨k.1,h.trans k.2 (fun _ _ e=>e)⟩:e=_/\Chg NoS w w')))
 have HI:=kf (fun(W:World) (h:Chg NoS w W)=>(intOf_any 7 W).mono (fun e w' k=>(⟨k.1,h.trans k.2 (fun _ _ e=>e)⟩:e=_/\Chg NoS w w')))
 have HR:=kf (fun(W:World) (h:Chg NoS w W)=>(refTo_any 3 W).mono (fun e w' k=>(⟨k.1,h.trans k.2 (fun _ _ e=>e)⟩:e=_/\Chg NoS w w')))
 have HD:=kf (fun(W:World) (h:Chg NoS w W)=>(show Calls Tryz.prog 21 #[.slice (some ⟨W.heap.size,0,none⟩) 2 2] (W.alloc (.cells #[.int .i64 5,.int .i64 0,.string ⟨#[65]⟩,.slice none 0 0,.int .i64 2,.int .i64 7,.string ⟨#[]⟩,.slice none 0 0] 24)) fun e w'=>∃ (A:Option Addr) (cap:Nat),e=.returned (.agg #[.int .i64 7,.int .i64 0,.string ⟨#[]⟩,.slice A 2 cap])/\ValIs w' (.mk 7 0 ⟨#[]⟩ wkD13) ⟨7,0,⟨#[]⟩,A,2,cap⟩/\Chg NoS w w' from(wkd13_any W).mono fun e w' ⟨A,cap,k1,k2,k3⟩=>⟨A,cap,k1,k2,(h.alloc _).trans k3 (fun _ _ e=>e)⟩))
 have HS:=kf (fun(A:Option Addr) (cap:Nat) (W:World) (hv:ValIs W (.mk 7 0 ⟨#[]⟩ wkD13) ⟨7,0,⟨#[]⟩,A,2,cap⟩) (h:Chg NoS w W)=>(show Calls Tryz.prog 9 #[.agg #[.int .i64 7,.int .i64 0,.string ⟨#[]⟩,.slice A 2 cap]] W fun e w'=>e=.returned (.tuple #[.string ⟨#[60,60,47,65,32,55,62,62]⟩,.int .i64 0])/\Chg NoS w w' from by
  have h1:=show_any _ _ W (hL.chg h) hv (by simp [wkD13,sizL,sizT,nmT,int713]) (fun _=>by rw [form_wk13];decide)
  unfold showO at h1
  rw [check_wk13,if_pos rfl,form_wk13] at h1
  exact h1.mono fun e w' k=>⟨k.1,h.trans k.2 (fun _ _ e=>e)⟩))
 have HT:=kf (fun(W:World) (h:Chg NoS w W)=>(show Calls Tryz.prog 14 #[.string ⟨#[97,40,98]⟩] W fun e w'=>e=.returned (.string ⟨#[40,97,92,40,98,41]⟩)/\Chg NoS w w' from by
  have h1:=stext_any ⟨#[97,40,98]⟩ W (by decide)
  have e1:txF (sl ⟨#[97,40,98]⟩)=[40,97,92,40,98,41]:=by
   have e2:sl ⟨#[97,40,98]⟩=[97,40,98]:=by simp [sl]
   rw [e2]
   decide
  rw [e1] at h1
  exact h1.mono fun e w' k=>⟨k.1,h.trans k.2 (fun _ _ e=>e)⟩))
 have HLN:=kf (fun(W:World) (h:Chg NoS w W)=>(show Calls Tryz.prog 11 #[.agg #[.int .i64 8,.int .i64 3,.string ⟨#[]⟩,.slice none 0 0]] W fun e w'=>e=.returned (.int .i64 5)/\Chg NoS w w' from by
  have h1:=slen_any _ _ W (hL.chg h) (leaf_is 8 3 (by decide) (by decide) W) (by simp [sizT,sizL]) (fun _=>by rw [form_ref13];decide)
  unfold showO at h1
  rw [check_ref13,if_pos rfl,form_ref13] at h1
  exact h1.mono fun e w' k=>⟨k.1,h.trans k.2 (fun _ _ e=>e)⟩))
 have hw:=Chg.refl NoS w
 go_enter Tryz.func8,Tryz.ntmps8
 go_wp2_with first
  |(go_at_call 22;with_reducible refine(HN.out _ (by assumption)).mono ?_;rintro e w2 ⟨rfl,hc2⟩)
  |(go_at_call 23;with_reducible refine(HI.out _ (by assumption)).mono ?_;rintro e w3 ⟨rfl,hc3⟩)
  |(go_at_call 21;refine(HD.out _ (by assumption)).mono ?_;rintro e w4 ⟨cA,ccap,rfl,hv4,hc4⟩)
  |(go_at_call 9;refine(HS.out _ _ _ (by assumption) (by assumption)).mono ?_;rintro e w5 ⟨rfl,hc5⟩)
  |(go_at_call 14;refine(HT.out _ (by assumption)).mono ?_;rintro e w6 ⟨rfl,hc6⟩)
  |(go_at_call 24;with_reducible refine(HR.out _ (by assumption)).mono ?_;rintro e w7 ⟨rfl,hc7⟩)
  |(go_at_call 11;refine(HLN.out _ (by assumption)).mono ?_;rintro e w8 ⟨rfl,hc8⟩)
 go_ret
 exact⟨rfl,by assumption⟩
end Go.Proofs.YtcehpobjnbgpdaaGreatDoor
