/- Merged by program. -/
import Derived.Test.YthejpkflcgjdoaaGreatDoorE37
set_option linter.unusedVariables false
set_option linter.unusedSimpArgs false
namespace Go.Proofs.YthejpkflcgjdoaaGreatDoor
open Go.RowKit
def wxB:List Nat:=[120,114,101,102,10,51,32,49,10,48,48,48,48,48,48,48,48,49,55,32,48,48,48,48,48,32,110,32,10,116,114,97,105,108,101,114,60,60,62,62,32]
def wxG:XGr:=⟨3,[⟨17,0,true⟩]⟩
set_option maxRecDepth 100000 in
theorem wx_wrd:wrdS wxB false sXref (0,0)=(4,0):=by rfl
set_option maxRecDepth 100000 in
theorem wx_tok1:tokX wxB false (4,0)=(⟨1,5,6,2,3,[],[]⟩,(6,0)):=by rfl
set_option maxRecDepth 100000 in
theorem wx_two:twoX wxB false 0 ⟨1,5,6,2,3,[],[]⟩ (6,0)=(1,(8,0)):=by rfl
set_option maxRecDepth 100000 in
theorem wx_line:lineX ((wxB.drop 9).take 19)=⟨17,0,true⟩/\lineE ((wxB.drop 9).take 19)=0:=⟨by rfl,by rfl⟩
theorem wx_ents:entsX wxB false 1 (8,0) []=([⟨17,0,true⟩],(28,0)):=by
 rw [entsX,if_neg (by simp)]
 have h1:(8:Int).toNat+spcX wxB (8:Int).toNat=9:=by rfl
 simp only [h1]
 have h2:entX wxB false 9=(⟨17,0,true⟩,(28,0)):=by
  unfold entX
  rw [if_neg (by decide),wx_line.1,wx_line.2]
  rfl
 rw [h2]
 rfl
set_option maxRecDepth 100000 in
theorem wx_tok2:tokX wxB false (28,0)=(⟨6,29,36,0,0,[],[116,114,97,105,108,101,114]⟩,(36,0)):=by rfl
theorem wx_grp:grpX wxB false 66 (4,0) []=([wxG],(36,0)):=by
 rw [grpX_go (by rw [wx_tok1];exact fun h=>absurd h.1 (by decide)),wx_tok1]
 simp only [List.length_nil]
 rw [wx_two]
 simp only []
 rw [show(1:Int).toNat=1 from rfl,wx_ents]
 simp only []
 rw [grpX_tr (by rw [wx_tok2];exact⟨rfl,rfl⟩),wx_tok2]
 rfl
set_option maxRecDepth 100000 in
theorem wx_run:runI wxB false (36:Int) []=(0,.mk 7 0 ⟨#[]⟩ [],40):=by
 have s1:actO wxB false (nextA wxB 36 false) []=.next 38 [(7,[])]:=by rfl
 have n2:nextA wxB ((38:Nat):Int) false=(0,⟨5,38,40,0,0,[],[]⟩):=by rfl
 have s2:actO wxB false (nextA wxB ((38:Nat):Int) false) [(7,[])]=.done 0 (.mk 7 0 ⟨#[]⟩ []) 40:=by
  rw [n2]
  have hp:popO [((7:Int),[])] 7=(0,.mk 7 0 ⟨#[]⟩ []):=by
   unfold popO
   simp only [ne_eq,not_true_eq_false,if_false,if_true]
   unfold dicO
   rw [if_neg (by decide)]
   first|rfl|(rw [if_neg (by omega)];rfl)
  unfold actO
  simp only [hp]
  rfl
 rw [(runI_next s1).1,runI_done s2]
theorem wx_dic:dicX wxB false (36,0)=(.mk 7 0 ⟨#[]⟩ [],(40,0)):=by
 unfold dicX
 rw [if_neg (by simp),wx_run]
 rfl
theorem wx_xrf:xrfO wxB 0 false=⟨[wxG],.mk 7 0 ⟨#[]⟩ [],40,0⟩:=by
 unfold xrfO
 rw [wx_wrd,wx_grp]
 simp only []
 rw [wx_dic]
 rfl
theorem wx_may:mayX ⟨17,0,true⟩=true:=by rfl
theorem wx_txt:lineT ⟨17,0,true⟩=[48,48,48,48,48,48,48,48,49,55,32,48,48,48,48,48,32,110,32,10]:=by
 unfold lineT
 have h1:dn 17=[49,55]:=by rw [dn_s (by decide),show 17 / 10=1 from rfl,dn_s (by decide),show 1 / 10=0 from rfl,dn_0];rfl
 have h2:txt 17 10=[48,48,48,48,48,48,48,48,49,55]:=by unfold txt;rw [h1];rfl
 have h3:txt 0 5=[48,48,48,48,48]:=by unfold txt;rw [dn_0];rfl
 show txt 17 10++[32]++txt 0 5++[32]++[kindX true]++[32,10]=_
 rw [h2,h3]
 rfl
theorem src_mark12 {w:World} (cs:Array Value) (t:TypeId) (fr:Nat × Nat) {n m size:Nat} (h:n=w.heap.size) (hs:cs.size=m*size):Src (w.alloc (.cells cs t fr)) size (some ⟨n,0,none⟩) m m cs.toList:=by
 subst h
 refine⟨by simpa using hs,fun h=>(by cases h),fun ad hA j u hu=>?_⟩
 cases hA
 have hb:=heap_alloc_new w (.cells cs t fr)
 have hc:=cell_of_row (w.alloc (.cells cs t fr)) w.heap.size j cs t fr hb
 rw [<- Array.getElem?_toList,hu] at hc
 by_cases hj:j=0
 ·subst hj;simpa [Addr.add] using hc
 ·simpa [Addr.add,hj] using hc
theorem wx_parse (w:World):Calls Tryz.prog 18 #[.slice (some ⟨w.heap.size,0,none⟩) 41 41,.int .i64 0,.bool false] (w.alloc (.cells #[.int .u8 120,.int .u8 114,.int .u8 101,.int .u8 102,.int .u8 10,.int .u8 51,.int .u8 32,.int .u8 49,.int .u8 10,.int .u8 48,.int .u8 48,.int .u8 48,.int .u8 48,.int .u8 48,.int .u8 48,.int .u8 48,.int .u8 48,.int .u8 49,.int .u8 55,.int .u8 32,.int .u8 48,.int .u8 48,.int .u8 48,.int .u8 48,.int .u8 48,.int .u8 32,.int .u8 110,.int .u8 32,.int .u8 10,.int .u8 116,.int .u8 114,.int .u8 97,.int .u8 105,.int .u8 108,.int .u8 101,.int .u8 114,.int .u8 60,.int .u8 60,.int .u8 62,.int .u8 62,.int .u8 32] 5 (41,42))) (XPTo (w.alloc (.cells #[.int .u8 120,.int .u8 114,.int .u8 101,.int .u8 102,.int .u8 10,.int .u8 51,.int .u8 32,.int .u8 49,.int .u8 10,.int .u8 48,.int .u8 48,.int .u8 48,.int .u8 48,.int .u8 48,.int .u8 48,.int .u8 48,.int .u8 48,.int .u8 49,.int .u8 55,.int .u8 32,.int .u8 48,.int .u8 48,.int .u8 48,.int .u8 48,.int .u8 48,.int .u8 32,.int .u8 110,.int .u8 32,.int .u8 10,.int .u8 116,.int .u8 114,.int .u8 97,.int .u8 105,.int .u8 108,.int .u8 101,.int .u8 114,.int .u8 60,.int .u8 60,.int .u8 62,.int .u8 62,.int .u8 32] 5 (41,42))) ⟨[wxG],.mk 7 0 ⟨#[]⟩ [],40,0⟩):=by
 have h:=xparse_any wxB (some ⟨w.heap.size,0,none⟩) 41 0 false _ ⟨src_mark12 #[.int .u8 120,.int .u8 114,.int .u8 101,.int .u8 102,.int .u8 10,.int .u8 51,.int .u8 32,.int .u8 49,.int .u8 10,.int .u8 48,.int .u8 48,.int .u8 48,.int .u8 48,.int .u8 48,.int .u8 48,.int .u8 48,.int .u8 48,.int .u8 49,.int .u8 55,.int .u8 32,.int .u8 48,.int .u8 48,.int .u8 48,.int .u8 48,.int .u8 48,.int .u8 32,.int .u8 110,.int .u8 32,.int .u8 10,.int .u8 116,.int .u8 114,.int .u8 97,.int .u8 105,.int .u8 108,.int .u8 101,.int .u8 114,.int .u8 60,.int .u8 60,.int .u8 62,.int .u8 62,.int .u8 32] 5 (41,42) rfl rfl,by decide,by decide,by decide⟩
 rw [wx_xrf] at h
 exact h
theorem wx_find:fndX 3 [wxG]=some ⟨17,0,true⟩:=by rfl
set_option maxHeartbeats 16000000 in
set_option maxRecDepth 100000 in
theorem works_any15 (w:World) (hL:LibOk w):Calls Tryz.prog 8 #[] w fun e w'=>e=.returned (.bool true)/\Chg NoS w w':=by
 have HPA:=kf (fun W=>wx_parse W)
 have hcv:∀ W:World,(convert 32 32 (.slice (some ⟨W.heap.size,0,none⟩) 41 41)).run Tryz.prog (W.alloc (.cells #[.int .u8 120,.int .u8 114,.int .u8 101,.int .u8 102,.int .u8 10,.int .u8 51,.int .u8 32,.int .u8 49,.int .u8 10,.int .u8 48,.int .u8 48,.int .u8 48,.int .u8 48,.int .u8 48,.int .u8 48,.int .u8 48,.int .u8 48,.int .u8 49,.int .u8 55,.int .u8 32,.int .u8 48,.int .u8 48,.int .u8 48,.int .u8 48,.int .u8 48,.int .u8 32,.int .u8 110,.int .u8 32,.int .u8 10,.int .u8 116,.int .u8 114,.int .u8 97,.int .u8 105,.int .u8 108,.int .u8 101,.int .u8 114,.int .u8 60,.int .u8 60,.int .u8 62,.int .u8 62,.int .u8 32] 5))=.ok (.slice (some ⟨W.heap.size,0,none⟩) 41 41) (W.alloc (.cells #[.int .u8 120,.int .u8 114,.int .u8 101,.int .u8 102,.int .u8 10,.int .u8 51,.int .u8 32,.int .u8 49,.int .u8 10,.int .u8 48,.int .u8 48,.int .u8 48,.int .u8 48,.int .u8 48,.int .u8 48,.int .u8 48,.int .u8 48,.int .u8 49,.int .u8 55,.int .u8 32,.int .u8 48,.int .u8 48,.int .u8 48,.int .u8 48,.int .u8 48,.int .u8 32,.int .u8 110,.int .u8 32,.int .u8 10,.int .u8 116,.int .u8 114,.int .u8 97,.int .u8 105,.int .u8 108,.int .u8 101,.int .u8 114,.int .u8 60,.int .u8 60,.int .u8 62,.int .u8 62,.int .u8 32] 5 (41,42))):=fun W=>Lib.run_convert_bytes_const W 32 5 _ 41 41 Tryz.underlying32 Tryz.underlying5
 have HEN:=kf (fun W (h:Chg NoS w W)=>(show Calls Tryz.prog 12 #[.agg #[.int .i64 17,.int .i64 0,.bool true]] W fun r w'=>r=.returned (.tuple #[.string (sb [48,48,48,48,48,48,48,48,49,55,32,48,48,48,48,48,32,110,32,10]),.int .i64 0])/\Chg NoS W w' from by
  have h1:=xentry_any ⟨17,0,true⟩ W (hL.chg h) (by decide) (by decide)
  rw [wx_may,wx_txt] at h1
  exact h1))
 clear hL
 go_enter Tryz.func8,Tryz.ntmps8
 go_upto_region 2 with(go_at_call 18;refine(HPA.out _).mono ?_;rintro e w5 ⟨xs,B,d,⟨vk,vn,vs,vA,vl,vc⟩,rfl,hxs,hev,hin,hc5⟩;have HXS:Hid (xs.map GC.g=[wxG]):=hxs;have HEV:=kf (ev_nos hev);have HIN:=kf hin.now;have HC5:=kf (((Chg.refl NoS w).alloc (.cells #[.int .u8 120,.int .u8 114,.int .u8 101,.int .u8 102,.int .u8 10,.int .u8 51,.int .u8 32,.int .u8 49,.int .u8 10,.int .u8 48,.int .u8 48,.int .u8 48,.int .u8 48,.int .u8 48,.int .u8 48,.int .u8 48,.int .u8 48,.int .u8 49,.int .u8 55,.int .u8 32,.int .u8 48,.int .u8 48,.int .u8 48,.int .u8 48,.int .u8 48,.int .u8 32,.int .u8 110,.int .u8 32,.int .u8 10,.int .u8 116,.int .u8 114,.int .u8 97,.int .u8 105,.int .u8 108,.int .u8 101,.int .u8 114,.int .u8 60,.int .u8 60,.int .u8 62,.int .u8 62,.int .u8 32] 5 (41,42))).trans hc5 (fun _ _ e=>e));clear hxs hev hin hc5;unfold secA;simp only [])
 have hxl:xs.length=1:=by have:=congrArg List.length HXS.out;rw [List.length_map] at this;exact this
 rw [hxl]
 have HFI:=kf (fun W (hW:Chg NoS w5 W)=>(show Calls Tryz.prog 21 #[.agg #[.slice B 1 d,.int .i64 vk,.int .i64 vn,.string vs,.slice vA vl vc],.int .i64 3] W fun r w'=>r=.returned (.tuple #[.agg #[.int .i64 17,.int .i64 0,.bool true],.bool true])/\Chg NoS W w' from by
  have h1:=xfind_any xs B d vk vn vs vA vl vc 3 W (HEV.out.chg hW) (by omega) (fun x hx=>by
   have h2:x.g∈[wxG]:=by rw [<- HXS.out];exact List.mem_map_of_mem hx
   rw [List.mem_singleton] at h2
   rw [h2]
   decide) (by decide)
  rw [HXS.out,wx_find,hxl] at h1
  exact h1))
 have HA6:=kf ((Chg.refl NoS w5).alloc (.cells #[.slice B 1 d,.int .i64 vk,.int .i64 vn,.string vs,.slice vA vl vc] 36))
 have HB1:=kf (Blk.new w5 36 #[.slice B 1 d,.int .i64 vk,.int .i64 vn,.string vs,.slice vA vl vc])
 obtain⟨W1,hW1⟩:∃ W1,W1=w5.alloc (.cells #[.slice B 1 d,.int .i64 vk,.int .i64 vn,.string vs,.slice vA vl vc] 36):=⟨_,rfl⟩
 obtain⟨g1,hg1⟩:∃ g,g=w5.heap.size:=⟨_,rfl⟩
 rw [<- hW1] at HA6 HB1 ⊢
 rw [<- hg1] at HB1 ⊢
 clear hW1 hg1 hcv hxl
 obtain⟨q0,q1,q2,q3,q4,-⟩:=HB1.out.cl5
 go_upto_region 3 with(go_at_call 21;refine(HFI.out _ HA6.out).mono ?_;rintro e w6 ⟨rfl,hc6⟩;have HC66:=kf (HA6.out.trans hc6 (fun _ _ e=>e));have HB2:=kf (HB1.out.chg hc6 (fun e=>e));clear hc6)
 have HA7:=kf (HC66.out.alloc (.cells #[.int .i64 17,.int .i64 0,.bool true] 29))
 have HB3:=kf (HB2.out.alloc (.cells #[.int .i64 17,.int .i64 0,.bool true] 29))
 have HB4:=kf (Blk.new w6 29 #[.int .i64 17,.int .i64 0,.bool true])
 obtain⟨W2,hW2⟩:∃ W2,W2=w6.alloc (.cells #[.int .i64 17,.int .i64 0,.bool true] 29):=⟨_,rfl⟩
 obtain⟨g4,hg4⟩:∃ g,g=w6.heap.size:=⟨_,rfl⟩
 rw [<- hW2] at HA7 HB3 HB4 ⊢
 rw [<- hg4] at HB4 ⊢
 clear hW2 hg4 q0 q1 q2 q3 q4
 obtain⟨S1,hS1⟩:∃ S,S=sb [48,48,48,48,48,48,48,48,49,55,32,48,48,48,48,48,32,110,32,10]:=⟨_,rfl⟩
 rw [<- hS1] at HEN
 have hS3:S1.toList=[48,48,48,48,48,48,48,48,49,55,32,48,48,48,48,48,32,110,32,10]:=by rw [hS1];kernel_rfl
 have hS4:(S1.toList==[48,48,48,48,48,48,48,48,49,55,32,48,48,48,48,48,32,110,32,10])=true:=by rw [hS3];rfl
 clear hS1
 go_upto_region 4 with(go_at_call 12;refine(HEN.out _ (HC5.out.trans HA7.out (fun _ _ e=>e))).mono ?_;rintro e W6 ⟨rfl,hc7⟩;have HC7:=kf (HA7.out.trans hc7 (fun _ _ e=>e));have HB5:=kf (HB3.out.chg hc7 (fun e=>e));have HB6:=kf (HB4.out.chg hc7 (fun e=>e));clear hc7)
 have HC6:=kf (HC5.out.trans HC7.out (fun _ _ e=>e))
 have HV6:=kf (HIN.out.chg HC7.out)
 have HHE:=kf (fun W (hW:Chg NoS W6 W)=>(show W.cell? ⟨g1,1,none⟩=some (.int .i64 vk)/\W.cell? ⟨g1,2,none⟩=some (.int .i64 vn)/\W.cell? ⟨g1,3,none⟩=some (.string vs)/\W.cell? ⟨g1,4,none⟩=some (.slice vA vl vc)/\W.cell? ⟨g4,0,none⟩=some (.int .i64 17)/\W.cell? ⟨g4,2,none⟩=some (.bool true) from
  ⟨(HB5.out.chg hW (fun e=>e)).cell 1,(HB5.out.chg hW (fun e=>e)).cell 2,(HB5.out.chg hW (fun e=>e)).cell 3,(HB5.out.chg hW (fun e=>e)).cell 4,(HB6.out.chg hW (fun e=>e)).cell 0,(HB6.out.chg hW (fun e=>e)).cell 2⟩))
 have HDO:=kf (fun W=>dictOf_none none 0 0 W (fun _=>⟨rfl,rfl⟩) (by decide))
 have HSA:=kf (fun W (k' n':Int) (S':ByteArray) (A':Option Addr) (l' c':Nat) (h:Chg NoS W6 W) (h2:ValIs W (.mk 7 0 ⟨#[]⟩ []) ⟨k',n',S',A',l',c'⟩)=>(show Calls Tryz.prog 25 #[.agg #[.int .i64 vk,.int .i64 vn,.string vs,.slice vA vl vc],.agg #[.int .i64 k',.int .i64 n',.string S',.slice A' l' c']] W fun r w'=>r=.returned (.bool true)/\Chg NoS W w' from by
  have h1:=same_any (.mk 7 0 ⟨#[]⟩ []) (.mk 7 0 ⟨#[]⟩ []) ⟨vk,vn,vs,vA,vl,vc⟩ ⟨k',n',S',A',l',c'⟩ W (HV6.out.chg h) h2
  rw [decide_eq_true (cmpT_self _)] at h1
  exact h1))
 refine startZ (fun W=>W.cell? ⟨g1,1,none⟩=some (.int .i64 vk)/\W.cell? ⟨g1,2,none⟩=some (.int .i64 vn)/\W.cell? ⟨g1,3,none⟩=some (.string vs)/\W.cell? ⟨g1,4,none⟩=some (.slice vA vl vc)/\W.cell? ⟨g4,0,none⟩=some (.int .i64 17)/\W.cell? ⟨g4,2,none⟩=some (.bool true)) 32 (by kernel_rfl) (HHE.out _ ((Chg.refl NoS W6).drew)) (fun hHeld=>?_)
 refine takeZ (i:=0) (oi:={ dst:=some 25,op:=Go.Op.move (Go.Operand.tmp 3),type:=33,pos:=_,after:=_,guard:=none }) (v:=?_) rfl (by kernel_rfl) (by kernel_rfl) (by kernel_rfl) (by kernel_rfl) (fun _ _ _ h=>h) (Or.inl ⟨by rfl,?_⟩) (by assumption) ?_
 rotate_left
 ·intro w hSw;(try dsimp only at hSw);(try obtain⟨s0,s1,s2,s3,s4,s5⟩:=hSw);(first|(go_simp;done)|(go_simp;with_reducible rfl))
 try simp only [Act.put,List.setIfInBounds_toArray,List.set_cons_zero,List.set_cons_succ]
 refine takeZ (i:=1) (oi:={ dst:=some 26,op:=Go.Op.binOp Go.BinOp.eql 33 (Go.Operand.tmp 25) (Go.Operand.const (Go.Value.int Go.IntKind.i64 0)) 33,type:=4,pos:=_,after:=_,guard:=none }) (v:=?_) rfl (by kernel_rfl) (by kernel_rfl) (by kernel_rfl) (by kernel_rfl) (fun _ _ _ h=>h) (Or.inl ⟨by rfl,?_⟩) (by assumption) ?_
 rotate_left
 ·intro w hSw;(try dsimp only at hSw);(try obtain⟨s0,s1,s2,s3,s4,s5⟩:=hSw);(first|(go_simp;done)|(go_simp;with_reducible rfl))
 try simp only [Act.put,List.setIfInBounds_toArray,List.set_cons_zero,List.set_cons_succ]
 refine takeZ (i:=2) (oi:={ dst:=some 27,op:=Go.Op.move (Go.Operand.tmp 26),type:=4,pos:=_,after:=_,guard:=none }) (v:=?_) rfl (by kernel_rfl) (by kernel_rfl) (by kernel_rfl) (by kernel_rfl) (fun _ _ _ h=>h) (Or.inl ⟨by rfl,?_⟩) (by assumption) ?_
 rotate_left
 ·intro w hSw;(try dsimp only at hSw);(try obtain⟨s0,s1,s2,s3,s4,s5⟩:=hSw);(first|(go_simp;done)|(go_simp;with_reducible rfl))
 try simp only [Act.put,List.setIfInBounds_toArray,List.set_cons_zero,List.set_cons_succ]
 refine takeZ (i:=3) (oi:={ dst:=some 28,op:=Go.Op.move (Go.Operand.tmp 2),type:=3,pos:=_,after:=_,guard:=some (2,true) }) (v:=?_) rfl (by kernel_rfl) (by kernel_rfl) (by kernel_rfl) (by kernel_rfl) (fun _ _ _ h=>h) (Or.inl ⟨by rfl,?_⟩) (by assumption) ?_
 rotate_left
 ·intro w hSw;(try dsimp only at hSw);(try obtain⟨s0,s1,s2,s3,s4,s5⟩:=hSw);(first|(go_simp;done)|(go_simp;with_reducible rfl))
 try simp only [Act.put,List.setIfInBounds_toArray,List.set_cons_zero,List.set_cons_succ]
 refine takeZ (i:=4) (oi:={ dst:=some 29,op:=Go.Op.binOp Go.BinOp.eql 3 (Go.Operand.tmp 28) (Go.Operand.const (Go.Value.int Go.IntKind.i64 40)) 3,type:=4,pos:=_,after:=_,guard:=some (2,true) }) (v:=?_) rfl (by kernel_rfl) (by kernel_rfl) (by kernel_rfl) (by kernel_rfl) (fun _ _ _ h=>h) (Or.inl ⟨by rfl,?_⟩) (by assumption) ?_
 rotate_left
 ·intro w hSw;(try dsimp only at hSw);(try obtain⟨s0,s1,s2,s3,s4,s5⟩:=hSw);(first|(go_simp;done)|(go_simp;with_reducible rfl))
 try simp only [Act.put,List.setIfInBounds_toArray,List.set_cons_zero,List.set_cons_succ]
 refine takeZ (i:=5) (oi:={ dst:=some 30,op:=Go.Op.pick (Go.Operand.tmp 27) (Go.Operand.tmp 29) (Go.Operand.const (Go.Value.bool false)),type:=4,pos:=_,after:=_,guard:=none }) (v:=?_) rfl (by kernel_rfl) (by kernel_rfl) (by kernel_rfl) (by kernel_rfl) (fun _ _ _ h=>h) (Or.inl ⟨by rfl,?_⟩) (by assumption) ?_
 rotate_left
 ·intro w hSw;(try dsimp only at hSw);(try obtain⟨s0,s1,s2,s3,s4,s5⟩:=hSw);(first|(go_simp;done)|(go_simp;with_reducible rfl))
 try simp only [Act.put,List.setIfInBounds_toArray,List.set_cons_zero,List.set_cons_succ]
 refine takeZ (i:=6) (oi:={ dst:=some 31,op:=Go.Op.move (Go.Operand.tmp 30),type:=4,pos:=_,after:=_,guard:=none }) (v:=?_) rfl (by kernel_rfl) (by kernel_rfl) (by kernel_rfl) (by kernel_rfl) (fun _ _ _ h=>h) (Or.inl ⟨by rfl,?_⟩) (by assumption) ?_
 rotate_left
 ·intro w hSw;(try dsimp only at hSw);(try obtain⟨s0,s1,s2,s3,s4,s5⟩:=hSw);(first|(go_simp;done)|(go_simp;with_reducible rfl))
 try simp only [Act.put,List.setIfInBounds_toArray,List.set_cons_zero,List.set_cons_succ]
 refine takeZ (i:=7) (oi:={ dst:=some 32,op:=Go.Op.move (Go.Operand.tmp 5),type:=4,pos:=_,after:=_,guard:=some (6,true) }) (v:=?_) rfl (by kernel_rfl) (by kernel_rfl) (by kernel_rfl) (by kernel_rfl) (fun _ _ _ h=>h) (Or.inl ⟨by rfl,?_⟩) (by assumption) ?_
 rotate_left
 ·intro w hSw;(try dsimp only at hSw);(try obtain⟨s0,s1,s2,s3,s4,s5⟩:=hSw);(first|(go_simp;done)|(go_simp;with_reducible rfl))
 try simp only [Act.put,List.setIfInBounds_toArray,List.set_cons_zero,List.set_cons_succ]
 refine takeZ (i:=8) (oi:={ dst:=some 33,op:=Go.Op.pick (Go.Operand.tmp 31) (Go.Operand.tmp 32) (Go.Operand.const (Go.Value.bool false)),type:=4,pos:=_,after:=_,guard:=none }) (v:=?_) rfl (by kernel_rfl) (by kernel_rfl) (by kernel_rfl) (by kernel_rfl) (fun _ _ _ h=>h) (Or.inl ⟨by rfl,?_⟩) (by assumption) ?_
 rotate_left
 ·intro w hSw;(try dsimp only at hSw);(try obtain⟨s0,s1,s2,s3,s4,s5⟩:=hSw);(first|(go_simp;done)|(go_simp;with_reducible rfl))
 try simp only [Act.put,List.setIfInBounds_toArray,List.set_cons_zero,List.set_cons_succ]
 refine takeZ (i:=9) (oi:={ dst:=some 34,op:=Go.Op.move (Go.Operand.tmp 33),type:=4,pos:=_,after:=_,guard:=none }) (v:=?_) rfl (by kernel_rfl) (by kernel_rfl) (by kernel_rfl) (by kernel_rfl) (fun _ _ _ h=>h) (Or.inl ⟨by rfl,?_⟩) (by assumption) ?_
 rotate_left
 ·intro w hSw;(try dsimp only at hSw);(try obtain⟨s0,s1,s2,s3,s4,s5⟩:=hSw);(first|(go_simp;done)|(go_simp;with_reducible rfl))
 try simp only [Act.put,List.setIfInBounds_toArray,List.set_cons_zero,List.set_cons_succ]
 refine takeZ (i:=10) (oi:={ dst:=some 35,op:=Go.Op.fieldAddr 29 (Go.Operand.tmp 4) 0,type:=0,pos:=_,after:=_,guard:=some (9,true) }) (v:=?_) rfl (by kernel_rfl) (by kernel_rfl) (by kernel_rfl) (by kernel_rfl) (fun _ _ _ h=>h) (Or.inl ⟨by rfl,?_⟩) (by assumption) ?_
 rotate_left
 ·intro w hSw;(try dsimp only at hSw);(try obtain⟨s0,s1,s2,s3,s4,s5⟩:=hSw);(first|(go_simp;done)|(go_simp;with_reducible rfl))
 try simp only [Act.put,List.setIfInBounds_toArray,List.set_cons_zero,List.set_cons_succ]
 refine takeZ (i:=11) (oi:={ dst:=some 36,op:=Go.Op.load 3 (Go.Operand.tmp 35),type:=3,pos:=_,after:=_,guard:=some (9,true) }) (v:=?_) rfl (by kernel_rfl) (by kernel_rfl) (by kernel_rfl) (by kernel_rfl) (fun _ _ _ h=>h) (Or.inl ⟨by rfl,?_⟩) (by assumption) ?_
 rotate_left
 ·intro w hSw;(try dsimp only at hSw);(try obtain⟨s0,s1,s2,s3,s4,s5⟩:=hSw);(first|(go_simp;done)|(go_simp;with_reducible rfl))
 try simp only [Act.put,List.setIfInBounds_toArray,List.set_cons_zero,List.set_cons_succ]
 refine takeZ (i:=12) (oi:={ dst:=some 37,op:=Go.Op.binOp Go.BinOp.eql 3 (Go.Operand.tmp 36) (Go.Operand.const (Go.Value.int Go.IntKind.i64 17)) 3,type:=4,pos:=_,after:=_,guard:=some (9,true) }) (v:=?_) rfl (by kernel_rfl) (by kernel_rfl) (by kernel_rfl) (by kernel_rfl) (fun _ _ _ h=>h) (Or.inl ⟨by rfl,?_⟩) (by assumption) ?_
 rotate_left
 ·intro w hSw;(try dsimp only at hSw);(try obtain⟨s0,s1,s2,s3,s4,s5⟩:=hSw);(first|(go_simp;done)|(go_simp;with_reducible rfl))
 try simp only [Act.put,List.setIfInBounds_toArray,List.set_cons_zero,List.set_cons_succ]
 refine takeZ (i:=13) (oi:={ dst:=some 38,op:=Go.Op.pick (Go.Operand.tmp 34) (Go.Operand.tmp 37) (Go.Operand.const (Go.Value.bool false)),type:=4,pos:=_,after:=_,guard:=none }) (v:=?_) rfl (by kernel_rfl) (by kernel_rfl) (by kernel_rfl) (by kernel_rfl) (fun _ _ _ h=>h) (Or.inl ⟨by rfl,?_⟩) (by assumption) ?_
 rotate_left
 ·intro w hSw;(try dsimp only at hSw);(try obtain⟨s0,s1,s2,s3,s4,s5⟩:=hSw);(first|(go_simp;done)|(go_simp;with_reducible rfl))
 try simp only [Act.put,List.setIfInBounds_toArray,List.set_cons_zero,List.set_cons_succ]
 refine takeZ (i:=14) (oi:={ dst:=some 39,op:=Go.Op.move (Go.Operand.tmp 38),type:=4,pos:=_,after:=_,guard:=none }) (v:=?_) rfl (by kernel_rfl) (by kernel_rfl) (by kernel_rfl) (by kernel_rfl) (fun _ _ _ h=>h) (Or.inl ⟨by rfl,?_⟩) (by assumption) ?_
 rotate_left
 ·intro w hSw;(try dsimp only at hSw);(try obtain⟨s0,s1,s2,s3,s4,s5⟩:=hSw);(first|(go_simp;done)|(go_simp;with_reducible rfl))
 try simp only [Act.put,List.setIfInBounds_toArray,List.set_cons_zero,List.set_cons_succ]
 refine takeZ (i:=15) (oi:={ dst:=some 40,op:=Go.Op.fieldAddr 29 (Go.Operand.tmp 4) 2,type:=0,pos:=_,after:=_,guard:=some (14,true) }) (v:=?_) rfl (by kernel_rfl) (by kernel_rfl) (by kernel_rfl) (by kernel_rfl) (fun _ _ _ h=>h) (Or.inl ⟨by rfl,?_⟩) (by assumption) ?_
 rotate_left
 ·intro w hSw;(try dsimp only at hSw);(try obtain⟨s0,s1,s2,s3,s4,s5⟩:=hSw);(first|(go_simp;done)|(go_simp;with_reducible rfl))
 try simp only [Act.put,List.setIfInBounds_toArray,List.set_cons_zero,List.set_cons_succ]
 refine takeZ (i:=16) (oi:={ dst:=some 41,op:=Go.Op.load 4 (Go.Operand.tmp 40),type:=4,pos:=_,after:=_,guard:=some (14,true) }) (v:=?_) rfl (by kernel_rfl) (by kernel_rfl) (by kernel_rfl) (by kernel_rfl) (fun _ _ _ h=>h) (Or.inl ⟨by rfl,?_⟩) (by assumption) ?_
 rotate_left
 ·intro w hSw;(try dsimp only at hSw);(try obtain⟨s0,s1,s2,s3,s4,s5⟩:=hSw);(first|(go_simp;done)|(go_simp;with_reducible rfl))
 try simp only [Act.put,List.setIfInBounds_toArray,List.set_cons_zero,List.set_cons_succ]
 refine takeZ (i:=17) (oi:={ dst:=some 42,op:=Go.Op.pick (Go.Operand.tmp 39) (Go.Operand.tmp 41) (Go.Operand.const (Go.Value.bool false)),type:=4,pos:=_,after:=_,guard:=none }) (v:=?_) rfl (by kernel_rfl) (by kernel_rfl) (by kernel_rfl) (by kernel_rfl) (fun _ _ _ h=>h) (Or.inl ⟨by rfl,?_⟩) (by assumption) ?_
 rotate_left
 ·intro w hSw;(try dsimp only at hSw);(try obtain⟨s0,s1,s2,s3,s4,s5⟩:=hSw);(first|(go_simp;done)|(go_simp;with_reducible rfl))
 try simp only [Act.put,List.setIfInBounds_toArray,List.set_cons_zero,List.set_cons_succ]
 refine takeZ (i:=18) (oi:={ dst:=some 43,op:=Go.Op.move (Go.Operand.tmp 42),type:=4,pos:=_,after:=_,guard:=none }) (v:=?_) rfl (by kernel_rfl) (by kernel_rfl) (by kernel_rfl) (by kernel_rfl) (fun _ _ _ h=>h) (Or.inl ⟨by rfl,?_⟩) (by assumption) ?_
 rotate_left
 ·intro w hSw;(try dsimp only at hSw);(try obtain⟨s0,s1,s2,s3,s4,s5⟩:=hSw);(first|(go_simp;done)|(go_simp;with_reducible rfl))
 try simp only [Act.put,List.setIfInBounds_toArray,List.set_cons_zero,List.set_cons_succ]
 refine takeZ (i:=19) (oi:={ dst:=some 44,op:=Go.Op.move (Go.Operand.tmp 6),type:=9,pos:=_,after:=_,guard:=some (18,true) }) (v:=?_) rfl (by kernel_rfl) (by kernel_rfl) (by kernel_rfl) (by kernel_rfl) (fun _ _ _ h=>h) (Or.inl ⟨by rfl,?_⟩) (by assumption) ?_
 rotate_left
 ·intro w hSw;(try dsimp only at hSw);(try obtain⟨s0,s1,s2,s3,s4,s5⟩:=hSw);(first|(go_simp;done)|(go_simp;with_reducible rfl))
 try simp only [Act.put,List.setIfInBounds_toArray,List.set_cons_zero,List.set_cons_succ]
 refine takeZ (i:=20) (oi:={ dst:=some 45,op:=Go.Op.binOp Go.BinOp.eql 9 (Go.Operand.tmp 44) (Go.Operand.const (Go.Value.string { data:=#[48,48,48,48,48,48,48,48,49,55,32,48,48,48,48,48,32,110,32,10] })) 9,type:=4,pos:=_,after:=_,guard:=some (18,true) }) (v:=?_) rfl (by kernel_rfl) (by kernel_rfl) (by kernel_rfl) (by kernel_rfl) (fun _ _ _ h=>h) (Or.inl ⟨by rfl,?_⟩) (by assumption) ?_
 rotate_left
 ·intro w hSw;(try dsimp only at hSw);(try obtain⟨s0,s1,s2,s3,s4,s5⟩:=hSw);(first|(go_simp;done)|(go_simp;with_reducible rfl))
 try simp only [Act.put,List.setIfInBounds_toArray,List.set_cons_zero,List.set_cons_succ]
 refine takeZ (i:=21) (oi:={ dst:=some 46,op:=Go.Op.pick (Go.Operand.tmp 43) (Go.Operand.tmp 45) (Go.Operand.const (Go.Value.bool false)),type:=4,pos:=_,after:=_,guard:=none }) (v:=?_) rfl (by kernel_rfl) (by kernel_rfl) (by kernel_rfl) (by kernel_rfl) (fun _ _ _ h=>h) (Or.inl ⟨by rfl,?_⟩) (by assumption) ?_
 rotate_left
 ·intro w hSw;(try dsimp only at hSw);(try obtain⟨s0,s1,s2,s3,s4,s5⟩:=hSw);(first|(go_simp;done)|(go_simp;with_reducible rfl))
 try simp only [Act.put,List.setIfInBounds_toArray,List.set_cons_zero,List.set_cons_succ]
 refine takeZ (i:=22) (oi:={ dst:=some 47,op:=Go.Op.move (Go.Operand.tmp 46),type:=4,pos:=_,after:=_,guard:=none }) (v:=?_) rfl (by kernel_rfl) (by kernel_rfl) (by kernel_rfl) (by kernel_rfl) (fun _ _ _ h=>h) (Or.inl ⟨by rfl,?_⟩) (by assumption) ?_
 rotate_left
 ·intro w hSw;(try dsimp only at hSw);(try obtain⟨s0,s1,s2,s3,s4,s5⟩:=hSw);(first|(go_simp;done)|(go_simp;with_reducible rfl))
 try simp only [Act.put,List.setIfInBounds_toArray,List.set_cons_zero,List.set_cons_succ]
 refine takeZ (i:=23) (oi:={ dst:=some 48,op:=Go.Op.move (Go.Operand.tmp 7),type:=33,pos:=_,after:=_,guard:=some (22,true) }) (v:=?_) rfl (by kernel_rfl) (by kernel_rfl) (by kernel_rfl) (by kernel_rfl) (fun _ _ _ h=>h) (Or.inl ⟨by rfl,?_⟩) (by assumption) ?_
 rotate_left
 ·intro w hSw;(try dsimp only at hSw);(try obtain⟨s0,s1,s2,s3,s4,s5⟩:=hSw);(first|(go_simp;done)|(go_simp;with_reducible rfl))
 try simp only [Act.put,List.setIfInBounds_toArray,List.set_cons_zero,List.set_cons_succ]
 refine takeZ (i:=24) (oi:={ dst:=some 49,op:=Go.Op.binOp Go.BinOp.eql 33 (Go.Operand.tmp 48) (Go.Operand.const (Go.Value.int Go.IntKind.i64 0)) 33,type:=4,pos:=_,after:=_,guard:=some (22,true) }) (v:=?_) rfl (by kernel_rfl) (by kernel_rfl) (by kernel_rfl) (by kernel_rfl) (fun _ _ _ h=>h) (Or.inl ⟨by rfl,?_⟩) (by assumption) ?_
 rotate_left
 ·intro w hSw;(try dsimp only at hSw);(try obtain⟨s0,s1,s2,s3,s4,s5⟩:=hSw);(first|(go_simp;done)|(go_simp;with_reducible rfl))
 try simp only [Act.put,List.setIfInBounds_toArray,List.set_cons_zero,List.set_cons_succ]
 refine takeZ (i:=25) (oi:={ dst:=some 50,op:=Go.Op.pick (Go.Operand.tmp 47) (Go.Operand.tmp 49) (Go.Operand.const (Go.Value.bool false)),type:=4,pos:=_,after:=_,guard:=none }) (v:=?_) rfl (by kernel_rfl) (by kernel_rfl) (by kernel_rfl) (by kernel_rfl) (fun _ _ _ h=>h) (Or.inl ⟨by rfl,?_⟩) (by assumption) ?_
 rotate_left
 ·intro w hSw;(try dsimp only at hSw);(try obtain⟨s0,s1,s2,s3,s4,s5⟩:=hSw);(first|(go_simp;done)|(go_simp;with_reducible rfl))
 try simp only [Act.put,List.setIfInBounds_toArray,List.set_cons_zero,List.set_cons_succ]
 refine takeZ (i:=26) (oi:={ dst:=some 51,op:=Go.Op.move (Go.Operand.tmp 50),type:=4,pos:=_,after:=_,guard:=none }) (v:=?_) rfl (by kernel_rfl) (by kernel_rfl) (by kernel_rfl) (by kernel_rfl) (fun _ _ _ h=>h) (Or.inl ⟨by rfl,?_⟩) (by assumption) ?_
 rotate_left
 ·intro w hSw;(try dsimp only at hSw);(try obtain⟨s0,s1,s2,s3,s4,s5⟩:=hSw);(first|(go_simp;done)|(go_simp;with_reducible rfl))
 try simp only [Act.put,List.setIfInBounds_toArray,List.set_cons_zero,List.set_cons_succ]
 refine takeZ (i:=27) (oi:={ dst:=some 52,op:=Go.Op.fieldAddr 36 (Go.Operand.tmp 1) 1,type:=0,pos:=_,after:=_,guard:=some (26,true) }) (v:=?_) rfl (by kernel_rfl) (by kernel_rfl) (by kernel_rfl) (by kernel_rfl) (fun _ _ _ h=>h) (Or.inl ⟨by rfl,?_⟩) (by assumption) ?_
 rotate_left
 ·intro w hSw;(try dsimp only at hSw);(try obtain⟨s0,s1,s2,s3,s4,s5⟩:=hSw);(first|(go_simp;done)|(go_simp;with_reducible rfl))
 try simp only [Act.put,List.setIfInBounds_toArray,List.set_cons_zero,List.set_cons_succ]
 refine takeZ (i:=28) (oi:={ dst:=some 53,op:=Go.Op.load 25 (Go.Operand.tmp 52),type:=25,pos:=_,after:=_,guard:=some (26,true) }) (v:=?_) rfl (by kernel_rfl) (by kernel_rfl) (by kernel_rfl) (by kernel_rfl) (fun _ _ _ h=>h) (Or.inl ⟨by rfl,?_⟩) (by assumption) ?_
 rotate_left
 ·intro w hSw;(try dsimp only at hSw);(try obtain⟨s0,s1,s2,s3,s4,s5⟩:=hSw);(first|(go_simp;done)|(go_simp;with_reducible rfl))
 try simp only [Act.put,List.setIfInBounds_toArray,List.set_cons_zero,List.set_cons_succ]
 refine oneZ (i:=29) (o:={ dst:=some 54,op:=Go.Op.call { callee:=Go.Callee.value (Go.Operand.func 26),args:=#[Go.Operand.const (Go.Value.slice none 0 0)],argTypes:=#[23] },type:=25,pos:=_,after:=_,guard:=some (26,true) }) (by kernel_rfl) rfl (by decide) (fun K hK=>?_)
 go_simp
 (go_at_call 26;refine(HDO.out _).mono ?_;rintro e w8 ⟨⟨k8,n8,s8,A8,l8,c8⟩,rfl,hv8,hc8⟩;have HV8:=kf hv8;have HC8:=kf ((Chg.refl NoS W6).drew.trans hc8 (fun _ _ e=>e));unfold VC.val;simp only [];clear hv8 hc8)
 refine hK.out _ _ (HHE.out _ HC8.out) (fun hHeld=>?_)
 clear hK K
 try simp only [Act.put,List.setIfInBounds_toArray,List.set_cons_zero,List.set_cons_succ]
 refine oneZ (i:=30) (o:={ dst:=some 55,op:=Go.Op.call { callee:=Go.Callee.value (Go.Operand.func 25),args:=#[Go.Operand.tmp 53,Go.Operand.tmp 54],argTypes:=#[25,25] },type:=4,pos:=_,after:=_,guard:=some (26,true) }) (by kernel_rfl) rfl (by decide) (fun K hK=>?_)
 go_simp
 (go_at_call 25;refine(HSA.out _ k8 n8 s8 A8 l8 c8 HC8.out HV8.out).mono ?_;rintro e w10 ⟨rfl,hc10⟩;have HCX:=kf (HC8.out.trans hc10 (fun _ _ e=>e));clear hc10)
 refine hK.out _ _ (HHE.out _ HCX.out) (fun hHeld=>?_)
 clear hK K
 try simp only [Act.put,List.setIfInBounds_toArray,List.set_cons_zero,List.set_cons_succ]
 refine takeZ (i:=31) (oi:={ dst:=some 56,op:=Go.Op.pick (Go.Operand.tmp 51) (Go.Operand.tmp 55) (Go.Operand.const (Go.Value.bool false)),type:=4,pos:=_,after:=_,guard:=none }) (v:=?_) rfl (by kernel_rfl) (by kernel_rfl) (by kernel_rfl) (by kernel_rfl) (fun _ _ _ h=>h) (Or.inl ⟨by rfl,?_⟩) (by assumption) ?_
 rotate_left
 ·intro w hSw;(try dsimp only at hSw);(try obtain⟨s0,s1,s2,s3,s4,s5⟩:=hSw);(first|(go_simp;done)|(go_simp;with_reducible rfl))
 try simp only [Act.put,List.setIfInBounds_toArray,List.set_cons_zero,List.set_cons_succ]
 refine lastZ (o:={ dst:=some 0,op:=Go.Op.assign (Go.Operand.tmp 56),type:=4,pos:=_,after:=_,guard:=none }) (by kernel_rfl) rfl (by kernel_rfl) (fun K hK=>?_)
 go_simp
 refine hK.out _ _ ?_
 clear hK K
 try simp only [Act.put,List.setIfInBounds_toArray,List.set_cons_zero,List.set_cons_succ]
 go_wp2_with fail
 go_ret
 exact⟨rfl,HC6.out.trans HCX.out (fun _ _ e=>e)⟩
set_option maxHeartbeats 2000000 in
theorem xto_any (B:Option Addr) (n d:Nat) (k m:Int) (s:ByteArray) (A:Option Addr) (l c:Nat) (w:World):Calls Tryz.prog 10 #[.agg #[.slice B n d,.int .i64 k,.int .i64 m,.string s,.slice A l c]] w fun e w'=>e=.returned (.agg #[.slice B n d,.int .i64 k,.int .i64 m,.string s,.slice A l c])/\Chg NoS w w':=by
 have HB:=kf ((Blk.new w 27 #[.slice B n d,.int .i64 k,.int .i64 m,.string s,.slice A l c]).alloc (.cells #[.slice none 0 0,.int .i64 0,.int .i64 0,.string ⟨#[]⟩,.slice none 0 0] 36))
 have hb2:=Blk.new (w.alloc (.cells #[.slice B n d,.int .i64 k,.int .i64 m,.string s,.slice A l c] 27)) 36 #[.slice none 0 0,.int .i64 0,.int .i64 0,.string ⟨#[]⟩,.slice none 0 0]
 rw [World.size_alloc] at hb2
 have HC:=kf (((Chg.refl NoS w).alloc (.cells #[.slice B n d,.int .i64 k,.int .i64 m,.string s,.slice A l c] 27)).alloc (.cells #[.slice none 0 0,.int .i64 0,.int .i64 0,.string ⟨#[]⟩,.slice none 0 0] 36))
 obtain⟨g3,hg3⟩:∃ g,g=w.heap.size+1:=⟨_,rfl⟩
 obtain⟨g2,hg2⟩:∃ g,g=w.heap.size:=⟨_,rfl⟩
 rw [<- hg3] at hb2
 rw [<- hg2] at HB
 have HG:Hid (w.heap.size<=g3):=by show _<=_;omega
 go_enter Tryz.func10,Tryz.ntmps10
 go_upto_region 1 with fail
 rw [<- hg2]
 rw [show g2+1=g3 from by omega]
 obtain⟨W1,hW1⟩:∃ W1,W1=(w.alloc (.cells #[.slice B n d,.int .i64 k,.int .i64 m,.string s,.slice A l c] 27)).alloc (.cells #[.slice none 0 0,.int .i64 0,.int .i64 0,.string ⟨#[]⟩,.slice none 0 0] 36):=⟨_,rfl⟩
 rw [<- hW1] at HB hb2 HC ⊢
 clear hW1 hg2 hg3
 obtain⟨q0,q1,q2,q3,q4,-⟩:=HB.out.cl5
 obtain⟨p0,p1,p2,p3,p4,u0,u1,u2,u3,u4⟩:=hb2.cl5
 go_wp2_with fail
 refine bodyPost_ret (v:=.agg #[.slice B n d,.int .i64 k,.int .i64 m,.string s,.slice A l c]) (by simp [results,Tryz.results10,go_sem,p0,p1,p2,p3,p4]) rfl ?_
 exact⟨rfl,HC.out.trans (set5_chg W1 g3 _ _ _ _ _) (fun i hi e=>by have:=HG.out;omega)⟩
theorem entV_is (o:Option XEn):∃ (p g:Int) (u f:Bool),entV o=.tuple #[.agg #[.int .i64 p,.int .i64 g,.bool u],.bool f]:=by
 cases o with
 |none=>exact⟨0,0,false,false,rfl⟩
 |some e=>exact⟨e.pl,e.gen,e.us,true,rfl⟩
set_option maxHeartbeats 16000000 in
set_option maxRecDepth 100000 in
theorem findsW15 (xs:List GC) (B:Option Addr) (d:Nat) (t:VT) (vk vn:Int) (vs:ByteArray) (vA:Option Addr) (vl vc:Nat) (n:Int) (w:World) (hG:Ev NoS w (GsIs xs B d)) (hm:xs.length<=9223372036854775807) (hgg:∀ x∈xs,GoodG w x) (hv:ValIs w t ⟨vk,vn,vs,vA,vl,vc⟩) (hst:strsT 140737488351232 t) (hn:-9223372036854775808<=n/\n<=9223372036854775807) (hL:LibOk w) :
  Calls Tryz.prog 5 #[.agg #[.slice B xs.length d,.int .i64 vk,.int .i64 vn,.string vs,.slice vA vl vc],.int .i64 n] w fun e w'=>e=.returned (.bool true)/\Chg NoS w w':=by
 have HW:=kf (fun W (h:Chg NoS w W)=>works_any15 W (hL.chg h))
 have HFW:=kf (fun W (h:Chg NoS w W)=>r15few_any xs B d t vk vn vs vA vl vc W (hG.chg h) hm (hv.chg h) hst)
 have HFI:=kf (fun W (h:Chg NoS w W) (h1:xs.length<=1000000) (h2:∀ x∈xs,x.g.es.length<=1000000/\-1000000<=x.g.first/\x.g.first<=1000000) (h3:-1000000<=n/\n<=1000000)=>xfind_any xs B d vk vn vs vA vl vc n W (hG.chg h) h1 h2 h3)
 have HRF:=kf (fun W (h:Chg NoS w W) (h1:xs.length<=1000000) (h2:∀ x∈xs,x.g.es.length<=1000000/\-1000000<=x.g.first/\x.g.first<=1000000) (h3:-1000000<=n/\n<=1000000)=>r15find_any xs B d vk vn vs vA vl vc n W (hG.chg h) h1 h2 h3.1 h3.2)
 have HTO:=kf (fun W=>xto_any B xs.length d vk vn vs vA vl vc W)
 have HG:=kf hG
 have HGG:=kf (fun x hx=>(hgg x hx).2.2)
 obtain⟨E,hE⟩:∃ E,E=fndX n (xs.map GC.g):=⟨_,rfl⟩
 rw [<- hE] at HFI HRF
 obtain⟨ep,eg,eu,ef,hev⟩:=entV_is E
 rw [hev] at HFI HRF
 obtain⟨m,hml⟩:∃ m,m=xs.length:=⟨_,rfl⟩
 have HM:=kf hml
 rw [<- hml] at hm HFW HFI HRF HTO ⊢
 have HB:=kf (Blk.new w 27 #[.slice B m d,.int .i64 vk,.int .i64 vn,.string vs,.slice vA vl vc])
 have HC:=kf ((Chg.refl NoS w).alloc (.cells #[.slice B m d,.int .i64 vk,.int .i64 vn,.string vs,.slice vA vl vc] 27))
 clear hL hG hgg hv hst hml hE hev
 go_enter Tryz.func5,Tryz.ntmps5
 go_upto_region 1 with fail
 obtain⟨W1,hW1⟩:∃ W1,W1=w.alloc (.cells #[.slice B m d,.int .i64 vk,.int .i64 vn,.string vs,.slice vA vl vc] 27):=⟨_,rfl⟩
 obtain⟨g2,hg2⟩:∃ g,g=w.heap.size:=⟨_,rfl⟩
 rw [<- hW1] at HB HC ⊢
 rw [<- hg2] at HB ⊢
 clear hW1 hg2
 obtain⟨q0,q1,q2,q3,q4,-⟩:=HB.out.cl5
 go_upto_region 1 with fail
 go_cut [12] from 10 to 68 (fun s12 wx=>∃ b:Bool,s12=.bool (!b)/\Hid ((b=true->SmallG xs)/\Chg NoS W1 wx))
 case first =>
  go_wp2_with (go_at_call 7;refine(HFW.out _ HC.out).mono ?_;rintro e w2 ⟨⟨b,rfl,hb⟩,hc2⟩;have HC2:=kf hc2;have HBB:=kf hb;clear hc2 hb)
  go_meet
  exact⟨b,rfl,kf ⟨fun h=>(HBB.out h).1,HC2.out⟩⟩
 case rest =>
  obtain⟨b,rfl,hcx⟩:=hcut
  obtain⟨wz,hwz⟩:∃ wz,wz=wc:=⟨_,rfl⟩
  subst hwz
  have HC2:=kf hcx.out.2
  have HSM:=kf hcx.out.1
  clear hcx q0 q1 q2 q3 q4
  cases b with
  |false =>
   simp only [Bool.not_false]
   go_wp2_with (go_at_call 8;refine(HW.out _ (HC.out.trans HC2.out (fun _ _ e=>e))).mono ?_;rintro e wx ⟨rfl,hcx⟩;have HCx:=kf hcx;clear hcx)
   go_ret
   exact⟨rfl,(HC.out.trans HC2.out (fun _ _ e=>e)).trans HCx.out (fun _ _ e=>e)⟩
  |true =>
   simp only [Bool.not_true]
   have hsg:=HSM.out rfl
   have HSG:=kf hsg
   have hm80:m<=80:=by rw [HM.out];exact hsg.1
   clear hsg HSM
   have HCW:=kf (HC.out.trans HC2.out (fun _ _ e=>e))
   have hbz:=HB.out.chg HC2.out (fun e=>e)
   have HBZ:=kf hbz
   obtain⟨q0,q1,q2,q3,q4,-⟩:=hbz.cl5
   have hGs:=HG.out _ HCW.out
   have HGs:=kf hGs
   clear hbz hGs HB HC HC2
   go_wp2_with fail
   go_loopw [5] (fun vi wr=>∃ k:Nat,k<=m/\vi=.int .i64 (k:Nat)/\wz=wr/\Hid (∀ x∈xs.take k,-1000000<=x.g.first/\x.g.first<=1000000)) (fun vi _=>m-(intOf vi).toNat)
   case atStart=>exact⟨0,Nat.zero_le _,rfl,rfl,kf (fun x hx=>(by simp at hx))⟩
   case round =>
    obtain⟨k,hk,rfl,rfl,HAk⟩:=hrel
    by_cases hlt:k<m
    ·obtain⟨x,hx⟩:∃ x,xs[k]?=some x:=⟨_,List.getElem?_eq_getElem (by have:=HM.out;omega)⟩
     obtain⟨b,off,rfl,hcell⟩:=gs_at HGs.out (by have:=HM.out;omega)
     obtain⟨c0,c1⟩:=hcell k x hx
     have htk:xs.take (k+1)=xs.take k++[x]:=by
      have hkx:k<xs.length:=by have:=HM.out;omega
      rw [List.getElem?_eq_getElem hkx] at hx
      cases hx
      exact List.take_succ_eq_append_getElem hkx
     have HTK:=kf htk
     obtain⟨f,hf⟩:∃ f,f=x.g.first:=⟨_,rfl⟩
     rw [<- hf] at c0
     have HF:=kf hf
     have d3:decide ((k:Int)<m)=true:=by simp;omega
     clear hcell hx htk hf c1
     by_cases h1:f < -1000000
     ·have d4:decide (f < -1000000)=true:=by simpa using h1
      go_wp2_with (go_at_call 8;refine(HW.out _ HCW.out).mono ?_;rintro e wx ⟨rfl,hcx⟩;have HCx:=kf hcx;clear hcx)
      go_ret
      exact⟨rfl,HCW.out.trans HCx.out (fun _ _ e=>e)⟩
     have d4:decide (f < -1000000)=false:=by simpa using h1
     by_cases h2:1000000<f
     ·have d5:decide (1000000<f)=true:=by simpa using h2
      go_wp2_with (go_at_call 8;refine(HW.out _ HCW.out).mono ?_;rintro e wx ⟨rfl,hcx⟩;have HCx:=kf hcx;clear hcx)
      go_ret
      exact⟨rfl,HCW.out.trans HCx.out (fun _ _ e=>e)⟩
     ·have d5:decide (1000000<f)=false:=by simpa using h2
      go_wp2_with fail
      go_roundw
      case rel =>
       refine⟨k+1,by omega,by go_num,trivial,kf (fun y hy=>?_)⟩
       rw [HTK.out] at hy
       rcases List.mem_append.1 hy with h|h
       ·exact HAk.out y h
       ·rw [List.mem_singleton] at h
        rw [h,<- HF.out]
        omega
      case measure=>simp [intOf];omega
    ·have d3:decide ((k:Int)<m)=false:=by simp;omega
     have d3':decide (k<m)=false:=by simp;omega
     have HES:=kf (show xs.length<=1000000/\∀ x∈xs,x.g.es.length<=1000000/\-1000000<=x.g.first/\x.g.first<=1000000 from⟨by have:=HM.out;omega,fun x hx=>by
      have h1:=HAk.out x (by rw [List.take_of_length_le (by have:=HM.out;omega)];exact hx)
      have h2:=HSG.out.2 x hx
      omega⟩)
     by_cases h1:n < -1000000
     ·have d4:decide (n < -1000000)=true:=by simpa using h1
      go_wp2_with (go_at_call 8;refine(HW.out _ HCW.out).mono ?_;rintro e wx ⟨rfl,hcx⟩;have HCx:=kf hcx;clear hcx)
      go_ret
      exact⟨rfl,HCW.out.trans HCx.out (fun _ _ e=>e)⟩
     have d4:decide (n < -1000000)=false:=by simpa using h1
     by_cases h2:1000000<n
     ·have d5:decide (1000000<n)=true:=by simpa using h2
      go_wp2_with (go_at_call 8;refine(HW.out _ HCW.out).mono ?_;rintro e wx ⟨rfl,hcx⟩;have HCx:=kf hcx;clear hcx)
      go_ret
      exact⟨rfl,HCW.out.trans HCx.out (fun _ _ e=>e)⟩
     have d5:decide (1000000<n)=false:=by simpa using h2
     have HFX:=kf (fun W h=>HFI.out W h (by have:=HES.out.1;have:=HM.out;omega) HES.out.2 ⟨by omega,by omega⟩)
     have HRX:=kf (fun W h=>HRF.out W h (by have:=HES.out.1;have:=HM.out;omega) HES.out.2 ⟨by omega,by omega⟩)
     clear h1 h2 hn hlt
     go_upto_region 11 with(first
      |(go_at_call 10;refine(HTO.out _).mono ?_;rintro e w3 ⟨rfl,hc3⟩;have HC3:=kf (HCW.out.trans hc3 (fun _ _ e=>e));have HB3:=kf (HBZ.out.chg hc3 (fun e=>e));clear hc3)
      |(go_at_call 21;refine(HFX.out _ HC3.out).mono ?_;rintro e w4 ⟨rfl,hc4⟩;have HC4:=kf (HC3.out.trans hc4 (fun _ _ e=>e));have HB4:=kf (HB3.out.chg hc4 (fun e=>e));clear hc4))
     have HC5:=kf (HC4.out.alloc (.cells #[.int .i64 ep,.int .i64 eg,.bool eu] 29))
     have HB5:=kf (HB4.out.alloc (.cells #[.int .i64 ep,.int .i64 eg,.bool eu] 29))
     have HE5:=kf (Blk.new w4 29 #[.int .i64 ep,.int .i64 eg,.bool eu])
     obtain⟨W5,hW5⟩:∃ W5,W5=w4.alloc (.cells #[.int .i64 ep,.int .i64 eg,.bool eu] 29):=⟨_,rfl⟩
     obtain⟨g6,hg6⟩:∃ g,g=w4.heap.size:=⟨_,rfl⟩
     rw [<- hW5] at HC5 HB5 HE5 ⊢
     rw [<- hg6] at HE5 ⊢
     clear hW5 hg6 q0 q1 q2 q3 q4
     obtain⟨q0,q1,q2,q3,q4,-⟩:=HB5.out.cl5
     go_upto_region 12 with(go_at_call 22;refine(HRX.out _ HC5.out).mono ?_;rintro e w6 ⟨rfl,hc6⟩;have HC6:=kf (HC5.out.trans hc6 (fun _ _ e=>e));have HE6:=kf (HE5.out.chg hc6 (fun e=>e));clear hc6)
     have HC7:=kf (HC6.out.alloc (.cells #[.int .i64 ep,.int .i64 eg,.bool eu] 29))
     have HE7:=kf (HE6.out.alloc (.cells #[.int .i64 ep,.int .i64 eg,.bool eu] 29))
     have HE8:=kf (Blk.new w6 29 #[.int .i64 ep,.int .i64 eg,.bool eu])
     obtain⟨W7,hW7⟩:∃ W7,W7=w6.alloc (.cells #[.int .i64 ep,.int .i64 eg,.bool eu] 29):=⟨_,rfl⟩
     obtain⟨g8,hg8⟩:∃ g,g=w6.heap.size:=⟨_,rfl⟩
     rw [<- hW7] at HC7 HE7 HE8 ⊢
     rw [<- hg8] at HE8 ⊢
     clear hW7 hg8 q0 q1 q2 q3 q4
     obtain⟨r0,r1,r2,-⟩:=HE7.out.cl3
     obtain⟨s0,s1,s2,-⟩:=HE8.out.cl3
     have t1:(ef==ef)=true:=by simp
     go_wp2_with (go_at_call 8;refine(HW.out _ HC7.out).mono ?_;rintro e wx ⟨rfl,hcx⟩;have HCx:=kf hcx;clear hcx)
     go_ret
     exact⟨rfl,HC7.out.trans HCx.out (fun _ _ e=>e)⟩
end Go.Proofs.YthejpkflcgjdoaaGreatDoor
