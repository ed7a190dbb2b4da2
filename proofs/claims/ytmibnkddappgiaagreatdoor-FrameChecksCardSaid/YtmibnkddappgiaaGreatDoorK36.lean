import Derived.Test.YtmibnkddappgiaaGreatDoorK31
import Derived.Test.YtmibnkddappgiaaGreatDoorK35
set_option linter.unusedVariables false
set_option maxHeartbeats 64000000
set_option maxRecDepth 100000
set_option linter.unusedSimpArgs false
namespace Go.Proofs.YtmibnkddappgiaaGreatDoor
open Go.RowKit
theorem y41 {w:World} (cs:Array Value) (t:TypeId) (fr:Nat × Nat) {n m size:Nat} (h:n=w.heap.size) (hs:cs.size=m*size):Src (w.alloc (.cells cs t fr)) size (some ⟨n,0,none⟩) m m cs.toList:=by
 subst h;refine⟨by simpa using hs,fun h=>(by cases h),fun ad hA j u hu=>?_⟩;cases hA
 have hb:=heap_alloc_new w (.cells cs t fr);have hc:=cell_of_row (w.alloc (.cells cs t fr)) w.heap.size j cs t fr hb;rw [<- Array.getElem?_toList,hu] at hc;by_cases hj:j=0
 ·subst hj;simpa [Addr.add] using hc
 ·simpa [Addr.add,hj] using hc
theorem y6z {n:Int} (h:-2147483647<=n/\n<=2147483647):z0w (.mk 2 n ⟨#[]⟩ [])=0:=by
 have h0:z0b 2 n ⟨#[]⟩ []=0:=by rw [y0d];exact if_pos ⟨rfl,rfl,by unfold z3v;omega⟩
 unfold z0w;rw [if_neg (by rw [z07,if_neg (by decide)];decide),z0x,h0,if_neg (by decide),if_neg (by decide)]
theorem wk_form:z0u (.mk 2 5 ⟨#[]⟩ [])=[53]/\z0u (.mk 2 7 ⟨#[]⟩ [])=[55]:=by
 rw [y7j,y7j]
 have h5:z1g 5=[53]:=by
  unfold z1g;rw [show(5:Int).natAbs=5 from rfl,z8e 5 1 (.inl (by decide)),show 5 / 10=0 from rfl,show 1-1=0 from rfl,y29];rfl
 have h7:z1g 7=[55]:=by
  unfold z1g;rw [show(7:Int).natAbs=7 from rfl,z8e 7 1 (.inl (by decide)),show 7 / 10=0 from rfl,show 1-1=0 from rfl,y29];rfl
 exact⟨h5,h7⟩
theorem y26:(z4k 5 (.mk 2 7 ⟨#[]⟩ [])).map UInt8.toNat=[53,32,48,32,111,98,106,10,55,10,101,110,100,111,98,106,10]:=by
 unfold z4k z5z;rw [if_pos (y6z (by omega)),if_pos (y6z (by omega)),wk_form.1,wk_form.2];rfl
theorem y8r (w:World) (hL:LibOk w):Calls Tryz.prog 14 #[.int .i64 5,z1u ⟨2,7,⟨#[]⟩,none,0,0⟩ false ⟨#[]⟩,.bool true] w (v8o w [53,32,48,32,111,98,106,10,55,10,101,110,100,111,98,106,10]):=by
 have h:=y7h 5 (.mk 2 7 ⟨#[]⟩ []) 2 7 ⟨#[]⟩ none 0 0 true w hL (z1y (fun _=>False) w 2 7 ⟨#[]⟩ (by decide) (by decide) (by decide)).now (by rw [z0f,z1n];omega) (y6z (by omega)) (by rw [wk_form.2];decide) (by omega) (by rw [wk_form.1];decide) (by
  have h1:=congrArg List.length y26;rw [List.length_map] at h1;rw [h1];decide)
 rw [y26] at h;exact h
theorem v8u:v8s wkB false (y1t wkB false 0):=by
 rw [wk_hdr.2];unfold v8s;rw [v2c];intro h;exfalso
 have h2:(z1a 7 wkL z0g).2=true:=h;rw [z8a v3p] at h2;cases h2
theorem y8s (w:World):Calls Tryz.prog 16 #[.slice (some ⟨w.heap.size,0,none⟩) 49 49,.int .i64 0,.bool false] (w.alloc (.cells #[.int .u8 53,.int .u8 32,.int .u8 48,.int .u8 32,.int .u8 111,.int .u8 98,.int .u8 106,.int .u8 10,.int .u8 60,.int .u8 60,.int .u8 47,.int .u8 76,.int .u8 101,.int .u8 110,.int .u8 103,.int .u8 116,.int .u8 104,.int .u8 32,.int .u8 50,.int .u8 62,.int .u8 62,.int .u8 10,.int .u8 115,.int .u8 116,.int .u8 114,.int .u8 101,.int .u8 97,.int .u8 109,.int .u8 10,.int .u8 97,.int .u8 98,.int .u8 10,.int .u8 101,.int .u8 110,.int .u8 100,.int .u8 115,.int .u8 116,.int .u8 114,.int .u8 101,.int .u8 97,.int .u8 109,.int .u8 10,.int .u8 101,.int .u8 110,.int .u8 100,.int .u8 111,.int .u8 98,.int .u8 106,.int .u8 10] 5 (49,50))) (FTo (w.alloc (.cells #[.int .u8 53,.int .u8 32,.int .u8 48,.int .u8 32,.int .u8 111,.int .u8 98,.int .u8 106,.int .u8 10,.int .u8 60,.int .u8 60,.int .u8 47,.int .u8 76,.int .u8 101,.int .u8 110,.int .u8 103,.int .u8 116,.int .u8 104,.int .u8 32,.int .u8 50,.int .u8 62,.int .u8 62,.int .u8 10,.int .u8 115,.int .u8 116,.int .u8 114,.int .u8 101,.int .u8 97,.int .u8 109,.int .u8 10,.int .u8 97,.int .u8 98,.int .u8 10,.int .u8 101,.int .u8 110,.int .u8 100,.int .u8 115,.int .u8 116,.int .u8 114,.int .u8 101,.int .u8 97,.int .u8 109,.int .u8 10,.int .u8 101,.int .u8 110,.int .u8 100,.int .u8 111,.int .u8 98,.int .u8 106,.int .u8 10] 5 (49,50))) ⟨5,⟨.mk 7 0 ⟨#[]⟩ [],true,[97,98]⟩,48,0⟩):=by
 have h:=y4l wkB (some ⟨w.heap.size,0,none⟩) 49 0 false _ ⟨y41 #[.int .u8 53,.int .u8 32,.int .u8 48,.int .u8 32,.int .u8 111,.int .u8 98,.int .u8 106,.int .u8 10,.int .u8 60,.int .u8 60,.int .u8 47,.int .u8 76,.int .u8 101,.int .u8 110,.int .u8 103,.int .u8 116,.int .u8 104,.int .u8 32,.int .u8 50,.int .u8 62,.int .u8 62,.int .u8 10,.int .u8 115,.int .u8 116,.int .u8 114,.int .u8 101,.int .u8 97,.int .u8 109,.int .u8 10,.int .u8 97,.int .u8 98,.int .u8 10,.int .u8 101,.int .u8 110,.int .u8 100,.int .u8 115,.int .u8 116,.int .u8 114,.int .u8 101,.int .u8 97,.int .u8 109,.int .u8 10,.int .u8 101,.int .u8 110,.int .u8 100,.int .u8 111,.int .u8 98,.int .u8 106,.int .u8 10] 5 (49,50) rfl rfl,by decide,by decide,by decide⟩ v8u;rw [v69] at h;exact h
theorem y15 (w:World) (hL:LibOk w):Calls Tryz.prog 5 #[] w fun e w'=>e=.returned (.bool true)/\Chg NoS w w':=by
 have HIO:=kf (fun W=>z6v 7 W);have HOB:=kf (fun W=>z47 2 7 ⟨#[]⟩ none 0 0 W);have HPR:=kf (fun W (h:Chg NoS w W)=>y8r W (hL.chg h));have HPA:=kf (fun W=>y8s W);have hcv:∀ W:World,(convert 37 37 (.slice (some ⟨W.heap.size,0,none⟩) 49 49)).run Tryz.prog (W.alloc (.cells #[.int .u8 53,.int .u8 32,.int .u8 48,.int .u8 32,.int .u8 111,.int .u8 98,.int .u8 106,.int .u8 10,.int .u8 60,.int .u8 60,.int .u8 47,.int .u8 76,.int .u8 101,.int .u8 110,.int .u8 103,.int .u8 116,.int .u8 104,.int .u8 32,.int .u8 50,.int .u8 62,.int .u8 62,.int .u8 10,.int .u8 115,.int .u8 116,.int .u8 114,.int .u8 101,.int .u8 97,.int .u8 109,.int .u8 10,.int .u8 97,.int .u8 98,.int .u8 10,.int .u8 101,.int .u8 110,.int .u8 100,.int .u8 115,.int .u8 116,.int .u8 114,.int .u8 101,.int .u8 97,.int .u8 109,.int .u8 10,.int .u8 101,.int .u8 110,.int .u8 100,.int .u8 111,.int .u8 98,.int .u8 106,.int .u8 10] 5))=.ok (.slice (some ⟨W.heap.size,0,none⟩) 49 49) (W.alloc (.cells #[.int .u8 53,.int .u8 32,.int .u8 48,.int .u8 32,.int .u8 111,.int .u8 98,.int .u8 106,.int .u8 10,.int .u8 60,.int .u8 60,.int .u8 47,.int .u8 76,.int .u8 101,.int .u8 110,.int .u8 103,.int .u8 116,.int .u8 104,.int .u8 32,.int .u8 50,.int .u8 62,.int .u8 62,.int .u8 10,.int .u8 115,.int .u8 116,.int .u8 114,.int .u8 101,.int .u8 97,.int .u8 109,.int .u8 10,.int .u8 97,.int .u8 98,.int .u8 10,.int .u8 101,.int .u8 110,.int .u8 100,.int .u8 115,.int .u8 116,.int .u8 114,.int .u8 101,.int .u8 97,.int .u8 109,.int .u8 10,.int .u8 101,.int .u8 110,.int .u8 100,.int .u8 111,.int .u8 98,.int .u8 106,.int .u8 10] 5 (49,50))):=fun W=>Lib.run_convert_bytes_const W 37 5 _ 49 49 Tryz.underlying37 Tryz.underlying5;clear hL;go_enter Tryz.func5,Tryz.ntmps5
 go_upto_region 2 with first
  |(go_at_call 15;refine(HIO.out _).mono ?_;rintro e w2 ⟨rfl,hc2⟩;have HC2:=kf hc2;clear hc2)
  |(go_at_call 10;refine(HOB.out _).mono ?_;rintro e w3 ⟨rfl,hc3⟩;have HC3:=kf (HC2.out.trans hc3 (fun _ _ e=>e));clear hc3)
  |(go_at_call 14;refine(HPR.out _ HC3.out).mono ?_;rintro e w4 ⟨A4,n4,c4,rfl,hn4,hs4,hcc4,hc4⟩;have HC4:=kf (HC3.out.trans hc4 (fun _ _ e=>e));have HS4:=kf hs4;have HN4:=kf hn4;clear hs4 hn4 hc4 hcc4)
 go_upto_region 3 with(go_at_call 16;refine(HPA.out _).mono ?_;rintro e w5 ⟨k,n,S,uA,ul,uc,rfl,hv5,hc5⟩;have HV5:=kf hv5;have HC45:=kf (((Chg.refl NoS w4).alloc (.cells #[.int .u8 53,.int .u8 32,.int .u8 48,.int .u8 32,.int .u8 111,.int .u8 98,.int .u8 106,.int .u8 10,.int .u8 60,.int .u8 60,.int .u8 47,.int .u8 76,.int .u8 101,.int .u8 110,.int .u8 103,.int .u8 116,.int .u8 104,.int .u8 32,.int .u8 50,.int .u8 62,.int .u8 62,.int .u8 10,.int .u8 115,.int .u8 116,.int .u8 114,.int .u8 101,.int .u8 97,.int .u8 109,.int .u8 10,.int .u8 97,.int .u8 98,.int .u8 10,.int .u8 101,.int .u8 110,.int .u8 100,.int .u8 115,.int .u8 116,.int .u8 114,.int .u8 101,.int .u8 97,.int .u8 109,.int .u8 10,.int .u8 101,.int .u8 110,.int .u8 100,.int .u8 111,.int .u8 98,.int .u8 106,.int .u8 10] 5 (49,50))).trans hc5 (fun _ _ e=>e));clear hv5 hc5;unfold z1u obA;simp only []);have HS5:=kf (Src.below (w0:=w4) HS4.out HC45.out);have HC5:=kf (HC4.out.trans HC45.out (fun _ _ e=>e));have HCA:=kf ((Chg.refl NoS w5).alloc (.cells #[.int .i64 k,.int .i64 n,.string S,.slice uA ul uc,.bool true,.string (sb [97,98])] 26));have HB6:=kf (Blk.new w5 26 #[.int .i64 k,.int .i64 n,.string S,.slice uA ul uc,.bool true,.string (sb [97,98])]);have HS6:=kf (Src.below (w0:=w5) HS5.out HCA.out);have HC6:=kf (HC5.out.trans HCA.out (fun _ _ e=>e));have HV6:=kf (HV5.out.chg HCA.out);obtain⟨W6,hW6⟩:∃ W6,W6=w5.alloc (.cells #[.int .i64 k,.int .i64 n,.string S,.slice uA ul uc,.bool true,.string (sb [97,98])] 26):=⟨_,rfl⟩
 obtain⟨g4,hg4⟩:∃ g,g=w5.heap.size:=⟨_,rfl⟩
 rw [<- hW6] at HB6 HS6 HC6 HV6 ⊢;rw [<- hg4] at HB6 ⊢;clear hW6 hg4 hcv;obtain⟨D2,hD2⟩:∃ D:ByteArray,D=sb [97,98]:=⟨_,rfl⟩
 have hD3:D2.toList=[97,98]:=by rw [hD2];kernel_rfl
 have hD4:(D2.toList==[97,98])=true:=by rw [hD3];rfl
 have HD5:Hid (D2=⟨#[97,98]⟩):=by show _=_;rw [hD2];rfl
 obtain⟨S1,hS1⟩:∃ D:ByteArray,D=sb [53,32,48,32,111,98,106,10,55,10,101,110,100,111,98,106,10]:=⟨_,rfl⟩
 have hS3:S1.toList=[53,32,48,32,111,98,106,10,55,10,101,110,100,111,98,106,10]:=by rw [hS1];kernel_rfl
 have hS4:(S1.toList==[53,32,48,32,111,98,106,10,55,10,101,110,100,111,98,106,10])=true:=by rw [hS3];rfl
 have HHE:=kf (fun W (hW:Chg NoS W6 W)=>(show W.cell? ⟨g4,0,none⟩=some (.int .i64 k)/\W.cell? ⟨g4,1,none⟩=some (.int .i64 n)/\W.cell? ⟨g4,2,none⟩=some (.string S)/\W.cell? ⟨g4,3,none⟩=some (.slice uA ul uc)/\W.cell? ⟨g4,4,none⟩=some (.bool true)/\W.cell? ⟨g4,5,none⟩=some (.string D2)/\(convert 37 9 (.slice A4 n4 c4)).run Tryz.prog W=.ok (.string S1) W from
  ⟨(HB6.out.chg hW (fun e=>e)).cl6.c0,(HB6.out.chg hW (fun e=>e)).cl6.c1,(HB6.out.chg hW (fun e=>e)).cl6.c2,(HB6.out.chg hW (fun e=>e)).cl6.c3,(HB6.out.chg hW (fun e=>e)).cl6.c4,by rw [hD2];exact(HB6.out.chg hW (fun e=>e)).cl6.c5,by rw [hS1];exact z74 (Src.below (w0:=W6) HS6.out hW)⟩))
 have HDO:=kf (fun W=>z48 none 0 0 W (fun _=>⟨rfl,rfl⟩) (by decide));have HST:=kf (fun W (k n:Int) (S:ByteArray) (A:Option Addr) (l c:Nat)=>z45 k n S D2 A l c W);have HSA:=kf (fun W (k' n':Int) (S':ByteArray) (A':Option Addr) (l' c':Nat) (h:Chg NoS W6 W) (h2:ValIs W (.mk 7 0 ⟨#[]⟩ []) ⟨k',n',S',A',l',c'⟩)=>z3d (.mk 7 0 ⟨#[]⟩ []) k n S uA ul uc k' n' S' A' l' c' true D2 W (HV6.out.chg h) h2);unfold z1u obA at HST HSA;simp only [] at HST HSA;rw [<- hD2];clear hD2 hS1;refine z3b (fun W=>W.cell? ⟨g4,0,none⟩=some (.int .i64 k)/\W.cell? ⟨g4,1,none⟩=some (.int .i64 n)/\W.cell? ⟨g4,2,none⟩=some (.string S)/\W.cell? ⟨g4,3,none⟩=some (.slice uA ul uc)/\W.cell? ⟨g4,4,none⟩=some (.bool true)/\W.cell? ⟨g4,5,none⟩=some (.string D2)/\(convert 37 9 (.slice A4 n4 c4)).run Tryz.prog W=.ok (.string S1) W) 34 (by kernel_rfl) (HHE.out _ ((Chg.refl NoS W6).drew)) (fun hHeld=>?_);refine z06 (i:=0) (oi:={ dst:=some 21,op:=Go.Op.move (Go.Operand.tmp 1),type:=37,pos:=_,after:=_,guard:=none }) (v:=?_) rfl (by kernel_rfl) (by kernel_rfl) (by kernel_rfl) (by kernel_rfl) (fun _ _ _ h=>h) (Or.inl ⟨by rfl,?_⟩) (by assumption) ?_;rotate_left
 ·intro w hSw;(try dsimp only at hSw);(try obtain⟨s0,s1,s2,s3,s4,s5,s6⟩:=hSw);(first|(go_simp;done)|(go_simp;with_reducible rfl))
 try simp only [pkA]
 refine z06 (i:=1) (oi:={ dst:=some 22,op:=Go.Op.convert 37 9 (Go.Operand.tmp 21),type:=9,pos:=_,after:=_,guard:=none }) (v:=?_) rfl (by kernel_rfl) (by kernel_rfl) (by kernel_rfl) (by kernel_rfl) (fun _ _ _ h=>h) (Or.inl ⟨by rfl,?_⟩) (by assumption) ?_;rotate_left
 ·intro w hSw;(try dsimp only at hSw);(try obtain⟨s0,s1,s2,s3,s4,s5,s6⟩:=hSw);(first|(go_simp;done)|(go_simp;with_reducible rfl))
 try simp only [pkA]
 refine z06 (i:=2) (oi:={ dst:=some 23,op:=Go.Op.binOp Go.BinOp.eql 9 (Go.Operand.tmp 22) (Go.Operand.const (Go.Value.string { data:=#[53,32,48,32,111,98,106,10,55,10,101,110,100,111,98,106,10] })) 9,type:=4,pos:=_,after:=_,guard:=none }) (v:=?_) rfl (by kernel_rfl) (by kernel_rfl) (by kernel_rfl) (by kernel_rfl) (fun _ _ _ h=>h) (Or.inl ⟨by rfl,?_⟩) (by assumption) ?_;rotate_left
 ·intro w hSw;(try dsimp only at hSw);(try obtain⟨s0,s1,s2,s3,s4,s5,s6⟩:=hSw);(first|(go_simp;done)|(go_simp;with_reducible rfl))
 try simp only [pkA]
 refine z06 (i:=3) (oi:={ dst:=some 24,op:=Go.Op.move (Go.Operand.tmp 23),type:=4,pos:=_,after:=_,guard:=none }) (v:=?_) rfl (by kernel_rfl) (by kernel_rfl) (by kernel_rfl) (by kernel_rfl) (fun _ _ _ h=>h) (Or.inl ⟨by rfl,?_⟩) (by assumption) ?_;rotate_left
 ·intro w hSw;(try dsimp only at hSw);(try obtain⟨s0,s1,s2,s3,s4,s5,s6⟩:=hSw);(first|(go_simp;done)|(go_simp;with_reducible rfl))
 try simp only [pkA]
 refine z06 (i:=4) (oi:={ dst:=some 25,op:=Go.Op.move (Go.Operand.tmp 2),type:=29,pos:=_,after:=_,guard:=some (3,true) }) (v:=?_) rfl (by kernel_rfl) (by kernel_rfl) (by kernel_rfl) (by kernel_rfl) (fun _ _ _ h=>h) (Or.inl ⟨by rfl,?_⟩) (by assumption) ?_;rotate_left
 ·intro w hSw;(try dsimp only at hSw);(try obtain⟨s0,s1,s2,s3,s4,s5,s6⟩:=hSw);(first|(go_simp;done)|(go_simp;with_reducible rfl))
 try simp only [pkA]
 refine z06 (i:=5) (oi:={ dst:=some 26,op:=Go.Op.binOp Go.BinOp.eql 29 (Go.Operand.tmp 25) (Go.Operand.const (Go.Value.int Go.IntKind.i64 0)) 29,type:=4,pos:=_,after:=_,guard:=some (3,true) }) (v:=?_) rfl (by kernel_rfl) (by kernel_rfl) (by kernel_rfl) (by kernel_rfl) (fun _ _ _ h=>h) (Or.inl ⟨by rfl,?_⟩) (by assumption) ?_;rotate_left
 ·intro w hSw;(try dsimp only at hSw);(try obtain⟨s0,s1,s2,s3,s4,s5,s6⟩:=hSw);(first|(go_simp;done)|(go_simp;with_reducible rfl))
 try simp only [pkA]
 refine z06 (i:=6) (oi:={ dst:=some 27,op:=Go.Op.pick (Go.Operand.tmp 24) (Go.Operand.tmp 26) (Go.Operand.const (Go.Value.bool false)),type:=4,pos:=_,after:=_,guard:=none }) (v:=?_) rfl (by kernel_rfl) (by kernel_rfl) (by kernel_rfl) (by kernel_rfl) (fun _ _ _ h=>h) (Or.inl ⟨by rfl,?_⟩) (by assumption) ?_;rotate_left
 ·intro w hSw;(try dsimp only at hSw);(try obtain⟨s0,s1,s2,s3,s4,s5,s6⟩:=hSw);(first|(go_simp;done)|(go_simp;with_reducible rfl))
 try simp only [pkA]
 refine z06 (i:=7) (oi:={ dst:=some 28,op:=Go.Op.move (Go.Operand.tmp 27),type:=4,pos:=_,after:=_,guard:=none }) (v:=?_) rfl (by kernel_rfl) (by kernel_rfl) (by kernel_rfl) (by kernel_rfl) (fun _ _ _ h=>h) (Or.inl ⟨by rfl,?_⟩) (by assumption) ?_;rotate_left
 ·intro w hSw;(try dsimp only at hSw);(try obtain⟨s0,s1,s2,s3,s4,s5,s6⟩:=hSw);(first|(go_simp;done)|(go_simp;with_reducible rfl))
 try simp only [pkA]
 refine z06 (i:=8) (oi:={ dst:=some 29,op:=Go.Op.move (Go.Operand.tmp 3),type:=3,pos:=_,after:=_,guard:=some (7,true) }) (v:=?_) rfl (by kernel_rfl) (by kernel_rfl) (by kernel_rfl) (by kernel_rfl) (fun _ _ _ h=>h) (Or.inl ⟨by rfl,?_⟩) (by assumption) ?_;rotate_left
 ·intro w hSw;(try dsimp only at hSw);(try obtain⟨s0,s1,s2,s3,s4,s5,s6⟩:=hSw);(first|(go_simp;done)|(go_simp;with_reducible rfl))
 try simp only [pkA]
 refine z06 (i:=9) (oi:={ dst:=some 30,op:=Go.Op.binOp Go.BinOp.eql 3 (Go.Operand.tmp 29) (Go.Operand.const (Go.Value.int Go.IntKind.i64 5)) 3,type:=4,pos:=_,after:=_,guard:=some (7,true) }) (v:=?_) rfl (by kernel_rfl) (by kernel_rfl) (by kernel_rfl) (by kernel_rfl) (fun _ _ _ h=>h) (Or.inl ⟨by rfl,?_⟩) (by assumption) ?_;rotate_left
 ·intro w hSw;(try dsimp only at hSw);(try obtain⟨s0,s1,s2,s3,s4,s5,s6⟩:=hSw);(first|(go_simp;done)|(go_simp;with_reducible rfl))
 try simp only [pkA]
 refine z06 (i:=10) (oi:={ dst:=some 31,op:=Go.Op.pick (Go.Operand.tmp 28) (Go.Operand.tmp 30) (Go.Operand.const (Go.Value.bool false)),type:=4,pos:=_,after:=_,guard:=none }) (v:=?_) rfl (by kernel_rfl) (by kernel_rfl) (by kernel_rfl) (by kernel_rfl) (fun _ _ _ h=>h) (Or.inl ⟨by rfl,?_⟩) (by assumption) ?_;rotate_left
 ·intro w hSw;(try dsimp only at hSw);(try obtain⟨s0,s1,s2,s3,s4,s5,s6⟩:=hSw);(first|(go_simp;done)|(go_simp;with_reducible rfl))
 try simp only [pkA]
 refine z06 (i:=11) (oi:={ dst:=some 32,op:=Go.Op.move (Go.Operand.tmp 31),type:=4,pos:=_,after:=_,guard:=none }) (v:=?_) rfl (by kernel_rfl) (by kernel_rfl) (by kernel_rfl) (by kernel_rfl) (fun _ _ _ h=>h) (Or.inl ⟨by rfl,?_⟩) (by assumption) ?_;rotate_left
 ·intro w hSw;(try dsimp only at hSw);(try obtain⟨s0,s1,s2,s3,s4,s5,s6⟩:=hSw);(first|(go_simp;done)|(go_simp;with_reducible rfl))
 try simp only [pkA]
 refine z06 (i:=12) (oi:={ dst:=some 33,op:=Go.Op.fieldAddr 26 (Go.Operand.tmp 4) 1,type:=0,pos:=_,after:=_,guard:=some (11,true) }) (v:=?_) rfl (by kernel_rfl) (by kernel_rfl) (by kernel_rfl) (by kernel_rfl) (fun _ _ _ h=>h) (Or.inl ⟨by rfl,?_⟩) (by assumption) ?_;rotate_left
 ·intro w hSw;(try dsimp only at hSw);(try obtain⟨s0,s1,s2,s3,s4,s5,s6⟩:=hSw);(first|(go_simp;done)|(go_simp;with_reducible rfl))
 try simp only [pkA]
 refine z06 (i:=13) (oi:={ dst:=some 34,op:=Go.Op.load 4 (Go.Operand.tmp 33),type:=4,pos:=_,after:=_,guard:=some (11,true) }) (v:=?_) rfl (by kernel_rfl) (by kernel_rfl) (by kernel_rfl) (by kernel_rfl) (fun _ _ _ h=>h) (Or.inl ⟨by rfl,?_⟩) (by assumption) ?_;rotate_left
 ·intro w hSw;(try dsimp only at hSw);(try obtain⟨s0,s1,s2,s3,s4,s5,s6⟩:=hSw);(first|(go_simp;done)|(go_simp;with_reducible rfl))
 try simp only [pkA]
 refine z06 (i:=14) (oi:={ dst:=some 35,op:=Go.Op.pick (Go.Operand.tmp 32) (Go.Operand.tmp 34) (Go.Operand.const (Go.Value.bool false)),type:=4,pos:=_,after:=_,guard:=none }) (v:=?_) rfl (by kernel_rfl) (by kernel_rfl) (by kernel_rfl) (by kernel_rfl) (fun _ _ _ h=>h) (Or.inl ⟨by rfl,?_⟩) (by assumption) ?_;rotate_left
 ·intro w hSw;(try dsimp only at hSw);(try obtain⟨s0,s1,s2,s3,s4,s5,s6⟩:=hSw);(first|(go_simp;done)|(go_simp;with_reducible rfl))
 try simp only [pkA]
 refine z06 (i:=15) (oi:={ dst:=some 36,op:=Go.Op.move (Go.Operand.tmp 35),type:=4,pos:=_,after:=_,guard:=none }) (v:=?_) rfl (by kernel_rfl) (by kernel_rfl) (by kernel_rfl) (by kernel_rfl) (fun _ _ _ h=>h) (Or.inl ⟨by rfl,?_⟩) (by assumption) ?_;rotate_left
 ·intro w hSw;(try dsimp only at hSw);(try obtain⟨s0,s1,s2,s3,s4,s5,s6⟩:=hSw);(first|(go_simp;done)|(go_simp;with_reducible rfl))
 try simp only [pkA]
 refine z06 (i:=16) (oi:={ dst:=some 37,op:=Go.Op.fieldAddr 26 (Go.Operand.tmp 4) 2,type:=0,pos:=_,after:=_,guard:=some (15,true) }) (v:=?_) rfl (by kernel_rfl) (by kernel_rfl) (by kernel_rfl) (by kernel_rfl) (fun _ _ _ h=>h) (Or.inl ⟨by rfl,?_⟩) (by assumption) ?_;rotate_left
 ·intro w hSw;(try dsimp only at hSw);(try obtain⟨s0,s1,s2,s3,s4,s5,s6⟩:=hSw);(first|(go_simp;done)|(go_simp;with_reducible rfl))
 try simp only [pkA]
 refine z06 (i:=17) (oi:={ dst:=some 38,op:=Go.Op.load 9 (Go.Operand.tmp 37),type:=9,pos:=_,after:=_,guard:=some (15,true) }) (v:=?_) rfl (by kernel_rfl) (by kernel_rfl) (by kernel_rfl) (by kernel_rfl) (fun _ _ _ h=>h) (Or.inl ⟨by rfl,?_⟩) (by assumption) ?_;rotate_left
 ·intro w hSw;(try dsimp only at hSw);(try obtain⟨s0,s1,s2,s3,s4,s5,s6⟩:=hSw);(first|(go_simp;done)|(go_simp;with_reducible rfl))
 try simp only [pkA]
 refine z06 (i:=18) (oi:={ dst:=some 39,op:=Go.Op.binOp Go.BinOp.eql 9 (Go.Operand.tmp 38) (Go.Operand.const (Go.Value.string { data:=#[97,98] })) 9,type:=4,pos:=_,after:=_,guard:=some (15,true) }) (v:=?_) rfl (by kernel_rfl) (by kernel_rfl) (by kernel_rfl) (by kernel_rfl) (fun _ _ _ h=>h) (Or.inl ⟨by rfl,?_⟩) (by assumption) ?_;rotate_left
 ·intro w hSw;(try dsimp only at hSw);(try obtain⟨s0,s1,s2,s3,s4,s5,s6⟩:=hSw);(first|(go_simp;done)|(go_simp;with_reducible rfl))
 try simp only [pkA]
 refine z06 (i:=19) (oi:={ dst:=some 40,op:=Go.Op.pick (Go.Operand.tmp 36) (Go.Operand.tmp 39) (Go.Operand.const (Go.Value.bool false)),type:=4,pos:=_,after:=_,guard:=none }) (v:=?_) rfl (by kernel_rfl) (by kernel_rfl) (by kernel_rfl) (by kernel_rfl) (fun _ _ _ h=>h) (Or.inl ⟨by rfl,?_⟩) (by assumption) ?_;rotate_left
 ·intro w hSw;(try dsimp only at hSw);(try obtain⟨s0,s1,s2,s3,s4,s5,s6⟩:=hSw);(first|(go_simp;done)|(go_simp;with_reducible rfl))
 try simp only [pkA]
 refine z06 (i:=20) (oi:={ dst:=some 41,op:=Go.Op.move (Go.Operand.tmp 40),type:=4,pos:=_,after:=_,guard:=none }) (v:=?_) rfl (by kernel_rfl) (by kernel_rfl) (by kernel_rfl) (by kernel_rfl) (fun _ _ _ h=>h) (Or.inl ⟨by rfl,?_⟩) (by assumption) ?_;rotate_left
 ·intro w hSw;(try dsimp only at hSw);(try obtain⟨s0,s1,s2,s3,s4,s5,s6⟩:=hSw);(first|(go_simp;done)|(go_simp;with_reducible rfl))
 try simp only [pkA]
 refine z06 (i:=21) (oi:={ dst:=some 42,op:=Go.Op.move (Go.Operand.tmp 5),type:=3,pos:=_,after:=_,guard:=some (20,true) }) (v:=?_) rfl (by kernel_rfl) (by kernel_rfl) (by kernel_rfl) (by kernel_rfl) (fun _ _ _ h=>h) (Or.inl ⟨by rfl,?_⟩) (by assumption) ?_;rotate_left
 ·intro w hSw;(try dsimp only at hSw);(try obtain⟨s0,s1,s2,s3,s4,s5,s6⟩:=hSw);(first|(go_simp;done)|(go_simp;with_reducible rfl))
 try simp only [pkA]
 refine z06 (i:=22) (oi:={ dst:=some 43,op:=Go.Op.binOp Go.BinOp.eql 3 (Go.Operand.tmp 42) (Go.Operand.const (Go.Value.int Go.IntKind.i64 48)) 3,type:=4,pos:=_,after:=_,guard:=some (20,true) }) (v:=?_) rfl (by kernel_rfl) (by kernel_rfl) (by kernel_rfl) (by kernel_rfl) (fun _ _ _ h=>h) (Or.inl ⟨by rfl,?_⟩) (by assumption) ?_;rotate_left
 ·intro w hSw;(try dsimp only at hSw);(try obtain⟨s0,s1,s2,s3,s4,s5,s6⟩:=hSw);(first|(go_simp;done)|(go_simp;with_reducible rfl))
 try simp only [pkA]
 refine z06 (i:=23) (oi:={ dst:=some 44,op:=Go.Op.pick (Go.Operand.tmp 41) (Go.Operand.tmp 43) (Go.Operand.const (Go.Value.bool false)),type:=4,pos:=_,after:=_,guard:=none }) (v:=?_) rfl (by kernel_rfl) (by kernel_rfl) (by kernel_rfl) (by kernel_rfl) (fun _ _ _ h=>h) (Or.inl ⟨by rfl,?_⟩) (by assumption) ?_;rotate_left
 ·intro w hSw;(try dsimp only at hSw);(try obtain⟨s0,s1,s2,s3,s4,s5,s6⟩:=hSw);(first|(go_simp;done)|(go_simp;with_reducible rfl))
 try simp only [pkA]
 refine z06 (i:=24) (oi:={ dst:=some 45,op:=Go.Op.move (Go.Operand.tmp 44),type:=4,pos:=_,after:=_,guard:=none }) (v:=?_) rfl (by kernel_rfl) (by kernel_rfl) (by kernel_rfl) (by kernel_rfl) (fun _ _ _ h=>h) (Or.inl ⟨by rfl,?_⟩) (by assumption) ?_;rotate_left
 ·intro w hSw;(try dsimp only at hSw);(try obtain⟨s0,s1,s2,s3,s4,s5,s6⟩:=hSw);(first|(go_simp;done)|(go_simp;with_reducible rfl))
 try simp only [pkA]
 refine z06 (i:=25) (oi:={ dst:=some 46,op:=Go.Op.move (Go.Operand.tmp 6),type:=29,pos:=_,after:=_,guard:=some (24,true) }) (v:=?_) rfl (by kernel_rfl) (by kernel_rfl) (by kernel_rfl) (by kernel_rfl) (fun _ _ _ h=>h) (Or.inl ⟨by rfl,?_⟩) (by assumption) ?_;rotate_left
 ·intro w hSw;(try dsimp only at hSw);(try obtain⟨s0,s1,s2,s3,s4,s5,s6⟩:=hSw);(first|(go_simp;done)|(go_simp;with_reducible rfl))
 try simp only [pkA]
 refine z06 (i:=26) (oi:={ dst:=some 47,op:=Go.Op.binOp Go.BinOp.eql 29 (Go.Operand.tmp 46) (Go.Operand.const (Go.Value.int Go.IntKind.i64 0)) 29,type:=4,pos:=_,after:=_,guard:=some (24,true) }) (v:=?_) rfl (by kernel_rfl) (by kernel_rfl) (by kernel_rfl) (by kernel_rfl) (fun _ _ _ h=>h) (Or.inl ⟨by rfl,?_⟩) (by assumption) ?_;rotate_left
 ·intro w hSw;(try dsimp only at hSw);(try obtain⟨s0,s1,s2,s3,s4,s5,s6⟩:=hSw);(first|(go_simp;done)|(go_simp;with_reducible rfl))
 try simp only [pkA]
 refine z06 (i:=27) (oi:={ dst:=some 48,op:=Go.Op.pick (Go.Operand.tmp 45) (Go.Operand.tmp 47) (Go.Operand.const (Go.Value.bool false)),type:=4,pos:=_,after:=_,guard:=none }) (v:=?_) rfl (by kernel_rfl) (by kernel_rfl) (by kernel_rfl) (by kernel_rfl) (fun _ _ _ h=>h) (Or.inl ⟨by rfl,?_⟩) (by assumption) ?_;rotate_left
 ·intro w hSw;(try dsimp only at hSw);(try obtain⟨s0,s1,s2,s3,s4,s5,s6⟩:=hSw);(first|(go_simp;done)|(go_simp;with_reducible rfl))
 try simp only [pkA]
 refine z06 (i:=28) (oi:={ dst:=some 49,op:=Go.Op.move (Go.Operand.tmp 48),type:=4,pos:=_,after:=_,guard:=none }) (v:=?_) rfl (by kernel_rfl) (by kernel_rfl) (by kernel_rfl) (by kernel_rfl) (fun _ _ _ h=>h) (Or.inl ⟨by rfl,?_⟩) (by assumption) ?_;rotate_left
 ·intro w hSw;(try dsimp only at hSw);(try obtain⟨s0,s1,s2,s3,s4,s5,s6⟩:=hSw);(first|(go_simp;done)|(go_simp;with_reducible rfl))
 try simp only [pkA]
 refine z06 (i:=29) (oi:={ dst:=some 50,op:=Go.Op.load 26 (Go.Operand.tmp 4),type:=26,pos:=_,after:=_,guard:=some (28,true) }) (v:=?_) rfl (by kernel_rfl) (by kernel_rfl) (by kernel_rfl) (by kernel_rfl) (fun _ _ _ h=>h) (Or.inl ⟨by rfl,?_⟩) (by assumption) ?_;rotate_left
 ·intro w hSw;(try dsimp only at hSw);(try obtain⟨s0,s1,s2,s3,s4,s5,s6⟩:=hSw);(first|(go_simp;done)|(go_simp;with_reducible rfl))
 try simp only [pkA]
 refine z5i (i:=30) (o:={ dst:=some 51,op:=Go.Op.call { callee:=Go.Callee.value (Go.Operand.func 17),args:=#[Go.Operand.const (Go.Value.slice none 0 0)],argTypes:=#[22] },type:=24,pos:=_,after:=_,guard:=some (28,true) }) (by kernel_rfl) rfl (by decide) (fun K hK=>?_);go_simp;(go_at_call 17;refine(HDO.out _).mono ?_;rintro e w8 ⟨⟨k8,n8,s8,A8,l8,c8⟩,rfl,hv8,hc8⟩;have HV8:=kf hv8;have HC8:=kf ((Chg.refl NoS W6).drew.trans hc8 (fun _ _ e=>e));unfold VC.val;simp only [];clear hv8 hc8)
 refine hK.out _ _ (HHE.out _ HC8.out) (fun hHeld=>?_);clear hK K;try simp only [pkA]
 refine z5i (i:=31) (o:={ dst:=some 52,op:=Go.Op.call { callee:=Go.Callee.value (Go.Operand.func 11),args:=#[Go.Operand.tmp 51,Go.Operand.const (Go.Value.string { data:=#[97,98] })],argTypes:=#[24,9] },type:=26,pos:=_,after:=_,guard:=some (28,true) }) (by kernel_rfl) rfl (by decide) (fun K hK=>?_);go_simp;(go_at_call 11;rw [<- HD5.out];refine(HST.out _ k8 n8 s8 A8 l8 c8).mono ?_;rintro e w9 ⟨rfl,hc9⟩;have HC9:=kf (HC8.out.trans hc9 (fun _ _ e=>e));have HV9:=kf (HV8.out.chg hc9);clear hc9)
 refine hK.out _ _ (HHE.out _ HC9.out) (fun hHeld=>?_);clear hK K;try simp only [pkA]
 refine z5i (i:=32) (o:={ dst:=some 53,op:=Go.Op.call { callee:=Go.Callee.value (Go.Operand.func 9),args:=#[Go.Operand.tmp 50,Go.Operand.tmp 52],argTypes:=#[26,26] },type:=4,pos:=_,after:=_,guard:=some (28,true) }) (by kernel_rfl) rfl (by decide) (fun K hK=>?_);go_simp;(go_at_call 9;refine(HSA.out _ k8 n8 s8 A8 l8 c8 HC9.out HV9.out).mono ?_;rintro e w10 ⟨rfl,hc10⟩;have HCX:=kf (HC9.out.trans hc10 (fun _ _ e=>e));clear hc10)
 refine hK.out _ _ (HHE.out _ HCX.out) (fun hHeld=>?_);clear hK K;try simp only [pkA]
 refine z06 (i:=33) (oi:={ dst:=some 54,op:=Go.Op.pick (Go.Operand.tmp 49) (Go.Operand.tmp 53) (Go.Operand.const (Go.Value.bool false)),type:=4,pos:=_,after:=_,guard:=none }) (v:=?_) rfl (by kernel_rfl) (by kernel_rfl) (by kernel_rfl) (by kernel_rfl) (fun _ _ _ h=>h) (Or.inl ⟨by rfl,?_⟩) (by assumption) ?_;rotate_left
 ·intro w hSw;(try dsimp only at hSw);(try obtain⟨s0,s1,s2,s3,s4,s5,s6⟩:=hSw);(first|(go_simp;done)|(go_simp;with_reducible rfl))
 try simp only [pkA]
 refine z60 (o:={ dst:=some 0,op:=Go.Op.assign (Go.Operand.tmp 54),type:=4,pos:=_,after:=_,guard:=none }) (by kernel_rfl) rfl (by kernel_rfl) (fun K hK=>?_);go_simp;refine hK.out _ _ ?_;clear hK K;try simp only [pkA]
 go_wp2_with fail;go_ret;exact⟨rfl,HC6.out.trans HCX.out (fun _ _ e=>e)⟩
theorem y8c (t u:VT) (k m:Int) (s:ByteArray) (A:Option Addr) (l c:Nat) (k' m':Int) (s':ByteArray) (A':Option Addr) (l' c':Nat) (st st':Bool) (d d':ByteArray) (w:World) (hv:ValIs w t ⟨k,m,s,A,l,c⟩) (hv':ValIs w u ⟨k',m',s',A',l',c'⟩) (hd:d.size<=maxLen) (hd':d'.size<=maxLen) (hL:LibOk w) :
  Calls Tryz.prog 3 #[z1u ⟨k,m,s,A,l,c⟩ st d,z1u ⟨k',m',s',A',l',c'⟩ st' d'] w fun e w'=>e=.returned (.bool true)/\Chg NoS w w':=by
 have HFA:=kf (fun V (h:Chg NoS w V)=>z7w t k m s A l c st d V (hv.chg h) hd);have HFB:=kf (fun V (h:Chg NoS w V)=>z7w u k' m' s' A' l' c' st' d' V (hv'.chg h) hd');have HW:=kf (fun V (h:Chg NoS w V)=>y15 V (hL.chg h));have HCF:=kf (fun(hf:v18 t d.size=true) V (h:Chg NoS w V)=>v19 t k m s A l c st d V (hv.chg h) (by have:=(z4w hf).1;omega) (by have:=(z4w hf).2;omega));have HCR:=kf (fun(hf:v18 t d.size=true) V (h:Chg NoS w V)=>y47 t k m s A l c st d V (hv.chg h) (by have:=(z4w hf).1;omega) (by have:=(z4w hf).2;omega));have HSF:=kf (fun V (h:Chg NoS w V)=>y7g t u k m s A l c k' m' s' A' l' c' st st' d d' V (hv.chg h) (hv'.chg h));have HSR:=kf (fun V (h:Chg NoS w V)=>y1a t u k m s A l c k' m' s' A' l' c' st st' d d' V (hv.chg h) (hv'.chg h));have HOB:=kf (fun V=>z47 k m s A l c V);have HOS:=kf (fun V (h:Chg NoS w V)=>z3d t k m s A l c k m s A l c false ⟨#[]⟩ V (hv.chg h) (hv.chg h));have HST:=kf (fun V=>z45 k m s d A l c V);have HSS:=kf (fun V (h:Chg NoS w V)=>z3d t k m s A l c k m s A l c true d V (hv.chg h) (hv.chg h));obtain⟨x,hx⟩:∃ x,x=(decide (z36 t u=0)&&((st==st')&&(d.toList==d'.toList))):=⟨_,rfl⟩
 rw [<- hx] at HSF HSR;obtain⟨z,hz⟩:∃ z,z=v8f t st d.size:=⟨_,rfl⟩
 rw [<- hz] at HCF HCR;obtain⟨fa,hfa⟩:∃ b,b=v18 t d.size:=⟨_,rfl⟩
 rw [<- hfa] at HFA HCF HCR;obtain⟨fb,hfb⟩:∃ b,b=v18 u d'.size:=⟨_,rfl⟩
 rw [<- hfb] at HFB;have HA:=kf ((Blk.new w 26 (obA ⟨k,m,s,A,l,c⟩ st d)).alloc (.cells (obA ⟨k',m',s',A',l',c'⟩ st' d') 26));have hb2:=Blk.new (w.alloc (.cells (obA ⟨k,m,s,A,l,c⟩ st d) 26)) 26 (obA ⟨k',m',s',A',l',c'⟩ st' d');rw [World.size_alloc] at hb2;have HB:=kf hb2;have HC:=kf (((Chg.refl NoS w).alloc (.cells (obA ⟨k,m,s,A,l,c⟩ st d) 26)).alloc (.cells (obA ⟨k',m',s',A',l',c'⟩ st' d') 26));obtain⟨W1,hW1⟩:∃ W1,W1=(w.alloc (.cells (obA ⟨k,m,s,A,l,c⟩ st d) 26)).alloc (.cells (obA ⟨k',m',s',A',l',c'⟩ st' d') 26):=⟨_,rfl⟩
 obtain⟨gb,hgb⟩:∃ g,g=w.heap.size+1:=⟨_,rfl⟩
 obtain⟨ga,hga⟩:∃ g,g=w.heap.size:=⟨_,rfl⟩
 rw [<- hW1] at HA HB HC;rw [<- hga] at HA;rw [<- hgb] at HB;unfold z1u at HFA HFB HCF HCR HSF HSR HOB HOS HST HSS ⊢;unfold obA at HFA HFB HCF HCR HSF HSR HOB HOS HST HSS HA HB hW1 ⊢;simp only [] at HFA HFB HCF HCR HSF HSR HOB HOS HST HSS HA HB hW1 ⊢;clear hv hv' hd hd' hL hb2 hx hz hfa hfb;cases fa with
 |false =>
  clear HCF HCR HSF HSR HOB HOS HST HSS HFB;go_enter Tryz.func3,Tryz.ntmps3;go_upto_region 1 with fail;rw [<- hga];try rw [show ga+1=gb from by omega]
  rw [<- hW1];clear hga hgb hW1;obtain⟨q0,q1,q2,q3,q4,q5,_,_,_,_,_,_⟩:=HA.out.cl6
  go_wp2_with (first
   |(go_at_call 4;((with_reducible refine(HFA.out _ HC.out).mono ?_));rintro e w2 ⟨rfl,h2⟩;have HC2:=kf (HC.out.trans h2 (fun _ _ e=>e));have HA2:=kf (HA.out.chg h2 (fun e=>e));have HB2:=kf (HB.out.chg h2 (fun e=>e));clear h2;obtain⟨p0,p1,p2,p3,p4,p5,_,_,_,_,_,_⟩:=HB2.out.cl6)
   |(go_at_call 5;refine(HW.out _ HC2.out).mono ?_;rintro e wx ⟨rfl,hcx⟩;have HCX:=kf (HC2.out.trans hcx (fun _ _ e=>e));clear hcx))
  go_ret;exact⟨rfl,HCX.out⟩
 |true =>
 have HCF2:=kf (fun V h=>HCF.out rfl V h);have HCR2:=kf (fun V h=>HCR.out rfl V h);cases fb with
 |false =>
  clear HCF HCR HSF HSR HOB HOS HST HSS;go_enter Tryz.func3,Tryz.ntmps3;go_upto_region 1 with fail;rw [<- hga];try rw [show ga+1=gb from by omega]
  rw [<- hW1];clear hga hgb hW1;obtain⟨q0,q1,q2,q3,q4,q5,_,_,_,_,_,_⟩:=HA.out.cl6
  go_wp2_with (first
   |(go_at_call 4;((with_reducible refine(HFB.out _ HC2.out).mono ?_));rintro e w3 ⟨rfl,h3⟩;have HC3:=kf (HC2.out.trans h3 (fun _ _ e=>e));have HA3:=kf (HA2.out.chg h3 (fun e=>e));have HB3:=kf (HB2.out.chg h3 (fun e=>e));clear h3)
   |(go_at_call 4;((with_reducible refine(HFA.out _ HC.out).mono ?_));rintro e w2 ⟨rfl,h2⟩;have HC2:=kf (HC.out.trans h2 (fun _ _ e=>e));have HA2:=kf (HA.out.chg h2 (fun e=>e));have HB2:=kf (HB.out.chg h2 (fun e=>e));clear h2;obtain⟨p0,p1,p2,p3,p4,p5,_,_,_,_,_,_⟩:=HB2.out.cl6)
   |(go_at_call 5;refine(HW.out _ HC3.out).mono ?_;rintro e wx ⟨rfl,hcx⟩;have HCX:=kf (HC3.out.trans hcx (fun _ _ e=>e));clear hcx))
  go_ret;exact⟨rfl,HCX.out⟩
 |true =>
 go_enter Tryz.func3,Tryz.ntmps3;go_upto_region 1 with fail;rw [<- hga];try rw [show ga+1=gb from by omega]
 rw [<- hW1];clear hga hgb hW1;obtain⟨q0,q1,q2,q3,q4,q5,_,_,_,_,_,_⟩:=HA.out.cl6
 go_upto_region 3 with(first
  |(go_at_call 4;((with_reducible refine(HFB.out _ HC2.out).mono ?_));rintro e w3 ⟨rfl,h3⟩;have HC3:=kf (HC2.out.trans h3 (fun _ _ e=>e));have HA3:=kf (HA2.out.chg h3 (fun e=>e));have HB3:=kf (HB2.out.chg h3 (fun e=>e));clear h3)
  |(go_at_call 4;((with_reducible refine(HFA.out _ HC.out).mono ?_));rintro e w2 ⟨rfl,h2⟩;have HC2:=kf (HC.out.trans h2 (fun _ _ e=>e));have HA2:=kf (HA.out.chg h2 (fun e=>e));have HB2:=kf (HB.out.chg h2 (fun e=>e));clear h2;obtain⟨p0,p1,p2,p3,p4,p5,_,_,_,_,_,_⟩:=HB2.out.cl6))
 clear q0 q1 q2 q3 q4 q5 p0 p1 p2 p3 p4 p5 HA HB HC HA2 HB2 HC2;obtain⟨W7,hW7⟩:∃ W,W=w3:=⟨_,rfl⟩
 rw [<- hW7] at HC3 HA3 HB3 ⊢;have HC7:=kf HC3.out
 have HHE:=kf (fun V (hV:Chg NoS W7 V)=>(show V.cell? ⟨ga,0,none⟩=some (.int .i64 k)/\V.cell? ⟨ga,1,none⟩=some (.int .i64 m)/\V.cell? ⟨ga,2,none⟩=some (.string s)/\V.cell? ⟨ga,3,none⟩=some (.slice A l c)/\V.cell? ⟨ga,4,none⟩=some (.bool st)/\V.cell? ⟨ga,5,none⟩=some (.string d)/\V.cell? ⟨gb,0,none⟩=some (.int .i64 k')/\V.cell? ⟨gb,1,none⟩=some (.int .i64 m')/\V.cell? ⟨gb,2,none⟩=some (.string s')/\V.cell? ⟨gb,3,none⟩=some (.slice A' l' c')/\V.cell? ⟨gb,4,none⟩=some (.bool st')/\V.cell? ⟨gb,5,none⟩=some (.string d') from
  ⟨(HA3.out.chg hV (fun e=>e)).cl6.c0,(HA3.out.chg hV (fun e=>e)).cl6.c1,(HA3.out.chg hV (fun e=>e)).cl6.c2,(HA3.out.chg hV (fun e=>e)).cl6.c3,(HA3.out.chg hV (fun e=>e)).cl6.c4,(HA3.out.chg hV (fun e=>e)).cl6.c5,(HB3.out.chg hV (fun e=>e)).cl6.c0,(HB3.out.chg hV (fun e=>e)).cl6.c1,(HB3.out.chg hV (fun e=>e)).cl6.c2,(HB3.out.chg hV (fun e=>e)).cl6.c3,(HB3.out.chg hV (fun e=>e)).cl6.c4,(HB3.out.chg hV (fun e=>e)).cl6.c5⟩))
 clear hW7 HC3 HFA HFB;refine wp_region_held_drew (S:=fun V=>V.cell? ⟨ga,0,none⟩=some (.int .i64 k)/\V.cell? ⟨ga,1,none⟩=some (.int .i64 m)/\V.cell? ⟨ga,2,none⟩=some (.string s)/\V.cell? ⟨ga,3,none⟩=some (.slice A l c)/\V.cell? ⟨ga,4,none⟩=some (.bool st)/\V.cell? ⟨ga,5,none⟩=some (.string d)/\V.cell? ⟨gb,0,none⟩=some (.int .i64 k')/\V.cell? ⟨gb,1,none⟩=some (.int .i64 m')/\V.cell? ⟨gb,2,none⟩=some (.string s')/\V.cell? ⟨gb,3,none⟩=some (.slice A' l' c')/\V.cell? ⟨gb,4,none⟩=some (.bool st')/\V.cell? ⟨gb,5,none⟩=some (.string d')) (by kernel_rfl) (HHE.out _ ((Chg.refl NoS W7).drew)) (fun hHeld=>?_);refine wpAnyH_take (i:=0) (oi:={ dst:=some 14,op:=Go.Op.load 26 (Go.Operand.tmp 2),type:=26,pos:=_,after:=_,guard:=none }) (v:=?_) rfl (by kernel_rfl) (by kernel_rfl) (by kernel_rfl) (fun _ _ _ h=>h) (Or.inl ⟨by rfl,?_⟩) (by assumption) ?_;rotate_left
 ·intro w hSw;(try dsimp only at hSw);(try obtain⟨s0,s1,s2,s3,s4,s5,s6,s7,s8,s9,s10,s11⟩:=hSw);(first|(go_simp;done)|(go_simp;with_reducible rfl))
 try simp only [pkA]
 refine wpAnyH_take (i:=2) (oi:={ dst:=some 16,op:=Go.Op.load 26 (Go.Operand.tmp 2),type:=26,pos:=_,after:=_,guard:=none }) (v:=?_) rfl (by kernel_rfl) (by kernel_rfl) (by kernel_rfl) (fun _ _ _ h=>h) (Or.inl ⟨by rfl,?_⟩) (by assumption) ?_;rotate_left
 ·intro w hSw;(try dsimp only at hSw);(try obtain⟨s0,s1,s2,s3,s4,s5,s6,s7,s8,s9,s10,s11⟩:=hSw);(first|(go_simp;done)|(go_simp;with_reducible rfl))
 try simp only [pkA]
 refine wpAnyH_ready (rs:=[1]) (by kernel_rfl) (by simp) ?_;refine AllReadyH.cons (o:={ dst:=some 15,op:=Go.Op.call { callee:=Go.Callee.value (Go.Operand.func 6),args:=#[Go.Operand.tmp 14],argTypes:=#[26] },type:=29,pos:=_,after:=_,guard:=none }) rfl (fun K hK=>?_) AllReadyH.nil;go_simp;(go_at_call 6;refine(HCF2.out _ (HC7.out.trans ((Chg.refl NoS W7).drew) (fun _ _ e=>e))).mono ?_;rintro e y0 ⟨rfl,hy0⟩;have HY0:=kf (Chg.trans ((Chg.refl NoS W7).drew) hy0 (fun _ _ e=>e));clear hy0)
 refine hK.out _ _ (HHE.out _ HY0.out) (fun hHeld=>?_);clear hK K;try simp only [pkA]
 refine wpAnyH_ready (rs:=[3]) (by kernel_rfl) (by simp) ?_;refine AllReadyH.cons (o:={ dst:=some 17,op:=Go.Op.call { callee:=Go.Callee.value (Go.Operand.func 7),args:=#[Go.Operand.tmp 16],argTypes:=#[26] },type:=3,pos:=_,after:=_,guard:=none }) rfl (fun K hK=>?_) AllReadyH.nil;go_simp;(go_at_call 7;refine(HCR2.out _ (HC7.out.trans HY0.out (fun _ _ e=>e))).mono ?_;rintro e y1 ⟨rfl,hy1⟩;have HY1:=kf (Chg.trans HY0.out hy1 (fun _ _ e=>e));clear hy1)
 refine hK.out _ _ (HHE.out _ HY1.out) (fun hHeld=>?_);clear hK K;try simp only [pkA]
 refine wpAnyH_take (i:=4) (oi:={ dst:=some 18,op:=Go.Op.binOp Go.BinOp.eql 3 (Go.Operand.tmp 15) (Go.Operand.tmp 17) 3,type:=4,pos:=_,after:=_,guard:=none }) (v:=?_) rfl (by kernel_rfl) (by kernel_rfl) (by kernel_rfl) (fun _ _ _ h=>h) (Or.inl ⟨by rfl,?_⟩) (by assumption) ?_;rotate_left
 ·intro w hSw;(try dsimp only at hSw);(try obtain⟨s0,s1,s2,s3,s4,s5,s6,s7,s8,s9,s10,s11⟩:=hSw);(first|(go_simp;done)|(go_simp;with_reducible rfl))
 try simp only [pkA]
 refine wpAnyH_take (i:=5) (oi:={ dst:=some 19,op:=Go.Op.move (Go.Operand.tmp 18),type:=4,pos:=_,after:=_,guard:=none }) (v:=?_) rfl (by kernel_rfl) (by kernel_rfl) (by kernel_rfl) (fun _ _ _ h=>h) (Or.inl ⟨by rfl,?_⟩) (by assumption) ?_;rotate_left
 ·intro w hSw;(try dsimp only at hSw);(try obtain⟨s0,s1,s2,s3,s4,s5,s6,s7,s8,s9,s10,s11⟩:=hSw);(first|(go_simp;done)|(go_simp;with_reducible rfl))
 try simp only [pkA]
 refine wpAnyH_take (i:=6) (oi:={ dst:=some 20,op:=Go.Op.load 26 (Go.Operand.tmp 2),type:=26,pos:=_,after:=_,guard:=some (5,true) }) (v:=?_) rfl (by kernel_rfl) (by kernel_rfl) (by kernel_rfl) (fun _ _ _ h=>h) (Or.inl ⟨by rfl,?_⟩) (by assumption) ?_;rotate_left
 ·intro w hSw;(try dsimp only at hSw);(try obtain⟨s0,s1,s2,s3,s4,s5,s6,s7,s8,s9,s10,s11⟩:=hSw);(first|(go_simp;done)|(go_simp;with_reducible rfl))
 try simp only [pkA]
 refine wpAnyH_take (i:=7) (oi:={ dst:=some 21,op:=Go.Op.load 26 (Go.Operand.tmp 3),type:=26,pos:=_,after:=_,guard:=some (5,true) }) (v:=?_) rfl (by kernel_rfl) (by kernel_rfl) (by kernel_rfl) (fun _ _ _ h=>h) (Or.inl ⟨by rfl,?_⟩) (by assumption) ?_;rotate_left
 ·intro w hSw;(try dsimp only at hSw);(try obtain⟨s0,s1,s2,s3,s4,s5,s6,s7,s8,s9,s10,s11⟩:=hSw);(first|(go_simp;done)|(go_simp;with_reducible rfl))
 try simp only [pkA]
 refine wpAnyH_take (i:=9) (oi:={ dst:=some 23,op:=Go.Op.load 26 (Go.Operand.tmp 2),type:=26,pos:=_,after:=_,guard:=some (5,true) }) (v:=?_) rfl (by kernel_rfl) (by kernel_rfl) (by kernel_rfl) (fun _ _ _ h=>h) (Or.inl ⟨by rfl,?_⟩) (by assumption) ?_;rotate_left
 ·intro w hSw;(try dsimp only at hSw);(try obtain⟨s0,s1,s2,s3,s4,s5,s6,s7,s8,s9,s10,s11⟩:=hSw);(first|(go_simp;done)|(go_simp;with_reducible rfl))
 try simp only [pkA]
 refine wpAnyH_take (i:=10) (oi:={ dst:=some 24,op:=Go.Op.load 26 (Go.Operand.tmp 3),type:=26,pos:=_,after:=_,guard:=some (5,true) }) (v:=?_) rfl (by kernel_rfl) (by kernel_rfl) (by kernel_rfl) (fun _ _ _ h=>h) (Or.inl ⟨by rfl,?_⟩) (by assumption) ?_;rotate_left
 ·intro w hSw;(try dsimp only at hSw);(try obtain⟨s0,s1,s2,s3,s4,s5,s6,s7,s8,s9,s10,s11⟩:=hSw);(first|(go_simp;done)|(go_simp;with_reducible rfl))
 try simp only [pkA]
 refine wpAnyH_ready (rs:=[8]) (by kernel_rfl) (by simp) ?_;refine AllReadyH.cons (o:={ dst:=some 22,op:=Go.Op.call { callee:=Go.Callee.value (Go.Operand.func 8),args:=#[Go.Operand.tmp 20,Go.Operand.tmp 21],argTypes:=#[26,26] },type:=4,pos:=_,after:=_,guard:=some (5,true) }) rfl (fun K hK=>?_) AllReadyH.nil;go_simp;(go_at_call 8;refine(HSF.out _ (HC7.out.trans HY1.out (fun _ _ e=>e))).mono ?_;rintro e y2 ⟨rfl,hy2⟩;have HY2:=kf (Chg.trans HY1.out hy2 (fun _ _ e=>e));clear hy2)
 refine hK.out _ _ (HHE.out _ HY2.out) (fun hHeld=>?_);clear hK K;try simp only [pkA]
 refine wpAnyH_ready (rs:=[11]) (by kernel_rfl) (by simp) ?_;refine AllReadyH.cons (o:={ dst:=some 25,op:=Go.Op.call { callee:=Go.Callee.value (Go.Operand.func 9),args:=#[Go.Operand.tmp 23,Go.Operand.tmp 24],argTypes:=#[26,26] },type:=4,pos:=_,after:=_,guard:=some (5,true) }) rfl (fun K hK=>?_) AllReadyH.nil;go_simp;(go_at_call 9;refine(HSR.out _ (HC7.out.trans HY2.out (fun _ _ e=>e))).mono ?_;rintro e y3 ⟨rfl,hy3⟩;have HY3:=kf (Chg.trans HY2.out hy3 (fun _ _ e=>e));clear hy3)
 refine hK.out _ _ (HHE.out _ HY3.out) (fun hHeld=>?_);clear hK K;try simp only [pkA]
 refine wpAnyH_take (i:=12) (oi:={ dst:=some 26,op:=Go.Op.binOp Go.BinOp.eql 4 (Go.Operand.tmp 22) (Go.Operand.tmp 25) 4,type:=4,pos:=_,after:=_,guard:=some (5,true) }) (v:=?_) rfl (by kernel_rfl) (by kernel_rfl) (by kernel_rfl) (fun _ _ _ h=>h) (Or.inl ⟨by rfl,?_⟩) (by assumption) ?_;rotate_left
 ·intro w hSw;(try dsimp only at hSw);(try obtain⟨s0,s1,s2,s3,s4,s5,s6,s7,s8,s9,s10,s11⟩:=hSw);(first|(go_simp;done)|(go_simp;with_reducible rfl))
 try simp only [pkA]
 refine wpAnyH_take (i:=13) (oi:={ dst:=some 27,op:=Go.Op.pick (Go.Operand.tmp 19) (Go.Operand.tmp 26) (Go.Operand.const (Go.Value.bool false)),type:=4,pos:=_,after:=_,guard:=none }) (v:=?_) rfl (by kernel_rfl) (by kernel_rfl) (by kernel_rfl) (fun _ _ _ h=>h) (Or.inl ⟨by rfl,?_⟩) (by assumption) ?_;rotate_left
 ·intro w hSw;(try dsimp only at hSw);(try obtain⟨s0,s1,s2,s3,s4,s5,s6,s7,s8,s9,s10,s11⟩:=hSw);(first|(go_simp;done)|(go_simp;with_reducible rfl))
 try simp only [pkA]
 refine wpAnyH_take (i:=14) (oi:={ dst:=some 28,op:=Go.Op.move (Go.Operand.tmp 27),type:=4,pos:=_,after:=_,guard:=none }) (v:=?_) rfl (by kernel_rfl) (by kernel_rfl) (by kernel_rfl) (fun _ _ _ h=>h) (Or.inl ⟨by rfl,?_⟩) (by assumption) ?_;rotate_left
 ·intro w hSw;(try dsimp only at hSw);(try obtain⟨s0,s1,s2,s3,s4,s5,s6,s7,s8,s9,s10,s11⟩:=hSw);(first|(go_simp;done)|(go_simp;with_reducible rfl))
 try simp only [pkA]
 refine wpAnyH_take (i:=15) (oi:={ dst:=some 29,op:=Go.Op.fieldAddr 26 (Go.Operand.tmp 2) 0,type:=0,pos:=_,after:=_,guard:=some (14,true) }) (v:=?_) rfl (by kernel_rfl) (by kernel_rfl) (by kernel_rfl) (fun _ _ _ h=>h) (Or.inl ⟨by rfl,?_⟩) (by assumption) ?_;rotate_left
 ·intro w hSw;(try dsimp only at hSw);(try obtain⟨s0,s1,s2,s3,s4,s5,s6,s7,s8,s9,s10,s11⟩:=hSw);(first|(go_simp;done)|(go_simp;with_reducible rfl))
 try simp only [pkA]
 refine wpAnyH_take (i:=16) (oi:={ dst:=some 30,op:=Go.Op.load 24 (Go.Operand.tmp 29),type:=24,pos:=_,after:=_,guard:=some (14,true) }) (v:=?_) rfl (by kernel_rfl) (by kernel_rfl) (by kernel_rfl) (fun _ _ _ h=>h) (Or.inl ⟨by rfl,?_⟩) (by assumption) ?_;rotate_left
 ·intro w hSw;(try dsimp only at hSw);(try obtain⟨s0,s1,s2,s3,s4,s5,s6,s7,s8,s9,s10,s11⟩:=hSw);(first|(go_simp;done)|(go_simp;with_reducible rfl))
 try simp only [pkA]
 refine wpAnyH_take (i:=18) (oi:={ dst:=some 32,op:=Go.Op.fieldAddr 26 (Go.Operand.tmp 2) 0,type:=0,pos:=_,after:=_,guard:=some (14,true) }) (v:=?_) rfl (by kernel_rfl) (by kernel_rfl) (by kernel_rfl) (fun _ _ _ h=>h) (Or.inl ⟨by rfl,?_⟩) (by assumption) ?_;rotate_left
 ·intro w hSw;(try dsimp only at hSw);(try obtain⟨s0,s1,s2,s3,s4,s5,s6,s7,s8,s9,s10,s11⟩:=hSw);(first|(go_simp;done)|(go_simp;with_reducible rfl))
 try simp only [pkA]
 refine wpAnyH_take (i:=19) (oi:={ dst:=some 33,op:=Go.Op.load 24 (Go.Operand.tmp 32),type:=24,pos:=_,after:=_,guard:=some (14,true) }) (v:=?_) rfl (by kernel_rfl) (by kernel_rfl) (by kernel_rfl) (fun _ _ _ h=>h) (Or.inl ⟨by rfl,?_⟩) (by assumption) ?_;rotate_left
 ·intro w hSw;(try dsimp only at hSw);(try obtain⟨s0,s1,s2,s3,s4,s5,s6,s7,s8,s9,s10,s11⟩:=hSw);(first|(go_simp;done)|(go_simp;with_reducible rfl))
 try simp only [pkA]
 refine wpAnyH_take (i:=20) (oi:={ dst:=some 34,op:=Go.Op.build 26 #[(0,Go.Operand.tmp 33)],type:=26,pos:=_,after:=_,guard:=some (14,true) }) (v:=?_) rfl (by kernel_rfl) (by kernel_rfl) (by kernel_rfl) (fun _ _ _ h=>h) (Or.inl ⟨by rfl,?_⟩) (by assumption) ?_;rotate_left
 ·intro w hSw;(try dsimp only at hSw);(try obtain⟨s0,s1,s2,s3,s4,s5,s6,s7,s8,s9,s10,s11⟩:=hSw);(first|(go_simp;done)|(go_simp;with_reducible rfl))
 try simp only [pkA]
 refine wpAnyH_ready (rs:=[17]) (by kernel_rfl) (by simp) ?_;refine AllReadyH.cons (o:={ dst:=some 31,op:=Go.Op.call { callee:=Go.Callee.value (Go.Operand.func 10),args:=#[Go.Operand.tmp 30],argTypes:=#[24] },type:=26,pos:=_,after:=_,guard:=some (14,true) }) rfl (fun K hK=>?_) AllReadyH.nil;go_simp;(go_at_call 10;refine(HOB.out _).mono ?_;rintro e y4 ⟨rfl,hy4⟩;have HY4:=kf (Chg.trans HY3.out hy4 (fun _ _ e=>e));clear hy4)
 refine hK.out _ _ (HHE.out _ HY4.out) (fun hHeld=>?_);clear hK K;try simp only [pkA]
 refine wpAnyH_ready (rs:=[21]) (by kernel_rfl) (by simp) ?_;refine AllReadyH.cons (o:={ dst:=some 35,op:=Go.Op.call { callee:=Go.Callee.value (Go.Operand.func 9),args:=#[Go.Operand.tmp 31,Go.Operand.tmp 34],argTypes:=#[26,26] },type:=4,pos:=_,after:=_,guard:=some (14,true) }) rfl (fun K hK=>?_) AllReadyH.nil;go_simp;(go_at_call 9;refine(HOS.out _ (HC7.out.trans HY4.out (fun _ _ e=>e))).mono ?_;rintro e y5 ⟨rfl,hy5⟩;have HY5:=kf (Chg.trans HY4.out hy5 (fun _ _ e=>e));clear hy5)
 refine hK.out _ _ (HHE.out _ HY5.out) (fun hHeld=>?_);clear hK K;try simp only [pkA]
 refine wpAnyH_take (i:=22) (oi:={ dst:=some 36,op:=Go.Op.pick (Go.Operand.tmp 28) (Go.Operand.tmp 35) (Go.Operand.const (Go.Value.bool false)),type:=4,pos:=_,after:=_,guard:=none }) (v:=?_) rfl (by kernel_rfl) (by kernel_rfl) (by kernel_rfl) (fun _ _ _ h=>h) (Or.inl ⟨by rfl,?_⟩) (by assumption) ?_;rotate_left
 ·intro w hSw;(try dsimp only at hSw);(try obtain⟨s0,s1,s2,s3,s4,s5,s6,s7,s8,s9,s10,s11⟩:=hSw);(first|(go_simp;done)|(go_simp;with_reducible rfl))
 try simp only [pkA]
 refine wpAnyH_take (i:=23) (oi:={ dst:=some 37,op:=Go.Op.move (Go.Operand.tmp 36),type:=4,pos:=_,after:=_,guard:=none }) (v:=?_) rfl (by kernel_rfl) (by kernel_rfl) (by kernel_rfl) (fun _ _ _ h=>h) (Or.inl ⟨by rfl,?_⟩) (by assumption) ?_;rotate_left
 ·intro w hSw;(try dsimp only at hSw);(try obtain⟨s0,s1,s2,s3,s4,s5,s6,s7,s8,s9,s10,s11⟩:=hSw);(first|(go_simp;done)|(go_simp;with_reducible rfl))
 try simp only [pkA]
 refine wpAnyH_take (i:=24) (oi:={ dst:=some 38,op:=Go.Op.fieldAddr 26 (Go.Operand.tmp 2) 0,type:=0,pos:=_,after:=_,guard:=some (23,true) }) (v:=?_) rfl (by kernel_rfl) (by kernel_rfl) (by kernel_rfl) (fun _ _ _ h=>h) (Or.inl ⟨by rfl,?_⟩) (by assumption) ?_;rotate_left
 ·intro w hSw;(try dsimp only at hSw);(try obtain⟨s0,s1,s2,s3,s4,s5,s6,s7,s8,s9,s10,s11⟩:=hSw);(first|(go_simp;done)|(go_simp;with_reducible rfl))
 try simp only [pkA]
 refine wpAnyH_take (i:=25) (oi:={ dst:=some 39,op:=Go.Op.load 24 (Go.Operand.tmp 38),type:=24,pos:=_,after:=_,guard:=some (23,true) }) (v:=?_) rfl (by kernel_rfl) (by kernel_rfl) (by kernel_rfl) (fun _ _ _ h=>h) (Or.inl ⟨by rfl,?_⟩) (by assumption) ?_;rotate_left
 ·intro w hSw;(try dsimp only at hSw);(try obtain⟨s0,s1,s2,s3,s4,s5,s6,s7,s8,s9,s10,s11⟩:=hSw);(first|(go_simp;done)|(go_simp;with_reducible rfl))
 try simp only [pkA]
 refine wpAnyH_take (i:=26) (oi:={ dst:=some 40,op:=Go.Op.fieldAddr 26 (Go.Operand.tmp 2) 2,type:=0,pos:=_,after:=_,guard:=some (23,true) }) (v:=?_) rfl (by kernel_rfl) (by kernel_rfl) (by kernel_rfl) (fun _ _ _ h=>h) (Or.inl ⟨by rfl,?_⟩) (by assumption) ?_;rotate_left
 ·intro w hSw;(try dsimp only at hSw);(try obtain⟨s0,s1,s2,s3,s4,s5,s6,s7,s8,s9,s10,s11⟩:=hSw);(first|(go_simp;done)|(go_simp;with_reducible rfl))
 try simp only [pkA]
 refine wpAnyH_take (i:=27) (oi:={ dst:=some 41,op:=Go.Op.load 9 (Go.Operand.tmp 40),type:=9,pos:=_,after:=_,guard:=some (23,true) }) (v:=?_) rfl (by kernel_rfl) (by kernel_rfl) (by kernel_rfl) (fun _ _ _ h=>h) (Or.inl ⟨by rfl,?_⟩) (by assumption) ?_;rotate_left
 ·intro w hSw;(try dsimp only at hSw);(try obtain⟨s0,s1,s2,s3,s4,s5,s6,s7,s8,s9,s10,s11⟩:=hSw);(first|(go_simp;done)|(go_simp;with_reducible rfl))
 try simp only [pkA]
 refine wpAnyH_take (i:=29) (oi:={ dst:=some 43,op:=Go.Op.fieldAddr 26 (Go.Operand.tmp 2) 0,type:=0,pos:=_,after:=_,guard:=some (23,true) }) (v:=?_) rfl (by kernel_rfl) (by kernel_rfl) (by kernel_rfl) (fun _ _ _ h=>h) (Or.inl ⟨by rfl,?_⟩) (by assumption) ?_;rotate_left
 ·intro w hSw;(try dsimp only at hSw);(try obtain⟨s0,s1,s2,s3,s4,s5,s6,s7,s8,s9,s10,s11⟩:=hSw);(first|(go_simp;done)|(go_simp;with_reducible rfl))
 try simp only [pkA]
 refine wpAnyH_take (i:=30) (oi:={ dst:=some 44,op:=Go.Op.load 24 (Go.Operand.tmp 43),type:=24,pos:=_,after:=_,guard:=some (23,true) }) (v:=?_) rfl (by kernel_rfl) (by kernel_rfl) (by kernel_rfl) (fun _ _ _ h=>h) (Or.inl ⟨by rfl,?_⟩) (by assumption) ?_;rotate_left
 ·intro w hSw;(try dsimp only at hSw);(try obtain⟨s0,s1,s2,s3,s4,s5,s6,s7,s8,s9,s10,s11⟩:=hSw);(first|(go_simp;done)|(go_simp;with_reducible rfl))
 try simp only [pkA]
 refine wpAnyH_take (i:=31) (oi:={ dst:=some 45,op:=Go.Op.fieldAddr 26 (Go.Operand.tmp 2) 2,type:=0,pos:=_,after:=_,guard:=some (23,true) }) (v:=?_) rfl (by kernel_rfl) (by kernel_rfl) (by kernel_rfl) (fun _ _ _ h=>h) (Or.inl ⟨by rfl,?_⟩) (by assumption) ?_;rotate_left
 ·intro w hSw;(try dsimp only at hSw);(try obtain⟨s0,s1,s2,s3,s4,s5,s6,s7,s8,s9,s10,s11⟩:=hSw);(first|(go_simp;done)|(go_simp;with_reducible rfl))
 try simp only [pkA]
 refine wpAnyH_take (i:=32) (oi:={ dst:=some 46,op:=Go.Op.load 9 (Go.Operand.tmp 45),type:=9,pos:=_,after:=_,guard:=some (23,true) }) (v:=?_) rfl (by kernel_rfl) (by kernel_rfl) (by kernel_rfl) (fun _ _ _ h=>h) (Or.inl ⟨by rfl,?_⟩) (by assumption) ?_;rotate_left
 ·intro w hSw;(try dsimp only at hSw);(try obtain⟨s0,s1,s2,s3,s4,s5,s6,s7,s8,s9,s10,s11⟩:=hSw);(first|(go_simp;done)|(go_simp;with_reducible rfl))
 try simp only [pkA]
 refine wpAnyH_take (i:=33) (oi:={ dst:=some 47,op:=Go.Op.build 26 #[(0,Go.Operand.tmp 44),(1,Go.Operand.const (Go.Value.bool true)),(2,Go.Operand.tmp 46)],type:=26,pos:=_,after:=_,guard:=some (23,true) }) (v:=?_) rfl (by kernel_rfl) (by kernel_rfl) (by kernel_rfl) (fun _ _ _ h=>h) (Or.inl ⟨by rfl,?_⟩) (by assumption) ?_;rotate_left
 ·intro w hSw;(try dsimp only at hSw);(try obtain⟨s0,s1,s2,s3,s4,s5,s6,s7,s8,s9,s10,s11⟩:=hSw);(first|(go_simp;done)|(go_simp;with_reducible rfl))
 try simp only [pkA]
 refine wpAnyH_ready (rs:=[28]) (by kernel_rfl) (by simp) ?_;refine AllReadyH.cons (o:={ dst:=some 42,op:=Go.Op.call { callee:=Go.Callee.value (Go.Operand.func 11),args:=#[Go.Operand.tmp 39,Go.Operand.tmp 41],argTypes:=#[24,9] },type:=26,pos:=_,after:=_,guard:=some (23,true) }) rfl (fun K hK=>?_) AllReadyH.nil;go_simp;(go_at_call 11;refine(HST.out _).mono ?_;rintro e y6 ⟨rfl,hy6⟩;have HY6:=kf (Chg.trans HY5.out hy6 (fun _ _ e=>e));clear hy6)
 refine hK.out _ _ (HHE.out _ HY6.out) (fun hHeld=>?_);clear hK K;try simp only [pkA]
 refine wpAnyH_ready (rs:=[34]) (by kernel_rfl) (by simp) ?_;refine AllReadyH.cons (o:={ dst:=some 48,op:=Go.Op.call { callee:=Go.Callee.value (Go.Operand.func 9),args:=#[Go.Operand.tmp 42,Go.Operand.tmp 47],argTypes:=#[26,26] },type:=4,pos:=_,after:=_,guard:=some (23,true) }) rfl (fun K hK=>?_) AllReadyH.nil;go_simp;(go_at_call 9;refine(HSS.out _ (HC7.out.trans HY6.out (fun _ _ e=>e))).mono ?_;rintro e y7 ⟨rfl,hy7⟩;have HY7:=kf (Chg.trans HY6.out hy7 (fun _ _ e=>e));clear hy7)
 refine hK.out _ _ (HHE.out _ HY7.out) (fun hHeld=>?_);clear hK K;try simp only [pkA]
 refine wpAnyH_take (i:=35) (oi:={ dst:=some 49,op:=Go.Op.pick (Go.Operand.tmp 37) (Go.Operand.tmp 48) (Go.Operand.const (Go.Value.bool false)),type:=4,pos:=_,after:=_,guard:=none }) (v:=?_) rfl (by kernel_rfl) (by kernel_rfl) (by kernel_rfl) (fun _ _ _ h=>h) (Or.inl ⟨by rfl,?_⟩) (by assumption) ?_;rotate_left
 ·intro w hSw;(try dsimp only at hSw);(try obtain⟨s0,s1,s2,s3,s4,s5,s6,s7,s8,s9,s10,s11⟩:=hSw);(first|(go_simp;done)|(go_simp;with_reducible rfl))
 try simp only [pkA]
 refine wpAnyH_take (i:=36) (oi:={ dst:=some 50,op:=Go.Op.move (Go.Operand.tmp 49),type:=4,pos:=_,after:=_,guard:=none }) (v:=?_) rfl (by kernel_rfl) (by kernel_rfl) (by kernel_rfl) (fun _ _ _ h=>h) (Or.inl ⟨by rfl,?_⟩) (by assumption) ?_;rotate_left
 ·intro w hSw;(try dsimp only at hSw);(try obtain⟨s0,s1,s2,s3,s4,s5,s6,s7,s8,s9,s10,s11⟩:=hSw);(first|(go_simp;done)|(go_simp;with_reducible rfl))
 try simp only [pkA]
 refine wpAnyH_ready (rs:=[37]) (by kernel_rfl) (by simp) ?_;refine AllReadyH.cons (o:={ dst:=some 51,op:=Go.Op.call { callee:=Go.Callee.value (Go.Operand.func 5),args:=#[],argTypes:=#[] },type:=4,pos:=_,after:=_,guard:=some (36,true) }) rfl (fun K hK=>?_) AllReadyH.nil;go_simp;(go_at_call 5;refine(HW.out _ (HC7.out.trans HY7.out (fun _ _ e=>e))).mono ?_;rintro e y8 ⟨rfl,hy8⟩;have HY8:=kf (Chg.trans HY7.out hy8 (fun _ _ e=>e));clear hy8)
 refine hK.out _ _ (HHE.out _ HY8.out) (fun hHeld=>?_);clear hK K;try simp only [pkA]
 refine wpAnyH_take (i:=38) (oi:={ dst:=some 52,op:=Go.Op.pick (Go.Operand.tmp 50) (Go.Operand.tmp 51) (Go.Operand.const (Go.Value.bool false)),type:=4,pos:=_,after:=_,guard:=none }) (v:=?_) rfl (by kernel_rfl) (by kernel_rfl) (by kernel_rfl) (fun _ _ _ h=>h) (Or.inl ⟨by rfl,?_⟩) (by assumption) ?_;rotate_left
 ·intro w hSw;(try dsimp only at hSw);(try obtain⟨s0,s1,s2,s3,s4,s5,s6,s7,s8,s9,s10,s11⟩:=hSw);(first|(go_simp;done)|(go_simp;with_reducible rfl))
 try simp only [pkA]
 refine wpAnyH_take (i:=39) (oi:={ dst:=some 4,op:=Go.Op.assign (Go.Operand.tmp 52),type:=4,pos:=_,after:=_,guard:=none }) (v:=?_) rfl (by kernel_rfl) (by kernel_rfl) (by kernel_rfl) (fun _ _ _ h=>h) (Or.inl ⟨by rfl,?_⟩) (by assumption) ?_;rotate_left
 ·intro w hSw;(try dsimp only at hSw);(try obtain⟨s0,s1,s2,s3,s4,s5,s6,s7,s8,s9,s10,s11⟩:=hSw);(first|(go_simp;done)|(go_simp;with_reducible rfl))
 try simp only [pkA]
 refine wpAnyH_done (by kernel_rfl) ?_ _;go_wp2_with fail;go_ret;exact⟨by simp,HC7.out.trans HY8.out (fun _ _ e=>e)⟩
end Go.Proofs.YtmibnkddappgiaaGreatDoor
