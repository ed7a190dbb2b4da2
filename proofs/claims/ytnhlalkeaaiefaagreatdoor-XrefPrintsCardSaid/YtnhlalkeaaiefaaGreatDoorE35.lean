import Derived.Test.YtnhlalkeaaiefaaGreatDoorE33
set_option linter.unusedVariables false
set_option maxHeartbeats 64000000
set_option maxRecDepth 100000
set_option linter.unusedSimpArgs false
namespace Go.Proofs.YtnhlalkeaaiefaaGreatDoor
open Go.RowKit
theorem z69 (n:Int) (w:World) (hL:LibOk w) (hn:-2147483647<=n/\n<=2147483647) :
  Calls Tryz.prog 97 #[.int .i64 n] w fun e w'=>e=.returned (.string (sb (z06 n)))/\Chg NoS w w':=by
 have HI:=kf (fun W=>y0d n W)
 have HP:=kf (fun W (h:Chg NoS w W)=>(show Calls Tryz.prog 134 #[.agg #[.int .i64 2,.int .i64 n,.string ⟨#[]⟩,.slice none 0 0]] W fun e w'=>e=.returned (.tuple #[.string (sb (z06 n)),.int .i64 0])/\Chg NoS W w' from(y01 2 n ⟨#[]⟩ none 0 0 W (hL.chg h)).mono (fun e w' h2=>by
  have hc:z05 2 n (ByteArray.mk #[]).size 0=0:=by unfold z05;rw [if_pos ⟨rfl,rfl,.inl ⟨rfl,hn⟩⟩]
  unfold PrTo y02 at h2;rw [if_pos hc,if_pos rfl] at h2;exact h2)))
 obtain⟨S,hS⟩:∃ S,S=sb (z06 n):=⟨_,rfl⟩
 rw [<- hS] at HP ⊢;clear hL hn hS;go_enter Tryz.func97,Tryz.ntmps97
 go_wp2_with (first
  |(go_at_call 135;refine(HI.out _).mono ?_;rintro e w2 ⟨rfl,hc2⟩;have HC2:=kf hc2;clear hc2)
  |(go_at_call 134;refine(HP.out _ HC2.out).mono ?_;rintro e w3 ⟨rfl,hc3⟩;have HC3:=kf (HC2.out.trans hc3 (fun _ _ e=>e));clear hc3))
 go_ret;exact⟨rfl,HC3.out⟩
structure QB (w0:World) (b:Nat) (out:List UInt8) (W:World):Prop where
 buf:LibA.IsBuffer 114 (fun _=>none) 5 w0.heap.size b 0 (Lib.byteCells out) W
 bel:Below w0.heap.size w0 W
theorem QB.call {w0 W W':World} {b:Nat} {out:List UInt8} (h:QB w0 b out W) (hc:Chg NoS W W'):QB w0 b out W' :=
 ⟨h.buf.old hc.no_below,h.bel.trans (hc.below h.bel.size (fun _ _ e=>e))⟩
theorem QB.chg {w0 W:World} {b:Nat} {out:List UInt8} (h:QB w0 b out W):Chg NoS w0 W:=Chg.of_below h.bel
theorem QB.start (w0 W:World) (hc:Chg NoS w0 W):QB w0 W.heap.size [] (W.alloc (.cells #[.slice none 0 0,.int .i64 0,.int .i8 0] 114)) :=
 ⟨LibA.zero_isBuffer hc.size (LibA.three_whole (Blk.new W _ _)),(hc.alloc _).no_below⟩
abbrev KQ (b:Nat) (W W':World):Prop:=Lib.OthersKept 5 (some b) W W'
theorem KQ.blk {b g:Nat} {W W':World} {t:TypeId} {cs:Array Value} (h:KQ b W W') (hb:Blk W g t cs) (hne:g≠b) (ht:t≠5):Blk W' g t cs :=
 h g _ hb (fun e=>hne (Option.some.inj e)) (fun c fz e=>by injection e with _ e2 _;exact ht e2)
theorem KQ.of {b:Nat} {W W':World} (h:Chg NoS W W'):KQ b W W':=fun k o hk _ _=>(h.block k (Array.getElem?_eq_some_iff.1 hk).1 (fun e=>e)).trans hk
theorem KQ.tr {b:Nat} {a c d:World} (h:KQ b a c) (k:KQ b c d):KQ b a d:=Lib.OthersKept.trans h k
theorem QB.ne {w0 W:World} {b:Nat} {out:List UInt8} (h:QB w0 b out W) {g:Nat} {t:TypeId} {cs:Array Value} (hb:Blk W g t cs) (ht:114≠t):g≠b:=by
 intro e;obtain⟨_,v,lr,h3,_⟩:=h.buf;exact absurd (h3.tag (e ▸ hb)) (fun e=>ht e.symm)
theorem z56 {w0 W:World} {b:Nat} {out:List UInt8} (s:ByteArray) (h:QB w0 b out W) (hl:out.length+s.size<=100000000) :
  Calls Tryz.prog 58 #[.pointer (some ⟨b,0,none⟩),.string s] W fun e w'=>e=.returned (.tuple #[.int .i64 s.size,.nilIface])/\QB w0 b (out++s.data.toList) w'/\KQ b W w':=by
 refine(Tryz.Buffer_WriteString_at 114 (fun _=>none) w0.heap.size b 0 (Lib.byteCells out) s W h.buf h.bel.size (Lib.byteCells_one _) (by rw [Lib.byteCells_length];omega)).mono ?_;rintro e w' ⟨rfl,h3,h4,h5⟩;rw [<- Lib.byteCells_append] at h3;exact⟨rfl,⟨h3,h.bel.trans h4⟩,h5⟩
theorem q08 (out:List UInt8):Lib.byteCells out=z08 (out.map UInt8.toNat):=by
 unfold Lib.byteCells z08;rw [List.map_map];rfl
theorem y72 {w:World} {base:Nat} {e:TypeId} {size n c:Nat} {A:Option Addr} {xs:List Value} (h:w.ownsRow base e size (.slice A n c) n xs):n<=c:=by
 rcases h.2 with⟨h1,h0⟩|⟨g',cap,cur,h1,hb,hh,h2,h3,_⟩
 ·simp only [Value.slice.injEq] at h1;obtain⟨rfl,_,rfl⟩:=h1;omega
 ·simp only [Value.slice.injEq] at h1;obtain⟨rfl,_,rfl⟩:=h1;exact h2
theorem y4m {w0 W:World} {b:Nat} {out:List UInt8} (h:QB w0 b out W) (hl:out.length<=100000000) :
  Calls Tryz.prog 61 #[.pointer (some ⟨b,0,none⟩)] W fun e W'=>∃ (A:Option Addr) (n c:Nat),e=.returned (.slice A n c)/\n=out.length/\Src W' 1 A n c (z08 (out.map UInt8.toNat))/\n<=c/\Chg NoS W W':=by
 obtain⟨hB,v,lr,h3,hown,hne⟩:=h.buf;have c0:=h3.c0;have c1:=h3.c1;obtain⟨A,c,rfl,_⟩:=z0n hown;have hsrc:=z55 hown;rw [Lib.byteCells_length,q08] at hsrc;have hcc:=y72 hown;rw [Lib.byteCells_length] at c0 hcc;obtain⟨n,hn⟩:∃ n,n=out.length:=⟨_,rfl⟩
 rw [<- hn] at hsrc c0 hcc
 have hsl:∀ W:World,(Instr.sliceAt 32 (.slice A n c) (some (.int .i64 0)) none none).run Tryz.prog W=.ok (.slice A n c) W:=fun W=>by
  have h4:=v94 A n c 0 (by omega) W;rw [y94] at h4;simpa using h4
 have HS:=kf hsrc;have HN:=kf hn;have HCC:=kf hcc;simp only [Nat.zero_add] at c1;clear h hB h3 hown hne hsrc hn hl hcc;go_enter Tryz.func61,Tryz.ntmps61;go_upto_region 1 with fail;go_quiet (fail)
 all_goals
  go_wp2_with fail;go_ret;exact⟨A,n,c,rfl,HN.out,(show Src (W.drewN nq) 1 A n c _ from HS.out),HCC.out,(Chg.refl NoS W).drewN _⟩
def u8L (l:List Nat):List UInt8:=l.map UInt8.ofNat
theorem z8a (a b:List Nat):u8L (a++b)=u8L a++u8L b:=by unfold u8L;rw [List.map_append]
theorem z6c (a:List Nat):(u8L a).length=a.length:=by unfold u8L;rw [List.length_map]
theorem y14 (l:List Nat):(sb l).data.toList=u8L l:=by unfold sb u8L;simp
def z5p (g:XGr):List Nat:=z06 g.first++[32]++z06 (g.es.length:Nat)++[10]++g.es.flatMap z15
theorem z6u {e:XEn} (h:z2b e=true):(z15 e).length=20:=by
 have h1:=z6t h;unfold z15;simp only [List.length_append,List.length_cons,List.length_nil];rw [z3z (z0v (by omega)),z3z (z0v (by omega))]
theorem z8m:∀ (es:List XEn),(∀ e∈es,z2b e=true)->(es.flatMap z15).length=20*es.length
 |[],_=>rfl
 |e::es,h=>by
  rw [List.flatMap_cons,List.length_append,z6u (h e (List.mem_cons_self ..)),z8m es (fun x hx=>h x (List.mem_cons_of_mem _ hx)),List.length_cons];omega
theorem z1l {n:Int} (h:0<=n/\n<=4097):(z06 n).length<=21:=by
 unfold z06 z33;rw [if_neg (by omega)];unfold txt;have:=z0v (n:=n.natAbs) (k:=20) (by omega);simp only [List.length_append,List.length_replicate,List.length_nil];omega
theorem y9w {w0 W:World} {b:Nat} {out:List UInt8} (first:Int) (es:List XEn) (A:Option Addr) (c:Nat) (h:QB w0 b out W) (hL:LibOk w0) (hE:Ev NoS w0 (EnS es A c)) (hmy:∀ e∈es,z2b e=true) (hf:0<=first/\first<=4097) (hl:es.length<=4097) (hlim:out.length<=50000000) :
  Calls Tryz.prog 59 #[.pointer (some ⟨b,0,none⟩),.agg #[.int .i64 first,.slice A es.length c]] W fun e W'=>e=.returned (.tuple #[])/\QB w0 b (out++u8L (z5p ⟨first,es⟩)) W'/\KQ b W W':=by
 have HE:=kf hE;have HMY:=kf hmy;have HD1:=kf (fun V (hV:Chg NoS w0 V)=>z69 first V (hL.chg hV) (by omega));have HD2:=kf (fun V (hV:Chg NoS w0 V)=>z69 (es.length:Nat) V (hL.chg hV) (by omega))
 have HEN:=kf (fun V (hV:Chg NoS w0 V) (e:XEn) (he:z2b e=true)=>(show Calls Tryz.prog 12 #[.agg #[.int .i64 e.pl,.int .i64 e.gen,.bool e.us]] V fun r w'=>r=.returned (.tuple #[.string (sb (z15 e)),.int .i64 0])/\Chg NoS V w' from by
  have h1:=z6t he;have h2:=z4x e V (hL.chg hV) (by omega) (by omega);rw [he] at h2;exact h2))
 obtain⟨S1,hS1⟩:∃ S,S=sb (z06 first):=⟨_,rfl⟩
 obtain⟨S2,hS2⟩:∃ S,S=sb (z06 (es.length:Nat)):=⟨_,rfl⟩
 rw [<- hS1] at HD1;rw [<- hS2] at HD2;obtain⟨p1,z1⟩:∃ p,S1.size=p:=⟨_,rfl⟩
 obtain⟨p2,z2⟩:∃ p,S2.size=p:=⟨_,rfl⟩
 have b1:p1<=21:=by rw [<- z1,hS1,z01];exact z1l hf
 have b2:p2<=21:=by rw [<- z2,hS2,z01];exact z1l (by omega)
 have HDR:=kf (show(S1++⟨#[32]⟩++S2++⟨#[10]⟩:ByteArray).data.toList=u8L (z06 first++[32]++z06 (es.length:Nat)++[10]) from by
  rw [<- y14,hS1,hS2,show(⟨#[32]⟩:ByteArray)=sb [32] from rfl,show(⟨#[10]⟩:ByteArray)=sb [10] from rfl];simp only [z6g])
 have HGT:=kf (show u8L (z5p ⟨first,es⟩)=u8L (z06 first++[32]++z06 (es.length:Nat)++[10])++u8L (es.flatMap z15) from by rw [<- z8a];rfl);obtain⟨HD,hHD⟩:∃ l,l=u8L (z06 first++[32]++z06 (es.length:Nat)++[10]):=⟨_,rfl⟩
 rw [<- hHD] at HDR HGT
 have hHDl:HD.length<=60:=by
  rw [hHD,z6c];have h1:=z1l hf;have h2:=z1l (n:=(es.length:Nat)) (by omega);simp only [List.length_append,List.length_cons,List.length_nil];omega
 obtain⟨m,hm⟩:∃ m,m=es.length:=⟨_,rfl⟩
 rw [<- hm] at HD2 hl ⊢;have HM:=kf hm;have HW1:=kf (fun V (hV:QB w0 b out V)=>z56 (S1++⟨#[32]⟩++S2++⟨#[10]⟩) hV (by rw [ByteArray.size_append,ByteArray.size_append,ByteArray.size_append,z1,z2];show out.length+(p1+1+p2+1)<=_;omega));rw [HDR.out] at HW1;have HQ:=kf h;have HB1:=kf (Blk.new W 56 #[.int .i64 first,.slice A m c]);have HA1:=kf ((Chg.refl NoS W).alloc (.cells #[.int .i64 first,.slice A m c] 56));obtain⟨W1,hW1⟩:∃ W1,W1=W.alloc (.cells #[.int .i64 first,.slice A m c] 56):=⟨_,rfl⟩
 obtain⟨g1,hg1⟩:∃ g,g=W.heap.size:=⟨_,rfl⟩
 rw [<- hW1] at HB1 HA1;rw [<- hg1] at HB1;have HQ1:=kf (HQ.out.call HA1.out)
 have HHE:=kf (fun V (hV:Chg NoS W1 V)=>(show V.cell? ⟨g1,0,none⟩=some (.int .i64 first)/\V.cell? ⟨g1,1,none⟩=some (.slice A m c) from
  ⟨(HB1.out.chg hV (fun e=>e)).cell 0,(HB1.out.chg hV (fun e=>e)).cell 1⟩))
 have HNB:=kf (HQ1.out.ne HB1.out (by decide));have j1:¬9223372036854775807<p1+1:=by omega
 have j2:¬9223372036854775807<p1+1+p2:=by omega
 have j3:¬9223372036854775807<p1+1+p2+1:=by omega
 clear h hL hE hmy hS1 hS2 hHD hm;go_enter Tryz.func59,Tryz.ntmps59;go_upto_region 1 with fail;rw [<- hg1,<- hW1];clear hg1 hW1;go_cut [] from 8 to 19 (fun wx=>Hid (QB w0 b (out++HD) wx)/\Hid (KQ b W1 wx))
 case first =>
  refine wp_region_held_drew (S:=(fun W=>W.cell? ⟨g1,0,none⟩=some (.int .i64 first)/\W.cell? ⟨g1,1,none⟩=some (.slice A m c))) (by kernel_rfl) (HHE.out _ ((Chg.refl NoS W1).drew)) (fun hHeld=>?_);refine wpAnyH_take (i:=0) (oi:={ dst:=some 8,op:=Go.Op.move (Go.Operand.tmp 0),type:=120,pos:=_,after:=_,guard:=none }) (v:=?_) rfl (by kernel_rfl) (by kernel_rfl) (by kernel_rfl) (fun _ _ _ h=>h) (Or.inl ⟨by rfl,?_⟩) (by assumption) ?_;rotate_left
  ·intro w hSw;(try dsimp only at hSw);(try obtain⟨s0,s1⟩:=hSw);(first|(go_simp;done)|(go_simp;with_reducible rfl))
  try simp only [pkA]
  refine wpAnyH_take (i:=1) (oi:={ dst:=some 9,op:=Go.Op.fieldAddr 56 (Go.Operand.tmp 3) 0,type:=0,pos:=_,after:=_,guard:=none }) (v:=?_) rfl (by kernel_rfl) (by kernel_rfl) (by kernel_rfl) (fun _ _ _ h=>h) (Or.inl ⟨by rfl,?_⟩) (by assumption) ?_;rotate_left
  ·intro w hSw;(try dsimp only at hSw);(try obtain⟨s0,s1⟩:=hSw);(first|(go_simp;done)|(go_simp;with_reducible rfl))
  try simp only [pkA]
  refine wpAnyH_take (i:=2) (oi:={ dst:=some 10,op:=Go.Op.load 3 (Go.Operand.tmp 9),type:=3,pos:=_,after:=_,guard:=none }) (v:=?_) rfl (by kernel_rfl) (by kernel_rfl) (by kernel_rfl) (fun _ _ _ h=>h) (Or.inl ⟨by rfl,?_⟩) (by assumption) ?_;rotate_left
  ·intro w hSw;(try dsimp only at hSw);(try obtain⟨s0,s1⟩:=hSw);(first|(go_simp;done)|(go_simp;with_reducible rfl))
  try simp only [pkA]
  refine wpAnyH_take (i:=5) (oi:={ dst:=some 13,op:=Go.Op.fieldAddr 56 (Go.Operand.tmp 3) 1,type:=0,pos:=_,after:=_,guard:=none }) (v:=?_) rfl (by kernel_rfl) (by kernel_rfl) (by kernel_rfl) (fun _ _ _ h=>h) (Or.inl ⟨by rfl,?_⟩) (by assumption) ?_;rotate_left
  ·intro w hSw;(try dsimp only at hSw);(try obtain⟨s0,s1⟩:=hSw);(first|(go_simp;done)|(go_simp;with_reducible rfl))
  try simp only [pkA]
  refine wpAnyH_take (i:=6) (oi:={ dst:=some 14,op:=Go.Op.load 54 (Go.Operand.tmp 13),type:=54,pos:=_,after:=_,guard:=none }) (v:=?_) rfl (by kernel_rfl) (by kernel_rfl) (by kernel_rfl) (fun _ _ _ h=>h) (Or.inl ⟨by rfl,?_⟩) (by assumption) ?_;rotate_left
  ·intro w hSw;(try dsimp only at hSw);(try obtain⟨s0,s1⟩:=hSw);(first|(go_simp;done)|(go_simp;with_reducible rfl))
  try simp only [pkA]
  refine wpAnyH_take (i:=7) (oi:={ dst:=some 15,op:=Go.Op.call { callee:=Go.Callee.builtin Go.Builtin.len,args:=#[Go.Operand.tmp 14],argTypes:=#[54] },type:=3,pos:=_,after:=_,guard:=none }) (v:=?_) rfl (by kernel_rfl) (by kernel_rfl) (by kernel_rfl) (fun _ _ _ h=>h) (Or.inl ⟨by rfl,?_⟩) (by assumption) ?_;rotate_left
  ·intro w hSw;(try dsimp only at hSw);(try obtain⟨s0,s1⟩:=hSw);(first|(go_simp;done)|(go_simp;with_reducible rfl))
  try simp only [pkA]
  refine wpAnyH_ready (rs:=[3]) (by kernel_rfl) (by simp) ?_;refine AllReadyH.cons (o:={ dst:=some 11,op:=Go.Op.call { callee:=Go.Callee.value (Go.Operand.func 97),args:=#[Go.Operand.tmp 10],argTypes:=#[3] },type:=9,pos:=_,after:=_,guard:=none }) rfl (fun K hK=>?_) AllReadyH.nil;go_simp;(go_at_call 97;refine(HD1.out _ (HQ1.out.call (Chg.refl NoS W1).drew).chg).mono ?_;rintro e w2 ⟨rfl,hc2⟩;have HC2:=kf ((Chg.refl NoS W1).drew.trans hc2 (fun _ _ e=>e));clear hc2)
  refine hK.out _ _ (HHE.out _ HC2.out) (fun hHeld=>?_);clear hK K;try simp only [pkA]
  refine wpAnyH_take (i:=4) (oi:={ dst:=some 12,op:=Go.Op.binOp Go.BinOp.add 9 (Go.Operand.tmp 11) (Go.Operand.const (Go.Value.string { data:=#[32] })) 9,type:=9,pos:=_,after:=_,guard:=none }) (v:=?_) rfl (by kernel_rfl) (by kernel_rfl) (by kernel_rfl) (fun _ _ _ h=>h) (Or.inl ⟨by rfl,?_⟩) (by assumption) ?_;rotate_left
  ·intro w hSw;(try dsimp only at hSw);(try obtain⟨s0,s1⟩:=hSw);(first|(go_simp;done)|(go_simp;with_reducible rfl))
  try simp only [pkA]
  refine wpAnyH_ready (rs:=[8]) (by kernel_rfl) (by simp) ?_;refine AllReadyH.cons (o:={ dst:=some 16,op:=Go.Op.call { callee:=Go.Callee.value (Go.Operand.func 97),args:=#[Go.Operand.tmp 15],argTypes:=#[3] },type:=9,pos:=_,after:=_,guard:=none }) rfl (fun K hK=>?_) AllReadyH.nil;go_simp;(go_at_call 97;refine(HD2.out _ (HQ1.out.call HC2.out).chg).mono ?_;rintro e w3 ⟨rfl,hc3⟩;have HC3:=kf (HC2.out.trans hc3 (fun _ _ e=>e));clear hc3)
  refine hK.out _ _ (HHE.out _ HC3.out) (fun hHeld=>?_);clear hK K;try simp only [pkA]
  refine wpAnyH_take (i:=9) (oi:={ dst:=some 17,op:=Go.Op.binOp Go.BinOp.add 9 (Go.Operand.tmp 12) (Go.Operand.tmp 16) 9,type:=9,pos:=_,after:=_,guard:=none }) (v:=?_) rfl (by kernel_rfl) (by kernel_rfl) (by kernel_rfl) (fun _ _ _ h=>h) (Or.inl ⟨by rfl,?_⟩) (by assumption) ?_;rotate_left
  ·intro w hSw;(try dsimp only at hSw);(try obtain⟨s0,s1⟩:=hSw);(first|(go_simp;done)|(go_simp;with_reducible rfl))
  try simp only [pkA]
  refine wpAnyH_take (i:=10) (oi:={ dst:=some 18,op:=Go.Op.binOp Go.BinOp.add 9 (Go.Operand.tmp 17) (Go.Operand.const (Go.Value.string { data:=#[10] })) 9,type:=9,pos:=_,after:=_,guard:=none }) (v:=?_) rfl (by kernel_rfl) (by kernel_rfl) (by kernel_rfl) (fun _ _ _ h=>h) (Or.inl ⟨by rfl,?_⟩) (by assumption) ?_;rotate_left
  ·intro w hSw;(try dsimp only at hSw);(try obtain⟨s0,s1⟩:=hSw);(first|(go_simp;done)|(go_simp;with_reducible rfl))
  try simp only [pkA]
  refine wpAnyH_ready (rs:=[11]) (by kernel_rfl) (by simp) ?_;refine AllReadyH.cons (o:={ dst:=some 19,op:=Go.Op.call { callee:=Go.Callee.value (Go.Operand.func 58),args:=#[Go.Operand.tmp 8,Go.Operand.tmp 18],argTypes:=#[120,9] },type:=117,pos:=_,after:=_,guard:=none }) rfl (fun K hK=>?_) AllReadyH.nil;go_simp;(go_at_call 58;refine(HW1.out _ (HQ1.out.call HC3.out)).mono ?_;rintro e w4 ⟨rfl,hq4,hk4⟩;have HQ4:=kf hq4;have HK4:=kf ((KQ.of HC3.out).tr hk4);clear hq4 hk4)
  refine hK.out _ _ ⟨(HK4.out.blk HB1.out HNB.out (by decide)).cell 0,(HK4.out.blk HB1.out HNB.out (by decide)).cell 1⟩ (fun hHeld=>?_);clear hK K;try simp only [pkA]
  refine wpAnyH_done (by kernel_rfl) ?_ _
  all_goals
   go_wp2_with fail;go_meet;exact⟨HQ4,HK4⟩
 case rest =>
  obtain⟨HQ4,HK4⟩:=hcut;have HB4:=kf (HK4.out.blk HB1.out HNB.out (by decide));have q1:wc.cell? ⟨g1,1,none⟩=some (.slice A m c):=HB4.out.cell 1;go_wp2_with fail;clear q1;go_loopw [23] (fun vi wr=>∃ k:Nat,k<=m/\vi=.int .i64 (k:Nat)/\Hid (QB w0 b (out++HD++u8L ((es.take k).flatMap z15)) wr)/\Hid (KQ b W1 wr)) (fun vi _=>m-(intOf vi).toNat)
  case atStart=>exact⟨0,Nat.zero_le _,rfl,kf (by show QB w0 b (out++HD++[]) _;rw [List.append_nil];exact HQ4.out),HK4⟩
  case round =>
   obtain⟨k,hk,rfl,HQk,HKk⟩:=hrel;by_cases hlt:k<m
   ·obtain⟨e,he⟩:∃ e,es[k]?=some e:=⟨_,List.getElem?_eq_getElem (by have:=HM.out;omega)⟩
    obtain⟨bb,off,rfl,hcell⟩:=z8x (HE.out wr HQk.out.chg) (by have:=HM.out;omega);obtain⟨e0,e1,e2⟩:=hcell k e he;have hme:=HMY.out e (List.mem_of_getElem? he)
    have HNX:=kf (show u8L ((es.take (k+1)).flatMap z15)=u8L ((es.take k).flatMap z15)++(sb (z15 e)).data.toList from by
     rw [y14,<- z8a,List.take_add_one,he,List.flatMap_append];simp)
    have HE1:=kf (fun V hV=>HEN.out V hV e hme);have hll:=z6u hme
    have hkl:(u8L ((es.take k).flatMap z15)).length<=20*4097:=by
     rw [z6c,z8m _ (fun x hx=>HMY.out x (List.mem_of_mem_take hx)),List.length_take];omega
    have HW2:=kf (fun V (hV:QB w0 b (out++HD++u8L ((es.take k).flatMap z15)) V)=>z56 (sb (z15 e)) hV (by rw [z01,hll,List.length_append,List.length_append];omega));rw [List.append_assoc (out++HD),<- HNX.out] at HW2;obtain⟨L,hL2⟩:∃ L,L=sb (z15 e):=⟨_,rfl⟩
    rw [<- hL2] at HE1 HW2;have HQA:=kf (HQk.out.call ((Chg.refl NoS wr).alloc (.cells #[.int .i64 e.pl,.int .i64 e.gen,.bool e.us] 29)));have HKA:=kf (HKk.out.tr (KQ.of ((Chg.refl NoS wr).alloc (.cells #[.int .i64 e.pl,.int .i64 e.gen,.bool e.us] 29))));have HBA:=kf (Blk.new wr 29 #[.int .i64 e.pl,.int .i64 e.gen,.bool e.us]);clear hcell he hme hll hkl hL2 HNX;go_upto_region 5 with fail;obtain⟨W3,hW3⟩:∃ W3,W3=wr.alloc (.cells #[.int .i64 e.pl,.int .i64 e.gen,.bool e.us] 29):=⟨_,rfl⟩
    obtain⟨g7,hg7⟩:∃ g7,g7=wr.heap.size:=⟨_,rfl⟩
    rw [<- hW3] at HQA HKA HBA ⊢;rw [<- hg7] at HBA ⊢;clear hW3 hg7 e0 e1 e2;obtain⟨r0,r1,r2,-⟩:=HBA.out.cl3
    go_wp2_with (first
     |(go_at_call 12;refine(HE1.out _ HQA.out.chg).mono ?_;rintro e4 w4 ⟨rfl,hc4⟩;have HQ5:=kf (HQA.out.call hc4);have HK5:=kf (HKA.out.tr (KQ.of hc4));clear hc4)
     |(go_at_call 58;refine(HW2.out _ HQ5.out).mono ?_;rintro e5 w5 ⟨rfl,hq5,hk5⟩;have HQ6:=kf hq5;have HK6:=kf (HK5.out.tr hk5);clear hq5 hk5))
    go_roundw
    case rel=>exact⟨k+1,by omega,by go_num,HQ6,HK6⟩
    case measure=>simp [intOf];omega
   ·have hkm:k=m:=by omega
    have d1:decide ((k:Int)<m)=false:=by simp;omega
    have d2:decide (k<m)=false:=by simp;omega
    have HQE:=kf (show QB w0 b (out++u8L (z5p ⟨first,es⟩)) wr from by
     have h1:=HQk.out;rw [List.take_of_length_le (by have:=HM.out;omega),List.append_assoc,<- HGT.out] at h1;exact h1)
    clear hkm;go_wp2_with fail;first|go_end0|go_ret|go_ret2
    exact⟨rfl,HQE.out,(KQ.of HA1.out).tr HKk.out⟩
def y58 (gs:List XGr) (t:VT):List Nat:=[120,114,101,102,10]++(gs.flatMap z5p++([116,114,97,105,108,101,114,10]++z0c t++[10]))
theorem z3l {g:XGr} (h:z3p g=false):(0<=g.first/\g.first<=4097/\g.es.length<=4097)/\∀ e∈g.es,z2b e=true:=by
 unfold z3p at h;rw [Bool.or_eq_false_iff] at h;obtain⟨h1,h2⟩:=h;have h3:z29 g.first (g.es.length:Nat)=true:=by simpa using h1
 unfold z29 at h3;simp only [Bool.and_eq_true,decide_eq_true_eq] at h3;refine⟨⟨h3.1,by omega,by omega⟩,fun e he=>?_⟩;rw [List.any_eq_false] at h2;have h4:=h2 e he;simpa using h4
theorem v1m {g:XGr} (h:z3p g=false):(z5p g).length<=82100:=by
 obtain⟨h1,h2⟩:=z3l h;unfold z5p;have h3:=z1l (n:=g.first) ⟨h1.1,h1.2.1⟩;have h4:=z1l (n:=(g.es.length:Nat)) (by omega);simp only [List.length_append,List.length_cons,List.length_nil];rw [z8m _ h2];omega
theorem z8q:∀ (gs:List XGr),(∀ g∈gs,z3p g=false)->(gs.flatMap z5p).length<=82100*gs.length
 |[],_=>Nat.le_refl _
 |g::gs,h=>by
  have h1:=v1m (h g (List.mem_cons_self ..));have h2:=z8q gs (fun x hx=>h x (List.mem_cons_of_mem _ hx));rw [List.flatMap_cons,List.length_append,List.length_cons];omega
theorem z9c (xs:List GC) (B:Option Addr) (d:Nat) (t:VT) (vk vn:Int) (vs:ByteArray) (vA:Option Addr) (vl vc:Nat) (w:World) (hG:Ev NoS w (z4v xs B d)) (hL:LibOk w) (hl:xs.length<=64)
  (hbad:∀ x∈xs,z3p x.g=false) (hv:ValIs w t ⟨vk,vn,vs,vA,vl,vc⟩) (hs:z2n t<=1000) (hck:z0h t=0) (hfl:(z0c t).length<=3000) :
  Calls Tryz.prog 27 #[.agg #[.slice B xs.length d,.int .i64 vk,.int .i64 vn,.string vs,.slice vA vl vc]] w fun e W'=>∃ (A:Option Addr) (n c:Nat),e=.returned (.slice A n c)/\n=(u8L (y58 (xs.map GC.g) t)).length/\Src W' 1 A n c (z08 ((u8L (y58 (xs.map GC.g) t)).map UInt8.toNat))/\n<=c/\Chg NoS w W':=by
 have HG:=kf hG;have HBAD:=kf hbad;have HPU:=kf (fun(out:List UInt8) (b:Nat) (V:World) (x:GC) (hx:x∈xs) (hQ:QB w b out V) (ho:out.length<=50000000)=>y9w x.g.first x.g.es x.A x.c hQ hL (fun U hU=>(hG U hU).2 x hx) (z3l (hbad x hx)).2 ⟨(z3l (hbad x hx)).1.1,(z3l (hbad x hx)).1.2.1⟩ (z3l (hbad x hx)).1.2.2 ho)
 have HSH:=kf (fun V (hV:Chg NoS w V)=>(show Calls Tryz.prog 60 #[.agg #[.int .i64 vk,.int .i64 vn,.string vs,.slice vA vl vc]] V fun e w'=>e=.returned (.tuple #[.string (sb (z0c t)),.int .i64 0])/\Chg NoS V w' from by
  have h1:=v0h t ⟨vk,vn,vs,vA,vl,vc⟩ V (hL.chg hV) (hv.chg hV) (by omega) (fun _=>by omega);unfold y69 at h1;rw [if_pos hck,hck] at h1;exact h1))
 have HWS:=kf (fun(out:List UInt8) (b:Nat) (V:World) (s:ByteArray) (hQ:QB w b out V) (ho:out.length+s.size<=100000000)=>z56 s hQ ho);have HBY:=kf (fun(out:List UInt8) (b:Nat) (V:World) (hQ:QB w b out V) (ho:out.length<=100000000)=>y4m hQ ho);obtain⟨F,hF⟩:∃ F,F=sb (z0c t):=⟨_,rfl⟩
 rw [<- hF] at HSH;have zF:F.size<=3000:=by rw [hF,z01];exact hfl
 have HTL:=kf (show((⟨#[116,114,97,105,108,101,114,10]⟩:ByteArray)++F++⟨#[10]⟩).data.toList=u8L ([116,114,97,105,108,101,114,10]++z0c t++[10]) from by
  rw [<- y14,hF,show(⟨#[116,114,97,105,108,101,114,10]⟩:ByteArray)=sb [116,114,97,105,108,101,114,10] from rfl,show(⟨#[10]⟩:ByteArray)=sb [10] from rfl];simp only [z6g])
 obtain⟨TL,hTL⟩:∃ l,l=[116,114,97,105,108,101,114,10]++z0c t++[10]:=⟨_,rfl⟩
 have hTLl:TL.length<=3010:=by rw [hTL];simp only [List.length_append,List.length_cons,List.length_nil];omega
 rw [<- hTL] at HTL;have HST:=kf (show y58 (xs.map GC.g) t=[120,114,101,102,10]++((xs.map GC.g).flatMap z5p++TL) from by unfold y58;rw [hTL])
 have HGL:=kf (fun k=>(show((((xs.take k).map GC.g).flatMap z5p).length<=82100*64) from by
  have h1:=z8q ((xs.take k).map GC.g) (fun g hg=>by
   obtain⟨x,hx,rfl⟩:=List.mem_map.1 hg;exact hbad x (List.mem_of_mem_take hx))
  rw [List.length_map,List.length_take] at h1;have h2:82100*min k xs.length<=82100*64:=Nat.mul_le_mul_left _ (by omega);omega))
 obtain⟨m,hm⟩:∃ m,m=xs.length:=⟨_,rfl⟩
 rw [<- hm] at hl ⊢;have HM:=kf hm;obtain⟨f,hfz⟩:∃ f,F.size=f:=⟨_,rfl⟩
 rw [hfz] at zF;have j1:¬9223372036854775807<8+f:=by omega
 have j2:¬9223372036854775807<8+f+1:=by omega
 have HB1:=kf ((Blk.new w 36 #[.slice B m d,.int .i64 vk,.int .i64 vn,.string vs,.slice vA vl vc]).alloc (.cells #[.slice none 0 0,.int .i64 0,.int .i8 0] 114));have HQ1:=kf (QB.start w (w.alloc (.cells #[.slice B m d,.int .i64 vk,.int .i64 vn,.string vs,.slice vA vl vc] 36)) ((Chg.refl NoS w).alloc _));rw [World.size_alloc] at HQ1;obtain⟨W1,hW1⟩:∃ W1,W1=(w.alloc (.cells #[.slice B m d,.int .i64 vk,.int .i64 vn,.string vs,.slice vA vl vc] 36)).alloc (.cells #[.slice none 0 0,.int .i64 0,.int .i8 0] 114):=⟨_,rfl⟩
 obtain⟨g2,hg2⟩:∃ g,g=w.heap.size+1:=⟨_,rfl⟩
 obtain⟨g1,hg1⟩:∃ g,g=w.heap.size:=⟨_,rfl⟩
 rw [<- hW1] at HB1 HQ1;rw [<- hg2] at HQ1;rw [<- hg1] at HB1;have HNB:=kf (HQ1.out.ne HB1.out (by decide));have HW1:=kf (HWS.out [] g2 W1 ⟨#[120,114,101,102,10]⟩ HQ1.out (by decide));rw [List.nil_append,show(⟨#[120,114,101,102,10]⟩:ByteArray).data.toList=u8L [120,114,101,102,10] from rfl] at HW1;clear hG hL hbad hv hs hck hfl hF hTL hm;go_enter Tryz.func27,Tryz.ntmps27;go_upto_region 2 with fail;rw [<- hg1,<- hW1];rw [show g1+1=g2 from by omega];clear hg1 hg2 hW1;go_upto_region 3 with(go_at_call 58;refine HW1.out.mono ?_;rintro e w2 ⟨rfl,hq2,hk2⟩;have HQ2:=kf hq2;have HK2:=kf hk2;clear hq2 hk2);have HB2:=kf (HK2.out.blk HB1.out HNB.out (by decide));obtain⟨q0,q1,q2,q3,q4,-⟩:=HB2.out.cl5;go_wp2_with fail;clear q0 q1 q2 q3 q4;go_loopw [12] (fun vi wr=>∃ k:Nat,k<=m/\vi=.int .i64 (k:Nat)/\Hid (QB w g2 (u8L ([120,114,101,102,10]++((xs.take k).map GC.g).flatMap z5p)) wr)/\Hid (Blk wr g1 36 #[.slice B m d,.int .i64 vk,.int .i64 vn,.string vs,.slice vA vl vc])) (fun vi _=>m-(intOf vi).toNat)
 case atStart=>exact⟨0,Nat.zero_le _,rfl,HQ2,HB2⟩
 case round =>
  obtain⟨k,hk,rfl,HQk,HBk⟩:=hrel;by_cases hlt:k<m
  ·obtain⟨x,hx⟩:∃ x,xs[k]?=some x:=⟨_,List.getElem?_eq_getElem (by have:=HM.out;omega)⟩
   obtain⟨bb,off,rfl,hcell⟩:=z7e (HG.out wr HQk.out.chg) (by have:=HM.out;omega);obtain⟨c0,c1⟩:=hcell k x hx;have hmem:=List.mem_of_getElem? hx
   have HNX:=kf (show u8L ([120,114,101,102,10]++((xs.take k).map GC.g).flatMap z5p)++u8L (z5p x.g)=u8L ([120,114,101,102,10]++((xs.take (k+1)).map GC.g).flatMap z5p) from by
    rw [<- z8a,List.take_add_one,hx,List.map_append,List.flatMap_append];simp)
   have HP1:=kf (fun V (hV:QB w g2 (u8L ([120,114,101,102,10]++((xs.take k).map GC.g).flatMap z5p)) V)=>HPU.out _ g2 V x hmem hV (by
    rw [z6c,List.length_append];have:=HGL.out k;simp only [List.length_cons,List.length_nil];omega))
   have hGE:(⟨x.g.first,x.g.es⟩:XGr)=x.g:=rfl;rw [hGE,HNX.out] at HP1;obtain⟨⟨first,es⟩,xA,xc⟩:=x;simp only [] at c0 c1 HP1;obtain⟨ln,hln⟩:∃ ln,ln=es.length:=⟨_,rfl⟩
   rw [<- hln] at c1 HP1;have HQA:=kf (HQk.out.call ((Chg.refl NoS wr).alloc (.cells #[.int .i64 first,.slice xA ln xc] 56)));have HBA:=kf (HBk.out.alloc (.cells #[.int .i64 first,.slice xA ln xc] 56));have HB7:=kf (Blk.new wr 56 #[.int .i64 first,.slice xA ln xc]);clear hcell hmem hx HNX hGE hln;go_upto_region 6 with fail;obtain⟨W3,hW3⟩:∃ W3,W3=wr.alloc (.cells #[.int .i64 first,.slice xA ln xc] 56):=⟨_,rfl⟩
   obtain⟨g7,hg7⟩:∃ g7,g7=wr.heap.size:=⟨_,rfl⟩
   rw [<- hW3] at HQA HBA HB7 ⊢;rw [<- hg7] at HB7 ⊢;clear hW3 hg7 c0 c1;have r0:W3.cell? ⟨g7,0,none⟩=some (.int .i64 first):=HB7.out.cell 0;have r1:W3.cell? ⟨g7,1,none⟩=some (.slice xA ln xc):=HB7.out.cell 1;go_wp2_with (go_at_call 59;refine(HP1.out _ HQA.out).mono ?_;rintro e w4 ⟨rfl,hq4,hk4⟩;have HQ4:=kf hq4;have HB4:=kf (hk4.blk HBA.out HNB.out (by decide));clear hq4 hk4);go_roundw
   case rel=>exact⟨k+1,by omega,by go_num,HQ4,HB4⟩
   case measure=>simp [intOf];omega
  ·have hkm:k=m:=by omega
   have d1:decide ((k:Int)<m)=false:=by simp;omega
   have d2:decide (k<m)=false:=by simp;omega
   have HQE:=kf (show QB w g2 (u8L ([120,114,101,102,10]++(xs.map GC.g).flatMap z5p)) wr from by
    have h1:=HQk.out;rw [List.take_of_length_le (by have:=HM.out;omega)] at h1;exact h1)
   have hol:(u8L ([120,114,101,102,10]++(xs.map GC.g).flatMap z5p)).length<=6000000:=by
    have h1:=HGL.out m;rw [List.take_of_length_le (by have:=HM.out;omega)] at h1;rw [z6c,List.length_append];simp only [List.length_cons,List.length_nil];omega
   have HW2:=kf (fun V hV=>HWS.out (u8L ([120,114,101,102,10]++(xs.map GC.g).flatMap z5p)) g2 V ((⟨#[116,114,97,105,108,101,114,10]⟩:ByteArray)++F++⟨#[10]⟩) hV (by
    rw [ByteArray.size_append,ByteArray.size_append,hfz];show _+(8+f+1)<=_;omega))
   have HSE:=kf (show u8L ([120,114,101,102,10]++(xs.map GC.g).flatMap z5p)++u8L TL=u8L (y58 (xs.map GC.g) t) from by rw [<- z8a,HST.out,List.append_assoc]);rw [HTL.out,HSE.out] at HW2;have HB3:=kf (fun V (hV:QB w g2 (u8L (y58 (xs.map GC.g) t)) V)=>HBY.out _ g2 V hV (by rw [<- HSE.out,List.length_append,z6c TL];omega));obtain⟨q0,q1,q2,q3,q4,-⟩:=HBk.out.cl5;clear hkm hol
   go_wp2_with (first
    |(go_at_call 60;refine(HSH.out _ HQE.out.chg).mono ?_;rintro e w5 ⟨rfl,hc5⟩;have HQ5:=kf (HQE.out.call hc5);clear hc5)
    |(go_at_call 58;refine(HW2.out _ HQ5.out).mono ?_;rintro e w6 ⟨rfl,hq6,hk6⟩;have HQ6:=kf hq6;clear hq6 hk6)
    |(go_at_call 61;refine(HB3.out _ HQ6.out).mono ?_;rintro e w7 ⟨RA,Rn,Rc,rfl,hRn,hsr,hcc,hc7⟩;have HSR:=kf hsr;have HRN:=kf hRn;have HCC:=kf hcc;have HC7:=kf (HQ6.out.chg.trans hc7 (fun _ _ e=>e));clear hRn hsr hcc hc7))
   refine bodyPost_ret (v:=.slice RA Rn Rc) (by simp [results,Tryz.results27,go_sem]) rfl ?_;exact⟨RA,Rn,Rc,rfl,HRN.out,HSR.out,HCC.out,HC7.out⟩
theorem y1q {t:VT} (h:z0h t=0):z0s t=0:=by
 unfold z0h at h;split at h
 ·cases h
 ·exact h
theorem v0m (n:Int) (w:World) (h:-2147483647<=n/\n<=2147483647) :
  Calls Tryz.prog 24 #[.agg #[.int .i64 2,.int .i64 n,.string ⟨#[]⟩,.slice none 0 0]] w fun e w'=>e=.returned (.string (sb (z06 n)))/\Chg NoS w w' :=
 z9w n ⟨#[]⟩ none 0 0 (by unfold z05;rw [if_pos ⟨rfl,rfl,.inl ⟨rfl,h⟩⟩]) w
theorem y1a (xs:List GC) (B:Option Addr) (d:Nat) (t:VT) (vk vn:Int) (vs:ByteArray) (vA:Option Addr) (vl vc:Nat) (w:World) (hG:Ev NoS w (z4v xs B d)) (hl:xs.length<=64)
  (hbad:∀ x∈xs,z3p x.g=false) (hv:ValIs w t ⟨vk,vn,vs,vA,vl,vc⟩) (hck:z0h t=0) (hfl:(z0c t).length<=3000) :
  Calls Tryz.prog 28 #[.agg #[.slice B xs.length d,.int .i64 vk,.int .i64 vn,.string vs,.slice vA vl vc]] w fun e W'=>e=.returned (.string (sb (y58 (xs.map GC.g) t)))/\Chg NoS w W':=by
 have HG:=kf hG;have HBAD:=kf hbad;have HFT:=kf (fun V (hV:Chg NoS w V)=>(show Calls Tryz.prog 24 #[.agg #[.int .i64 vk,.int .i64 vn,.string vs,.slice vA vl vc]] V fun e w'=>e=.returned (.string (sb (z0c t)))/\Chg NoS V w' from v30 _ t (Nat.le_refl _) (y1q hck) ⟨vk,vn,vs,vA,vl,vc⟩ V (hv.chg hV) (by omega)))
 have HEN:=kf (fun V (e:XEn) (he:z2b e=true)=>(show Calls Tryz.prog 13 #[.agg #[.int .i64 e.pl,.int .i64 e.gen,.bool e.us]] V fun r w'=>r=.returned (.tuple #[.string (sb (z15 e)),.int .i64 0])/\Chg NoS V w' from by
  have h1:=z6t he;have h2:=z5n e V (by omega) (by omega);rw [he] at h2;exact h2))
 have HNM:=kf (fun V n h=>v0m n V h);obtain⟨F,hF⟩:∃ F,F=sb (z0c t):=⟨_,rfl⟩
 rw [<- hF] at HFT;have zF:F.size<=3000:=by rw [hF,z01];exact hfl
 obtain⟨f,hfz⟩:∃ f,F.size=f:=⟨_,rfl⟩
 rw [hfz] at zF;have HFF:=kf hF
 have HGL:=kf (fun k=>(show((((xs.take k).map GC.g).flatMap z5p).length<=82100*64) from by
  have h1:=z8q ((xs.take k).map GC.g) (fun g hg=>by
   obtain⟨x,hx,rfl⟩:=List.mem_map.1 hg;exact hbad x (List.mem_of_mem_take hx))
  rw [List.length_map,List.length_take] at h1;have h2:82100*min k xs.length<=82100*64:=Nat.mul_le_mul_left _ (by omega);omega))
 obtain⟨m,hm⟩:∃ m,m=xs.length:=⟨_,rfl⟩
 rw [<- hm] at hl ⊢;have HM:=kf hm;have HB:=kf (Blk.new w 27 #[.slice B m d,.int .i64 vk,.int .i64 vn,.string vs,.slice vA vl vc]);have HC:=kf ((Chg.refl NoS w).alloc (.cells #[.slice B m d,.int .i64 vk,.int .i64 vn,.string vs,.slice vA vl vc] 27));clear hG hbad hv hck hfl hF hm;go_enter Tryz.func28,Tryz.ntmps28;go_upto_region 1 with fail;obtain⟨W1,hW1⟩:∃ W1,W1=w.alloc (.cells #[.slice B m d,.int .i64 vk,.int .i64 vn,.string vs,.slice vA vl vc] 27):=⟨_,rfl⟩
 obtain⟨g1,hg1⟩:∃ g1,g1=w.heap.size:=⟨_,rfl⟩
 rw [<- hW1] at HB HC ⊢;rw [<- hg1] at HB ⊢;clear hW1 hg1;go_wp2_with fail;go_loopw [3,4] (fun vt vi wr=>∃ (k mm:Nat) (ts:ByteArray),k<=m/\mm<=6000000/\ts.size=mm/\vt=.string ts/\vi=.int .i64 (k:Nat)/\Hid (ts=sb ([120,114,101,102,10]++((xs.take k).map GC.g).flatMap z5p))/\Hid (Chg NoS W1 wr)) (fun _ vi _=>m-(intOf vi).toNat)
 case atStart=>exact⟨0,5,_,Nat.zero_le _,by omega,rfl,rfl,rfl,kf rfl,kf (Chg.refl _ _)⟩
 case round =>
  obtain⟨k,mm,ts,hk,hmm,hts,rfl,rfl,HTS,HCk⟩:=hrel;obtain⟨q0,q1,q2,q3,q4,-⟩:=(HB.out.chg HCk.out (fun e=>e)).cl5;by_cases hlt:k<m;rotate_left
  ·have hkm:k=m:=by omega
   have HE:=kf (show ts++⟨#[116,114,97,105,108,101,114,10]⟩++F++⟨#[10]⟩=sb (y58 (xs.map GC.g) t) from by
    have h1:=HTS.out;rw [List.take_of_length_le (by have:=HM.out;omega)] at h1;rw [h1,HFF.out,show(⟨#[116,114,97,105,108,101,114,10]⟩:ByteArray)=sb [116,114,97,105,108,101,114,10] from rfl,show(⟨#[10]⟩:ByteArray)=sb [10] from rfl];simp only [z6g];unfold y58;simp only [List.append_assoc])
   have d1:decide ((k:Int)<m)=false:=by simp;omega
   have d2:decide (k<m)=false:=by simp;omega
   have j1:¬9223372036854775807<mm+8:=by omega
   have j2:¬9223372036854775807<mm+8+f:=by omega
   have j3:¬9223372036854775807<mm+8+f+1:=by omega
   clear hkm;go_wp2_with (go_at_call 24;refine(HFT.out _ (HC.out.trans HCk.out (fun _ _ e=>e))).mono ?_;rintro e w3 ⟨rfl,hc3⟩;have HC3:=kf ((HC.out.trans HCk.out (fun _ _ e=>e)).trans hc3 (fun _ _ e=>e));clear hc3);refine bodyPost_ret (v:=.string (ts++⟨#[116,114,97,105,108,101,114,10]⟩++F++⟨#[10]⟩)) (by simp [results,Tryz.results28,go_sem]) rfl ?_;exact⟨by rw [HE.out],HC3.out⟩
  obtain⟨x,hx⟩:∃ x,xs[k]?=some x:=⟨_,List.getElem?_eq_getElem (by have:=HM.out;omega)⟩
  have hGr:=HG.out wr (HC.out.trans HCk.out (fun _ _ e=>e));obtain⟨b,off,rfl,hcell⟩:=z7e hGr (by have:=HM.out;omega);obtain⟨c0,c1⟩:=hcell k x hx;have hmem:x∈xs:=List.mem_of_getElem? hx;have hEx:=kf (hGr.2 x hmem);obtain⟨⟨hf0,hf1,hel⟩,hme⟩:=z3l (HBAD.out x hmem)
  have HNX:=kf (show([120,114,101,102,10]++((xs.take k).map GC.g).flatMap z5p)++z5p x.g=[120,114,101,102,10]++((xs.take (k+1)).map GC.g).flatMap z5p from by
   rw [List.take_add_one,hx,List.map_append,List.flatMap_append];simp)
  have hgl:=HGL.out (k+1);have hnl:=congrArg List.length HNX.out;obtain⟨P,hP⟩:∃ P,P=[120,114,101,102,10]++((xs.take k).map GC.g).flatMap z5p:=⟨_,rfl⟩
  rw [<- hP] at HTS HNX hnl;obtain⟨P2,hP2⟩:∃ P,P=[120,114,101,102,10]++((xs.take (k+1)).map GC.g).flatMap z5p:=⟨_,rfl⟩
  have hP2l:P2.length<=5300000:=by rw [hP2,List.length_append];simp only [List.length_cons,List.length_nil];omega
  rw [<- hP2] at HNX;have HP2:=kf hP2;have hPl:P.length=mm:=by rw [<- hts,HTS.out,z01]
  obtain⟨⟨first,es⟩,xA,xc⟩:=x;simp only [] at c0 c1 hEx hf0 hf1 hel hme HNX;have HME:=kf hme;have HF1:=kf (fun V=>HNM.out V first (by omega));have HF2:=kf (fun V=>HNM.out V (es.length:Nat) (by omega));have hi1:=z1l ⟨hf0,hf1⟩;have hi2:=z1l (n:=(es.length:Nat)) (by omega);have HGT:=kf (show z5p ⟨first,es⟩=z06 first++[32]++z06 (es.length:Nat)++[10]++es.flatMap z15 from rfl);obtain⟨S1,hS1⟩:∃ S,S=sb (z06 first):=⟨_,rfl⟩
  obtain⟨S2,hS2⟩:∃ S,S=sb (z06 (es.length:Nat)):=⟨_,rfl⟩
  rw [<- hS1] at HF1;rw [<- hS2] at HF2;obtain⟨p1,z1⟩:∃ p,S1.size=p:=⟨_,rfl⟩
  obtain⟨p2,z2⟩:∃ p,S2.size=p:=⟨_,rfl⟩
  have b1:p1<=21:=by rw [<- z1,hS1,z01];exact hi1
  have b2:p2<=21:=by rw [<- z2,hS2,z01];exact hi2
  obtain⟨H,hH⟩:∃ H,H=P++(z06 first++[32]++z06 (es.length:Nat)++[10]):=⟨_,rfl⟩
  have HHD:=kf (show ts++S1++⟨#[32]⟩++S2++⟨#[10]⟩=sb H from by
   rw [HTS.out,hS1,hS2,hH,show(⟨#[32]⟩:ByteArray)=sb [32] from rfl,show(⟨#[10]⟩:ByteArray)=sb [10] from rfl];simp only [z6g,List.append_assoc])
  have HHP:=kf (show H++es.flatMap z15=P2 from by
   rw [<- HNX.out,HGT.out,hH];simp only [List.append_assoc])
  have hHl:H.length<=5300000:=by have h1:=congrArg List.length HHP.out;rw [List.length_append] at h1;omega
  obtain⟨ln,hln⟩:∃ ln,ln=es.length:=⟨_,rfl⟩
  have HLN:=kf hln;rw [<- hln] at c1 HF2 hel;clear hcell hGr hmem hx hln hP hP2 hme hgl hnl hS1 hS2 hH hi1 hi2 HTS HGT HNX;have HCA:=kf (HCk.out.alloc (.cells #[.int .i64 first,.slice xA ln xc] 56));have HBA:=kf (Blk.new wr 56 #[.int .i64 first,.slice xA ln xc]);go_upto_region 6 with fail;obtain⟨W3,hW3⟩:∃ W3,W3=wr.alloc (.cells #[.int .i64 first,.slice xA ln xc] 56):=⟨_,rfl⟩
  obtain⟨g7,hg7⟩:∃ g7,g7=wr.heap.size:=⟨_,rfl⟩
  have HEX:=kf (fun V (hV:Chg NoS W3 V)=>(show EnS es xA xc V from⟨Src.below (w0:=wr) hEx.out.1 (((Chg.refl NoS wr).alloc _).trans (hW3 ▸ hV) (fun _ _ e=>e)),hEx.out.2⟩));rw [<- hW3] at HCA HBA ⊢;rw [<- hg7] at HBA ⊢;clear hW3 hg7 hEx c0 c1 HCk q0 q1 q2 q3 q4
  have HHE:=kf (fun V (hV:Chg NoS W3 V)=>(show V.cell? ⟨g7,0,none⟩=some (.int .i64 first)/\V.cell? ⟨g7,1,none⟩=some (.slice xA ln xc) from
   ⟨(HBA.out.chg hV (fun e=>e)).cell 0,(HBA.out.chg hV (fun e=>e)).cell 1⟩))
  have j1:¬9223372036854775807<mm+p1:=by omega
  have j2:¬9223372036854775807<mm+p1+1:=by omega
  have j3:¬9223372036854775807<mm+p1+1+p2:=by omega
  have j4:¬9223372036854775807<mm+p1+1+p2+1:=by omega
  go_cut [3] from 9 to 34 (fun s3 wx=>∃ ts2:ByteArray,s3=.string ts2/\Hid (ts2=sb H)/\Hid (Chg NoS W3 wx))
  case first =>
   refine wp_region_held_drew (S:=(fun V=>V.cell? ⟨g7,0,none⟩=some (.int .i64 first)/\V.cell? ⟨g7,1,none⟩=some (.slice xA ln xc))) (by kernel_rfl) (HHE.out _ ((Chg.refl NoS W3).drew)) (fun hHeld=>?_);refine wpAnyH_take (i:=0) (oi:={ dst:=some 21,op:=Go.Op.move (Go.Operand.tmp 3),type:=9,pos:=_,after:=_,guard:=none }) (v:=?_) rfl (by kernel_rfl) (by kernel_rfl) (by kernel_rfl) (fun _ _ _ h=>h) (Or.inl ⟨by rfl,?_⟩) (by assumption) ?_;rotate_left
   ·intro w hSw;(try dsimp only at hSw);(try obtain⟨s0,s1⟩:=hSw);(first|(go_simp;done)|(go_simp;with_reducible rfl))
   try simp only [pkA]
   refine wpAnyH_take (i:=1) (oi:={ dst:=some 22,op:=Go.Op.fieldAddr 56 (Go.Operand.tmp 5) 0,type:=0,pos:=_,after:=_,guard:=none }) (v:=?_) rfl (by kernel_rfl) (by kernel_rfl) (by kernel_rfl) (fun _ _ _ h=>h) (Or.inl ⟨by rfl,?_⟩) (by assumption) ?_;rotate_left
   ·intro w hSw;(try dsimp only at hSw);(try obtain⟨s0,s1⟩:=hSw);(first|(go_simp;done)|(go_simp;with_reducible rfl))
   try simp only [pkA]
   refine wpAnyH_take (i:=2) (oi:={ dst:=some 23,op:=Go.Op.load 3 (Go.Operand.tmp 22),type:=3,pos:=_,after:=_,guard:=none }) (v:=?_) rfl (by kernel_rfl) (by kernel_rfl) (by kernel_rfl) (fun _ _ _ h=>h) (Or.inl ⟨by rfl,?_⟩) (by assumption) ?_;rotate_left
   ·intro w hSw;(try dsimp only at hSw);(try obtain⟨s0,s1⟩:=hSw);(first|(go_simp;done)|(go_simp;with_reducible rfl))
   try simp only [pkA]
   refine wpAnyH_take (i:=3) (oi:={ dst:=some 24,op:=Go.Op.build 25 #[(0,Go.Operand.const (Go.Value.int Go.IntKind.i64 2)),(1,Go.Operand.tmp 23)],type:=25,pos:=_,after:=_,guard:=none }) (v:=?_) rfl (by kernel_rfl) (by kernel_rfl) (by kernel_rfl) (fun _ _ _ h=>h) (Or.inl ⟨by rfl,?_⟩) (by assumption) ?_;rotate_left
   ·intro w hSw;(try dsimp only at hSw);(try obtain⟨s0,s1⟩:=hSw);(first|(go_simp;done)|(go_simp;with_reducible rfl))
   try simp only [pkA]
   refine wpAnyH_take (i:=7) (oi:={ dst:=some 28,op:=Go.Op.fieldAddr 56 (Go.Operand.tmp 5) 1,type:=0,pos:=_,after:=_,guard:=none }) (v:=?_) rfl (by kernel_rfl) (by kernel_rfl) (by kernel_rfl) (fun _ _ _ h=>h) (Or.inl ⟨by rfl,?_⟩) (by assumption) ?_;rotate_left
   ·intro w hSw;(try dsimp only at hSw);(try obtain⟨s0,s1⟩:=hSw);(first|(go_simp;done)|(go_simp;with_reducible rfl))
   try simp only [pkA]
   refine wpAnyH_take (i:=8) (oi:={ dst:=some 29,op:=Go.Op.load 54 (Go.Operand.tmp 28),type:=54,pos:=_,after:=_,guard:=none }) (v:=?_) rfl (by kernel_rfl) (by kernel_rfl) (by kernel_rfl) (fun _ _ _ h=>h) (Or.inl ⟨by rfl,?_⟩) (by assumption) ?_;rotate_left
   ·intro w hSw;(try dsimp only at hSw);(try obtain⟨s0,s1⟩:=hSw);(first|(go_simp;done)|(go_simp;with_reducible rfl))
   try simp only [pkA]
   refine wpAnyH_take (i:=9) (oi:={ dst:=some 30,op:=Go.Op.call { callee:=Go.Callee.builtin Go.Builtin.len,args:=#[Go.Operand.tmp 29],argTypes:=#[54] },type:=3,pos:=_,after:=_,guard:=none }) (v:=?_) rfl (by kernel_rfl) (by kernel_rfl) (by kernel_rfl) (fun _ _ _ h=>h) (Or.inl ⟨by rfl,?_⟩) (by assumption) ?_;rotate_left
   ·intro w hSw;(try dsimp only at hSw);(try obtain⟨s0,s1⟩:=hSw);(first|(go_simp;done)|(go_simp;with_reducible rfl))
   try simp only [pkA]
   refine wpAnyH_take (i:=10) (oi:={ dst:=some 31,op:=Go.Op.build 25 #[(0,Go.Operand.const (Go.Value.int Go.IntKind.i64 2)),(1,Go.Operand.tmp 30)],type:=25,pos:=_,after:=_,guard:=none }) (v:=?_) rfl (by kernel_rfl) (by kernel_rfl) (by kernel_rfl) (fun _ _ _ h=>h) (Or.inl ⟨by rfl,?_⟩) (by assumption) ?_;rotate_left
   ·intro w hSw;(try dsimp only at hSw);(try obtain⟨s0,s1⟩:=hSw);(first|(go_simp;done)|(go_simp;with_reducible rfl))
   try simp only [pkA]
   refine wpAnyH_ready (rs:=[4]) (by kernel_rfl) (by simp) ?_;refine AllReadyH.cons (o:={ dst:=some 25,op:=Go.Op.call { callee:=Go.Callee.value (Go.Operand.func 24),args:=#[Go.Operand.tmp 24],argTypes:=#[25] },type:=9,pos:=_,after:=_,guard:=none }) rfl (fun K hK=>?_) AllReadyH.nil;go_simp;(go_at_call 24;refine(HF1.out _).mono ?_;rintro e w2 ⟨rfl,hc2⟩;have HC2:=kf ((Chg.refl NoS W3).drew.trans hc2 (fun _ _ e=>e));clear hc2)
   refine hK.out _ _ (HHE.out _ HC2.out) (fun hHeld=>?_);clear hK K;try simp only [pkA]
   refine wpAnyH_take (i:=5) (oi:={ dst:=some 26,op:=Go.Op.binOp Go.BinOp.add 9 (Go.Operand.tmp 21) (Go.Operand.tmp 25) 9,type:=9,pos:=_,after:=_,guard:=none }) (v:=?_) rfl (by kernel_rfl) (by kernel_rfl) (by kernel_rfl) (fun _ _ _ h=>h) (Or.inl ⟨by rfl,?_⟩) (by assumption) ?_;rotate_left
   ·intro w hSw;(try dsimp only at hSw);(try obtain⟨s0,s1⟩:=hSw);(first|(go_simp;done)|(go_simp;with_reducible rfl))
   try simp only [pkA]
   refine wpAnyH_take (i:=6) (oi:={ dst:=some 27,op:=Go.Op.binOp Go.BinOp.add 9 (Go.Operand.tmp 26) (Go.Operand.const (Go.Value.string { data:=#[32] })) 9,type:=9,pos:=_,after:=_,guard:=none }) (v:=?_) rfl (by kernel_rfl) (by kernel_rfl) (by kernel_rfl) (fun _ _ _ h=>h) (Or.inl ⟨by rfl,?_⟩) (by assumption) ?_;rotate_left
   ·intro w hSw;(try dsimp only at hSw);(try obtain⟨s0,s1⟩:=hSw);(first|(go_simp;done)|(go_simp;with_reducible rfl))
   try simp only [pkA]
   refine wpAnyH_ready (rs:=[11]) (by kernel_rfl) (by simp) ?_;refine AllReadyH.cons (o:={ dst:=some 32,op:=Go.Op.call { callee:=Go.Callee.value (Go.Operand.func 24),args:=#[Go.Operand.tmp 31],argTypes:=#[25] },type:=9,pos:=_,after:=_,guard:=none }) rfl (fun K hK=>?_) AllReadyH.nil;go_simp;(go_at_call 24;refine(HF2.out _).mono ?_;rintro e w4 ⟨rfl,hc4⟩;have HC4:=kf (HC2.out.trans hc4 (fun _ _ e=>e));clear hc4)
   refine hK.out _ _ (HHE.out _ HC4.out) (fun hHeld=>?_);clear hK K;try simp only [pkA]
   refine wpAnyH_take (i:=12) (oi:={ dst:=some 33,op:=Go.Op.binOp Go.BinOp.add 9 (Go.Operand.tmp 27) (Go.Operand.tmp 32) 9,type:=9,pos:=_,after:=_,guard:=none }) (v:=?_) rfl (by kernel_rfl) (by kernel_rfl) (by kernel_rfl) (fun _ _ _ h=>h) (Or.inl ⟨by rfl,?_⟩) (by assumption) ?_;rotate_left
   ·intro w hSw;(try dsimp only at hSw);(try obtain⟨s0,s1⟩:=hSw);(first|(go_simp;done)|(go_simp;with_reducible rfl))
   try simp only [pkA]
   refine wpAnyH_take (i:=13) (oi:={ dst:=some 34,op:=Go.Op.binOp Go.BinOp.add 9 (Go.Operand.tmp 33) (Go.Operand.const (Go.Value.string { data:=#[10] })) 9,type:=9,pos:=_,after:=_,guard:=none }) (v:=?_) rfl (by kernel_rfl) (by kernel_rfl) (by kernel_rfl) (fun _ _ _ h=>h) (Or.inl ⟨by rfl,?_⟩) (by assumption) ?_;rotate_left
   ·intro w hSw;(try dsimp only at hSw);(try obtain⟨s0,s1⟩:=hSw);(first|(go_simp;done)|(go_simp;with_reducible rfl))
   try simp only [pkA]
   refine wpAnyH_take (i:=14) (oi:={ dst:=some 3,op:=Go.Op.assign (Go.Operand.tmp 34),type:=9,pos:=_,after:=_,guard:=none }) (v:=?_) rfl (by kernel_rfl) (by kernel_rfl) (by kernel_rfl) (fun _ _ _ h=>h) (Or.inl ⟨by rfl,?_⟩) (by assumption) ?_;rotate_left
   ·intro w hSw;(try dsimp only at hSw);(try obtain⟨s0,s1⟩:=hSw);(first|(go_simp;done)|(go_simp;with_reducible rfl))
   try simp only [pkA]
   refine wpAnyH_done (by kernel_rfl) ?_ _
   all_goals
    go_wp2_with fail;go_meet;exact⟨_,rfl,HHD,HC4⟩
  case rest =>
   obtain⟨ts2,rfl,HT2,HC4⟩:=hcut;clear j1 j2 j3 j4;obtain⟨m2,hm2⟩:∃ m2,ts2.size=m2:=⟨_,rfl⟩
   have hm2l:m2<=5300000:=by rw [<- hm2,HT2.out,z01];exact hHl
   go_wp2_with fail;obtain⟨wo,hwo⟩:∃ wo:World,wo=wr:=⟨_,rfl⟩
   clear hwo;go_loopw [3,6] (fun vt vj wr2=>∃ (j m3:Nat) (t3:ByteArray),j<=ln/\m3<=6000000/\t3.size=m3/\vt=.string t3/\vj=.int .i64 (j:Nat)/\Hid (t3=sb (H++(es.take j).flatMap z15))/\Hid (Chg NoS W3 wr2)) (fun _ vj _=>ln-(intOf vj).toNat)
   case atStart=>exact⟨0,m2,_,Nat.zero_le _,by omega,hm2,rfl,rfl,kf (by show ts2=sb (H++[]);rw [List.append_nil];exact HT2.out),HC4⟩
   case round =>
    obtain⟨j,m3,t3,hj,hm3,ht3,rfl,rfl,HTj,HCj⟩:=hrel;have x1:=(HBA.out.chg HCj.out (fun e=>e)).cell 1;simp only [List.getElem?_toArray] at x1;by_cases hjl:j<ln;rotate_left
    ·have HZ:=kf (show t3=sb P2 from by
      have h1:=HTj.out;rw [List.take_of_length_le (by have:=HLN.out;omega),HHP.out] at h1;exact h1)
     have d1:decide ((j:Int)<ln)=false:=by simp;omega
     have d2:decide (j<ln)=false:=by simp;omega
     go_wp2_with fail;go_roundw
     case rel=>exact⟨k+1,m3,t3,by omega,by omega,ht3,rfl,by go_num,kf (by rw [HZ.out,HP2.out]),kf (HCA.out.trans HCj.out (fun _ _ e=>e))⟩
     case measure=>simp [intOf];omega
    obtain⟨e,he⟩:∃ e,es[j]?=some e:=⟨_,List.getElem?_eq_getElem (by have:=HLN.out;omega)⟩
    obtain⟨b2,off2,rfl,hc2⟩:=z8x (HEX.out _ HCj.out) (by have:=HLN.out;omega);obtain⟨e0,e1,e2⟩:=hc2 j e he;have hmy:=HME.out e (List.mem_of_getElem? he);have HE1:=kf (fun V=>HEN.out V e hmy);have hll:=z6u hmy
    have hnx:(es.take (j+1)).flatMap z15=(es.take j).flatMap z15++z15 e:=by
     rw [List.take_add_one,he,List.flatMap_append];simp
    have hbl:(H++(es.take (j+1)).flatMap z15).length<=5400000:=by
     have h1:=z8m (es.take (j+1)) (fun x hx=>HME.out x (List.mem_of_mem_take hx));rw [List.length_append,h1,List.length_take];omega
    have HNJ:=kf (show t3++sb (z15 e)=sb (H++(es.take (j+1)).flatMap z15) from by rw [HTj.out,z6g,List.append_assoc,<- hnx]);obtain⟨L,hL2⟩:∃ L,L=sb (z15 e):=⟨_,rfl⟩
    have zL:L.size=20:=by rw [hL2,z01];exact hll
    rw [<- hL2] at HE1 HNJ
    have hsz:m3+20<=5400000:=by
     have h1:=congrArg ByteArray.size HNJ.out;rw [ByteArray.size_append,ht3,zL,z01] at h1;omega
    have j1:¬9223372036854775807<m3+20:=by omega
    have d1:decide ((j:Int)<ln)=true:=by simp;omega
    clear hc2 he hmy hll hnx hbl hL2;go_wp2_with (go_at_call 13;refine(HE1.out _).mono ?_;rintro e4 w4 ⟨rfl,hc4⟩;have HC5:=kf (HCj.out.trans hc4 (fun _ _ e=>e));clear hc4);go_roundw
    case rel=>exact⟨j+1,m3+20,_,by omega,by omega,by rw [ByteArray.size_append,ht3,zL],rfl,by go_num,HNJ,HC5⟩
    case measure=>simp [intOf];omega
end Go.Proofs.YtnhlalkeaaiefaaGreatDoor
