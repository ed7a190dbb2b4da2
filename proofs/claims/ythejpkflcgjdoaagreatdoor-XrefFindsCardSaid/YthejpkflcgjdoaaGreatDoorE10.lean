/- Merged by program. -/
import Derived.Test.YthejpkflcgjdoaaGreatDoorE09
import Derived.Deep.AppendLies
import Derived.Deep.CutRange
set_option linter.unusedVariables false
set_option linter.unusedSimpArgs false
namespace Go.Proofs.YthejpkflcgjdoaaGreatDoor
open Go.RowKit
structure PB (w W:World) (g:Nat) (cs:Array Value):Prop where
 blk:Blk W g 25 cs
 new:w.heap.size<=g
theorem PB.call {w W W':World} {g:Nat} {cs:Array Value} (h:PB w W g cs) (hc:Chg NoS W W'):PB w W' g cs:=⟨h.blk.chg hc (fun h=>h),h.new⟩
theorem PB.alloc {w W:World} {g:Nat} {cs:Array Value} (h:PB w W g cs) (o:Obj):PB w (W.alloc o) g cs:=⟨h.blk.alloc o,h.new⟩
theorem PB.drew {w W:World} {g:Nat} {cs:Array Value} (h:PB w W g cs):PB w W.drew g cs:=⟨h.blk.drew,h.new⟩
theorem PB.set {w W:World} {g:Nat} {cs:Array Value} (h:PB w W g cs) (i:Nat) (u:Value):PB w (W.setCell ⟨g,i,none⟩ u) g (cs.setIfInBounds i u):=⟨h.blk.set_ i u,h.new⟩
theorem PB.far {w W:World} {g g':Nat} {cs:Array Value} (h:PB w W g cs) (hg:g≠g') (i:Nat) (u:Value):PB w (W.setCell ⟨g',i,none⟩ u) g cs:=⟨h.blk.far (p:=⟨g',i,none⟩) hg u,h.new⟩
theorem PB.chg {w W:World} {g:Nat} {cs:Array Value} (h:PB w W g cs) (hc:Chg NoS w W) (i:Nat) (u:Value):Chg NoS w (W.setCell ⟨g,i,none⟩ u) :=
 hc.setCell (p:=⟨g,i,none⟩) (fun h2=>absurd h2 (Nat.not_lt.2 h.new)) u
theorem PB.set4 {w W:World} {g:Nat} {cs:Array Value} {a b c d:Value} (h:PB w W g cs) (hc:Chg NoS w W) (hz:cs.size=4) :
  PB w ((((W.setCell ⟨g,0,none⟩ a).setCell ⟨g,1,none⟩ b).setCell ⟨g,2,none⟩ c).setCell ⟨g,3,none⟩ d) g #[a,b,c,d]/\Chg NoS w ((((W.setCell ⟨g,0,none⟩ a).setCell ⟨g,1,none⟩ b).setCell ⟨g,2,none⟩ c).setCell ⟨g,3,none⟩ d):=by
 have h4:=(((h.set 0 a).set 1 b).set 2 c).set 3 d
 refine⟨?_,((((h.set 0 a).set 1 b).set 2 c).chg ((((h.set 0 a).set 1 b).chg ((h.set 0 a).chg (h.chg hc 0 a) 1 b) 2 c)) 3 d)⟩
 obtain⟨l⟩:=cs
 match l,hz with
 |[x0,x1,x2,x3],_=>exact h4
theorem PB.far4 {w W:World} {g g':Nat} {cs:Array Value} {a b c d:Value} (h:PB w W g cs) (hg:g≠g') :
  PB w ((((W.setCell ⟨g',0,none⟩ a).setCell ⟨g',1,none⟩ b).setCell ⟨g',2,none⟩ c).setCell ⟨g',3,none⟩ d) g cs:=(((h.far hg 0 a).far hg 1 b).far hg 2 c).far hg 3 d
def nilT:VT:=.mk 0 0 ⟨#[]⟩ []
theorem nil_is (w:World):ValIs w nilT ⟨0,0,⟨#[]⟩,none,0,0⟩:=.mk ⟨0,0,⟨#[]⟩,none,0,0⟩ [] ⟨by decide,by decide,by decide,fun _=>⟨rfl,rfl⟩,Nat.le_refl _,Nat.zero_le _⟩ rfl (.nil _ _)
def vcells (es:List VC):List Value:=es.flatMap VC.cells
theorem vcells_app (a b:List VC):vcells (a++b)=vcells a++vcells b:=by simp [vcells]
theorem vcells_one (e:VC):vcells [e]=e.cells:=by simp [vcells]
theorem vcells_len (es:List VC):(vcells es).length=es.length*4:=by
 induction es with
 |nil=>rfl
 |cons e es ih =>
  rw [show vcells (e::es)=e.cells++vcells es from rfl,List.length_append,ih,List.length_cons,show e.cells.length=4 from rfl]
  omega
theorem vcells_cell (es:List VC):∀ u∈vcells es,u.oneCell'=true:=by
 intro u hu
 obtain⟨e,_,h⟩:=List.mem_flatMap.1 hu
 unfold VC.cells at h
 simp only [List.mem_cons,List.not_mem_nil,or_false] at h
 rcases h with rfl|rfl|rfl|rfl<;>rfl
theorem vcells_at:∀ {es:List VC} {j i:Nat} {e:VC},es[j]?=some e->i<4->(vcells es)[j*4+i]?=e.cells[i]?:=by
 intro es
 induction es with
 |nil=>intro j i e h;simp at h
 |cons x es ih =>
  intro j i e h hi
  rw [show vcells (x::es)=x.cells++vcells es from rfl]
  cases j with
  |zero =>
   simp at h
   subst h
   rw [Nat.zero_mul,Nat.zero_add,List.getElem?_append_left (by exact hi)]
  |succ j =>
   have h4:x.cells.length=4:=rfl
   rw [List.getElem?_append_right (by rw [h4];omega),h4,show(j+1)*4+i-4=j*4+i from by omega]
   exact ih (by simpa using h) hi
structure GV (w wr:World) (es:List VC) (ts:List VT) (n:Nat) (A:Option Addr) (c:Nat):Prop where
 own:wr.ownsRow 0 25 4 (.slice A n c) n (vcells es)
 chg:Chg NoS w wr
 new:∀ a,A=some a->w.heap.size<=a.block
 len:es.length=n
 tlen:ts.length=n
 is:∀ (j:Nat) (t:VT) (e:VC),ts[j]?=some t->es[j]?=some e->ValIs w t e
theorem GV.start {w wr:World} (h:Chg NoS w wr):GV w wr [] [] 0 none 0:=⟨own_nil wr 0 _ 4,h,fun _ h=>(by cases h),rfl,rfl,fun j t e h=>(by simp at h)⟩
theorem GV.far {w wr:World} {es:List VC} {ts:List VT} {n c g:Nat} {A:Option Addr} (h:GV w wr es ts n A c) (hne:(Value.slice A n c).ownBlock≠some g) (hg:w.heap.size<=g) (i:Nat) (u:Value):GV w (wr.setCell ⟨g,i,none⟩ u) es ts n A c :=
 ⟨own_chg (S:=fun x=>x=g) h.own (Chg.setCell (S:=fun x=>x=g) (Chg.refl (fun x=>x=g) wr) (p:=⟨g,i,none⟩) (fun _=>rfl) u) (fun g' hg' e=>hne (by rw [hg',e])),h.chg.setCell (p:=⟨g,i,none⟩) (fun h2=>absurd h2 (Nat.not_lt.2 hg)) u,h.new,h.len,h.tlen,h.is⟩
theorem GV.row {w wr:World} {es:List VC} {ts:List VT} {n c:Nat} {A:Option Addr} (h:GV w wr es ts n A c):RowIs wr A 0 ts:=by
 have hsrc:=src_own h.own
 rcases A with _|ad
 ·have h0:=(hsrc.2.1 rfl).1
  have h1:=h.tlen
  rw [h0] at h1
  rw [List.eq_nil_of_length_eq_zero h1]
  exact .nil _ _
 ·have key:∀ (m j:Nat),j+m=n->RowIs wr (some ad) j (ts.drop j):=by
   intro m
   induction m with
   |zero =>
    intro j hj
    rw [List.drop_of_length_le (by rw [h.tlen];omega)]
    exact .nil _ _
   |succ m ih =>
    intro j hj
    have hjt:j<ts.length:=by rw [h.tlen];omega
    have hje:j<es.length:=by rw [h.len];omega
    rw [List.drop_eq_getElem_cons hjt]
    refine .cons ad j _ _ es[j] (fun i hi=>?_) ((h.is j _ _ (List.getElem?_eq_getElem hjt) (List.getElem?_eq_getElem hje)).chg h.chg) (ih (j+1) (by omega))
    have h1:=vcells_at (List.getElem?_eq_getElem hje) hi
    rw [List.getElem?_eq_getElem (show i<es[j].cells.length from hi)] at h1 ⊢
    exact hsrc.2.2 ad rfl _ _ h1
  have:=key n 0 (by omega)
  rwa [List.drop_zero] at this
theorem GV.good {w wr:World} {es:List VC} {ts:List VT} {n c:Nat} {A:Option Addr} (h:GV w wr es ts n A c) (hn:n<=maxLen):(A=none->n=0/\c=0)/\n<=c:=by
 rcases h.own.2 with⟨h1,h0⟩|⟨g',cap,cur,h1,hb,hh,h2,h3,_⟩
 ·simp only [Value.slice.injEq] at h1
  obtain⟨rfl,_,rfl⟩:=h1
  exact⟨fun _=>⟨h0,rfl⟩,by omega⟩
 ·simp only [Value.slice.injEq] at h1
  obtain⟨rfl,_,rfl⟩:=h1
  exact⟨fun e=>(by cases e),h2⟩
theorem GV.val {w wr:World} {es:List VC} {ts:List VT} {n c:Nat} {A:Option Addr} (h:GV w wr es ts n A c) (hn:n<=maxLen) (k v:Int) (s:ByteArray) (hk:-9223372036854775808<=k/\k<=9223372036854775807) (hv:-9223372036854775808<=v/\v<=9223372036854775807) (hs:s.size<=maxLen) :
  ValIs wr (.mk k v s ts) ⟨k,v,s,A,n,c⟩ :=
 .mk ⟨k,v,s,A,n,c⟩ ts ⟨hk,hv,hs,(h.good hn).1,(h.good hn).2,hn⟩ h.tlen h.row
theorem info_VC:(Tryz.prog.info? 25).map (fun i=>(i.zero,i.size,i.bytes))=some (some (.agg #[.int .i64 0,.int .i64 0,.string ⟨#[]⟩,.slice none 0 0]),4,56):=by kernel_rfl
theorem info_partsV {o:Option TypeInfo} {z:Value} {a b:Nat} (h:o.map (fun i=>(i.zero,i.size,i.bytes))=some (some z,a,b)):∃ i,o=some i/\i.zero=some z/\i.size=a/\i.bytes=b:=by
 rcases o with _|i
 ·cases h
 ·simp at h
  exact⟨i,rfl,h.1,h.2.1,h.2.2⟩
theorem PB.kept {w W w':World} {g:Nat} {cs:Array Value} {A A3:Option Addr} {n c n3 c3:Nat} (h:PB w W g cs) (k:∀ (g:Nat) (T:TypeId) (cs:Array Value),Blk W g T cs->(Value.slice A n c).ownBlock≠some g->Blk w' g T cs/\(Value.slice A3 n3 c3).ownBlock≠some g) (hne:(Value.slice A n c).ownBlock≠some g):PB w w' g cs/\(Value.slice A3 n3 c3).ownBlock≠some g :=
 ⟨⟨(k g _ cs h.blk hne).1,h.new⟩,(k g _ cs h.blk hne).2⟩
def TreeTo (w:World) (t:VT) (e:Ending) (w':World):Prop:=∃ c':VC,e=.returned c'.val/\ValIs w' t c'/\Chg NoS w w'
def nmT (key:ByteArray):VT:=.mk 5 0 key []
theorem less_tr {a b c:ByteArray} (h:Op.bytesLess a.toList b.toList=true) (k:Op.bytesLess b.toList c.toList=true):Op.bytesLess a.toList c.toList=true:=by
 rw [Go.Proofs.bytesLess_eq,decide_eq_true_iff] at h k ⊢
 exact List.lt_trans h k
theorem less_self (a:ByteArray):Op.bytesLess a.toList a.toList=false:=bytesLess_self _
theorem less_tot {a b:ByteArray} (h:Op.bytesLess a.toList b.toList≠true) (h2:a≠b):Op.bytesLess b.toList a.toList=true:=by
 rw [Ne,Go.Proofs.bytesLess_eq,decide_eq_true_iff] at h
 rw [Go.Proofs.bytesLess_eq,decide_eq_true_iff]
 rcases Classical.em (b.toList<a.toList) with h3|h3
 ·exact h3
 ·exact absurd (toList_inj (List.le_antisymm (List.not_lt.1 h3) (List.not_lt.1 h))) h2
end Go.Proofs.YthejpkflcgjdoaaGreatDoor
