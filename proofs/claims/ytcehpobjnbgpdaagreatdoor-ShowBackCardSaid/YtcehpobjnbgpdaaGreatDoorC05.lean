/- Merged by program. -/
import Derived.Test.YtcehpobjnbgpdaaGreatDoorC04
set_option linter.unusedVariables false
set_option linter.unusedSimpArgs false
namespace Go.Proofs.YtcehpobjnbgpdaaGreatDoor
open Go.RowKit
theorem src_new (W:World) (T:TypeId) (es:List VC) (cs:Array Value) (hcs:cs=(vcells es).toArray) (n cx:Nat) (hn:es.length=n):Src (W.alloc (.cells cs T)) 4 (some ⟨W.heap.size,0,none⟩) n cx (vcells es):=by
 refine⟨by rw [vcells_len,hn],fun e=>(by cases e),fun ad ha j u hj=>?_⟩
 cases ha
 have hadd:(⟨W.heap.size,0,none⟩:Addr).add j=⟨W.heap.size,j,none⟩:=by unfold Addr.add;split<;>simp_all
 rw [hadd,(Blk.new W T cs).cell,hcs]
 simpa using hj
theorem el_at {w:World} {b off q:Nat} {l:List VT} {t:VT} (h:RowIs w (some ⟨b,off,none⟩) 0 l) (ht:l[q]?=some t):∃ (eA:Option Addr) (el ec:Nat),ValIs w t ⟨t.kind,t.num,t.str,eA,el,ec⟩ /\
  ∀ W,Chg NoS w W->W.cell? ⟨b,off+q*4,none⟩=some (.int .i64 t.kind)/\W.cell? ⟨b,off+q*4+1,none⟩=some (.int .i64 t.num)/\W.cell? ⟨b,off+q*4+2,none⟩=some (.string t.str)/\W.cell? ⟨b,off+q*4+3,none⟩=some (.slice eA el ec):=by
 obtain⟨eA,el,ec,d0,d1,d2,d3,hv⟩:=h.nth (Chg.refl NoS w) ht
 refine⟨eA,el,ec,hv,fun W hc=>⟨?_,?_,?_,?_⟩⟩
 ·exact(hc.cell (p:=⟨b,_,none⟩) (cell_lt d0) (fun h=>h)).trans d0
 ·exact(hc.cell (p:=⟨b,_,none⟩) (cell_lt d1) (fun h=>h)).trans d1
 ·exact(hc.cell (p:=⟨b,_,none⟩) (cell_lt d2) (fun h=>h)).trans d2
 ·exact(hc.cell (p:=⟨b,_,none⟩) (cell_lt d3) (fun h=>h)).trans d3
theorem nm_is (w:World) (key:ByteArray) (hk:key.size<=maxLen):ValIs w (nmT key) ⟨5,0,key,none,0,0⟩:=.mk ⟨5,0,key,none,0,0⟩ [] ⟨⟨(by decide:(-9223372036854775808:Int)<=5),(by decide:(5:Int)<=9223372036854775807)⟩,⟨(by decide:(-9223372036854775808:Int)<=0),(by decide:(0:Int)<=9223372036854775807)⟩,hk,fun _=>⟨rfl,rfl⟩,Nat.le_refl _,Nat.zero_le _⟩ rfl (.nil _ _)
theorem put_7 {n:Int} {s key:ByteArray} {x:VT} {l:List VT}:putT (.mk 7 n s l) key x=.mk 7 n s (putL key x l):=by rw [putT,if_pos rfl]
theorem putL_len (key:ByteArray) (x:VT) (l:List VT):(putL key x l).length<=l.length+2:=by
 have hi:∀ (N:Nat) (l:List VT),l.length<=N->(insL key x l).length<=l.length+2:=by
  intro N
  induction N using Nat.strongRecOn with
  |_ N ih =>
   intro l hl
   match l with
   |[]=>rw [insL];exact Nat.le_refl _
   |[a]=>rw [insL];split<;>exact Nat.le_refl _
   |a::u::l' =>
    simp only [List.length_cons] at hl
    by_cases hg:gtT key a
    ·rw [ins_gt hg];simp
    ·rw [ins_le hg]
     have:=ih (N-1) (by omega) l' (by omega)
     simp only [List.length_cons]
     omega
 unfold putL
 split
 ·unfold replL;simp only [List.length_append,List.length_take,List.length_cons,List.length_drop];omega
 ·exact hi _ l (Nat.le_refl _)
noncomputable def leftL (key:ByteArray) (x:VT) (done:Bool) (l:List VT):List VT:=if done then l else insL key x l
theorem left_gt {key:ByteArray} {x t:VT} {r:List VT} (h:gtT key t):leftL key x false (t::r)=nmT key::x::leftL key x true (t::r):=by
 show insL key x (t::r)=_
 cases r with
 |nil=>rw [insL,if_pos h];rfl
 |cons u r=>rw [ins_gt h];rfl
theorem left_le {key:ByteArray} {x t:VT} {r:List VT} (h:¬gtT key t):leftL key x false (t::r)=t::(r.take 1++leftL key x false (r.drop 1)):=by
 show insL key x (t::r)=_
 cases r with
 |nil=>rw [insL,if_neg h];rfl
 |cons u r=>rw [ins_le h];rfl
theorem left_done {key:ByteArray} {x t:VT} {r:List VT}:leftL key x true (t::r)=t::(r.take 1++leftL key x true (r.drop 1)):=by
 show t::r=t::(r.take 1++r.drop 1)
 rw [List.take_append_drop]
end Go.Proofs.YtcehpobjnbgpdaaGreatDoor
