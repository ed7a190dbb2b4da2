/- Merged by program. -/
import Derived.Test.YthejpkflcgjdoaaGreatDoorE25
import Derived.Lib.ConvBytes
set_option linter.unusedVariables false
set_option linter.unusedSimpArgs false
namespace Go.Proofs.YthejpkflcgjdoaaGreatDoor
open Go.RowKit
theorem drop_cons {l:List Nat} {k:Nat} (h:k<l.length):l.drop k=l.getD k 0::l.drop (k+1):=by
 rw [List.getD_eq_getElem?_getD,List.getElem?_eq_getElem h]
 exact List.drop_eq_getElem_cons h
theorem hxL_drop {l:List Nat} {k:Nat} (h:k<l.length):hxL (l.take (k+1))=hxL (l.take k)++hex2 (l.getD k 0):=by
 have e:l.take (k+1)=l.take k++[l.getD k 0]:=take_snoc (by rw [List.getD_eq_getElem?_getD,List.getElem?_eq_getElem h];rfl)
 have ha:∀ a b,hxL (a++b)=hxL a++hxL b:=by
  intro a b
  induction a with
  |nil=>rfl
  |cons c a ih=>rw [List.cons_append,hxL,hxL,ih,List.append_assoc]
 rw [e,ha]
 simp [hxL]
theorem esL_app:∀ a b,esL (a++b)=esL a++esL b:=by
 intro a b
 induction a with
 |nil=>rfl
 |cons c a ih=>rw [List.cons_append,esL,esL,ih,List.append_assoc]
theorem esL_drop {l:List Nat} {k:Nat} (h:k<l.length):esL (l.take (k+1))=esL (l.take k)++esC (l.getD k 0):=by
 have e:l.take (k+1)=l.take k++[l.getD k 0]:=take_snoc (by rw [List.getD_eq_getElem?_getD,List.getElem?_eq_getElem h];rfl)
 rw [e,esL_app]
 simp [esL]
theorem getD_lt (s:ByteArray) (k:Nat):(sl s).getD k 0<256:=by
 rw [List.getD_eq_getElem?_getD]
 cases h:(sl s)[k]? with
 |none=>exact Nat.zero_lt_succ _
 |some x=>exact sl_lt s x (List.mem_of_getElem? h)
theorem nmL_app:∀ a b,nmL (a++b)=nmL a++nmL b:=by
 intro a b
 induction a with
 |nil=>rfl
 |cons c a ih=>rw [List.cons_append,nmL,nmL,ih,List.append_assoc]
theorem nmL_drop {l:List Nat} {k:Nat} (h:k<l.length):nmL (l.take (k+1))=nmL (l.take k)++nmC (l.getD k 0):=by
 have e:l.take (k+1)=l.take k++[l.getD k 0]:=take_snoc (by rw [List.getD_eq_getElem?_getD,List.getElem?_eq_getElem h];rfl)
 rw [e,nmL_app]
 simp [nmL]
end Go.Proofs.YthejpkflcgjdoaaGreatDoor
