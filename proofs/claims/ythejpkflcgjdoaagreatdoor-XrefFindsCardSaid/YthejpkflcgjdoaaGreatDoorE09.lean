/- Merged by program. -/
import Derived.Test.YthejpkflcgjdoaaGreatDoorE00
import Derived.StillTailTactics
set_option linter.unusedVariables false
set_option linter.unusedSimpArgs false
namespace Go.Proofs.YthejpkflcgjdoaaGreatDoor
open Go.RowKit
def cmpH (k n:Int) (s:ByteArray) (k' n':Int) (s':ByteArray):Int :=
 if k<k' then -1 else if k≠k' then 1 else if n<n' then -1 else if n≠n' then 1 else if Op.bytesLess s.toList s'.toList then -1 else if s≠s' then 1 else 0
mutual
def cmpT:VT->VT->Int
 |.mk k n s l,.mk k' n' s' l'=>if cmpH k n s k' n' s'≠0 then cmpH k n s k' n' s' else cmpL l l'
def cmpL:List VT->List VT->Int
 |[],[]=>0
 |[],_::_=>-1
 |_::_,[]=>1
 |t::l,t'::l'=>if cmpT t t'≠0 then cmpT t t' else cmpL l l'
end
theorem cmpT_mk (k n:Int) (s:ByteArray) (l:List VT) (k' n':Int) (s':ByteArray) (l':List VT):cmpT (.mk k n s l) (.mk k' n' s' l')=if cmpH k n s k' n' s'≠0 then cmpH k n s k' n' s' else cmpL l l':=by rw [cmpT]
theorem cmpL_cons (t t':VT) (l l':List VT):cmpL (t::l) (t'::l')=if cmpT t t'≠0 then cmpT t t' else cmpL l l':=by rw [cmpL]
theorem bytesLess_self:∀ l:List UInt8,Op.bytesLess l l=false:=by
 intro l
 induction l with
 |nil=>rfl
 |cons a l ih=>simp [Op.bytesLess,ih]
theorem str_ne11 {s s':ByteArray} (h:s≠s'):¬s.toList=s'.toList:=by
 rw [ByteArray.toList_eq,ByteArray.toList_eq]
 intro e
 obtain⟨d⟩:=s
 obtain⟨d'⟩:=s'
 exact h (congrArg ByteArray.mk (Array.ext' e))
def cmpI (a b:Int):Int:=if a<b then -1 else if a≠b then 1 else 0
def cmpS (a b:ByteArray):Int:=if Op.bytesLess a.toList b.toList then -1 else if a≠b then 1 else 0
theorem cmpI_swap (a b:Int):cmpI b a=0-cmpI a b:=by unfold cmpI;split<;>split<;>(try split)<;>omega
theorem toList_inj {a b:ByteArray} (h:a.toList=b.toList):a=b:=by
 by_cases e:a=b
 ·exact e
 ·exact absurd h (str_ne11 e)
theorem cmpS_lt (a b:ByteArray):cmpS a b=-1↔a.toList<b.toList:=by
 unfold cmpS
 rw [Go.Proofs.bytesLess_eq]
 by_cases h:a.toList<b.toList
 ·simp [h]
 ·simp only [h,decide_false,Bool.false_eq_true,if_false,iff_false]
  split<;>simp
theorem cmpS_eq (a b:ByteArray):cmpS a b=0↔a=b:=by
 unfold cmpS
 rw [Go.Proofs.bytesLess_eq]
 by_cases e:a=b
 ·subst e
  simp [List.lt_irrefl]
 ·simp only [e,ne_eq,not_false_eq_true,if_true,iff_false]
  split<;>simp
theorem cmpS_val (a b:ByteArray):cmpS a b=-1\/cmpS a b=0\/cmpS a b=1:=by unfold cmpS;split<;>(try split)<;>simp
theorem cmpS_gt (a b:ByteArray):cmpS a b=1↔b.toList<a.toList:=by
 constructor
 ·intro h
  have h1:¬a.toList<b.toList:=fun e=>by rw [(cmpS_lt a b).2 e] at h;cases h
  have h2:a≠b:=fun e=>by rw [(cmpS_eq a b).2 e] at h;cases h
  rcases Classical.em (b.toList<a.toList) with h3|h3
  ·exact h3
  ·exact absurd (toList_inj (List.le_antisymm (List.not_lt.1 h3) (List.not_lt.1 h1))) h2
 ·intro h
  rcases cmpS_val a b with e|e|e
  ·exact absurd ((cmpS_lt a b).1 e) (List.lt_asymm h)
  ·rw [(cmpS_eq a b).1 e] at h;exact absurd h (List.lt_irrefl _)
  ·exact e
theorem cmpS_swap (a b:ByteArray):cmpS b a=0-cmpS a b:=by
 rcases cmpS_val a b with e|e|e
 ·rw [e,(cmpS_gt b a).2 ((cmpS_lt a b).1 e)];rfl
 ·rw [e,(cmpS_eq b a).2 ((cmpS_eq a b).1 e).symm];rfl
 ·rw [e,(cmpS_lt b a).2 ((cmpS_gt a b).1 e)];rfl
theorem cmpH_eq (k n:Int) (s:ByteArray) (k' n':Int) (s':ByteArray):cmpH k n s k' n' s'=if cmpI k k'≠0 then cmpI k k' else if cmpI n n'≠0 then cmpI n n' else cmpS s s':=by
 unfold cmpH cmpI cmpS
 by_cases h1:k<k'
 ·simp [h1]
 ·by_cases h2:k=k'
  ·by_cases h3:n<n'
   ·simp [h1,h2,h3]
   ·by_cases h4:n=n'
    ·simp [h2,h4]
    ·simp [h2,h3,h4]
  ·simp [h1,h2]
def cmpNS (n:Int) (s:ByteArray) (n':Int) (s':ByteArray):Int:=if cmpI n n'≠0 then cmpI n n' else cmpS s s'
theorem lex_swap {f g f' g':Int} (hf:f'=0-f) (hg:g'=0-g):(if f'≠0 then f' else g')=0-(if f≠0 then f else g):=by
 by_cases h:f=0
 ·have n1:¬f≠0:=fun e=>e h
  have n2:¬f'≠0:=fun e=>e (by omega)
  rw [if_neg n1,if_neg n2,hg]
 ·have p2:f'≠0:=by omega
  rw [if_pos h,if_pos p2,hf]
theorem cmpH_lex (k n:Int) (s:ByteArray) (k' n':Int) (s':ByteArray):cmpH k n s k' n' s'=if cmpI k k'≠0 then cmpI k k' else cmpNS n s n' s':=cmpH_eq k n s k' n' s'
theorem cmpH_swap (k n:Int) (s:ByteArray) (k' n':Int) (s':ByteArray):cmpH k' n' s' k n s=0-cmpH k n s k' n' s':=by
 rw [cmpH_lex,cmpH_lex]
 exact lex_swap (cmpI_swap k k') (lex_swap (cmpI_swap n n') (cmpS_swap s s'))
mutual
theorem cmpT_swap:∀ (a b:VT),cmpT b a=0-cmpT a b
 |.mk k n s l,.mk k' n' s' l'=>by
  rw [cmpT_mk,cmpT_mk]
  exact lex_swap (cmpH_swap _ _ _ _ _ _) (cmpL_swap l l')
theorem cmpL_swap:∀ (l l':List VT),cmpL l' l=0-cmpL l l'
 |[],[]=>by rw [cmpL];rfl
 |[],_::_=>by rw [cmpL,cmpL];rfl
 |_::_,[]=>by rw [cmpL,cmpL];rfl
 |t::l,t'::l'=>by
  rw [cmpL_cons,cmpL_cons]
  exact lex_swap (cmpT_swap t t') (cmpL_swap l l')
end
theorem cmpT_self (a:VT):cmpT a a=0:=by have:=cmpT_swap a a;omega
end Go.Proofs.YthejpkflcgjdoaaGreatDoor
