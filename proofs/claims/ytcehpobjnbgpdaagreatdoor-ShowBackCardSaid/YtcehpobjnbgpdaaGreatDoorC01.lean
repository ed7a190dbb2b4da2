/- Merged by program. -/
import Derived.Test.YtcehpobjnbgpdaaGreatDoorC00
set_option linter.unusedVariables false
set_option linter.unusedSimpArgs false
namespace Go.Proofs.YtcehpobjnbgpdaaGreatDoor
open Go.RowKit
noncomputable def ownO (k n:Int) (s:ByteArray) (l:List VT):Int :=
 if k=0 then(if s.size=0/\l.length=0/\n=0 then 0 else 2)
 else if k=1 then(if s.size=0/\l.length=0/\(n=0\/n=1) then 0 else 2)
 else if k=2\/k=3 then chkOf k n s.size l.length
 else if k=4 then(if n=0/\l.length=0 then 0 else 2)
 else if k=5 then(if ¬textO s then 17 else if n=0/\l.length=0 then 0 else 2)
 else if k=6 then(if n=0/\s.size=0 then 0 else 2)
 else if k=7 then dictO n s.size l
 else if k=8 then(if s.size=0/\l.length=0/\1<=n/\n<=4096 then 0 else 2)
 else 2
theorem own_0 (n:Int) (s:ByteArray) (l:List VT):ownO 0 n s l=if s.size=0/\l.length=0/\n=0 then 0 else 2:=by rw [ownO,if_pos rfl]
theorem own_1 (n:Int) (s:ByteArray) (l:List VT):ownO 1 n s l=if s.size=0/\l.length=0/\(n=0\/n=1) then 0 else 2:=by rw [ownO,if_neg (by decide),if_pos rfl]
theorem own_2 (n:Int) (s:ByteArray) (l:List VT):ownO 2 n s l=chkOf 2 n s.size l.length:=by rw [ownO,if_neg (by decide),if_neg (by decide),if_pos (.inl rfl)]
theorem own_3 (n:Int) (s:ByteArray) (l:List VT):ownO 3 n s l=chkOf 3 n s.size l.length:=by rw [ownO,if_neg (by decide),if_neg (by decide),if_pos (.inr rfl)]
theorem own_4 (n:Int) (s:ByteArray) (l:List VT):ownO 4 n s l=if n=0/\l.length=0 then 0 else 2:=by rw [ownO,if_neg (by decide),if_neg (by decide),if_neg (by decide),if_pos rfl]
theorem own_5 (n:Int) (s:ByteArray) (l:List VT):ownO 5 n s l=if ¬textO s then 17 else if n=0/\l.length=0 then 0 else 2:=by rw [ownO,if_neg (by decide),if_neg (by decide),if_neg (by decide),if_neg (by decide),if_pos rfl]
theorem own_6 (n:Int) (s:ByteArray) (l:List VT):ownO 6 n s l=if n=0/\s.size=0 then 0 else 2:=by rw [ownO,if_neg (by decide),if_neg (by decide),if_neg (by decide),if_neg (by decide),if_neg (by decide),if_pos rfl]
theorem own_7 (n:Int) (s:ByteArray) (l:List VT):ownO 7 n s l=dictO n s.size l:=by rw [ownO,if_neg (by decide),if_neg (by decide),if_neg (by decide),if_neg (by decide),if_neg (by decide),if_neg (by decide),if_pos rfl]
theorem own_8 (n:Int) (s:ByteArray) (l:List VT):ownO 8 n s l=if s.size=0/\l.length=0/\1<=n/\n<=4096 then 0 else 2:=by rw [ownO,if_neg (by decide),if_neg (by decide),if_neg (by decide),if_neg (by decide),if_neg (by decide),if_neg (by decide),if_neg (by decide),if_pos rfl]
mutual
noncomputable def firstT:VT->Int
 |.mk k n s l=>if ownO k n s l≠0 then ownO k n s l else if k=6\/k=7 then firstL l else 0
noncomputable def firstL:List VT->Int
 |[]=>0
 |t::l=>if firstT t≠0 then firstT t else firstL l
end
theorem firstT_mk (k n:Int) (s:ByteArray) (l:List VT):firstT (.mk k n s l)=if ownO k n s l≠0 then ownO k n s l else if k=6\/k=7 then firstL l else 0:=by rw [firstT]
theorem firstL_cons (t:VT) (l:List VT):firstL (t::l)=if firstT t≠0 then firstT t else firstL l:=by rw [firstL]
noncomputable def checkT (t:VT):Int:=if 64<depthT t then 15 else firstT t
end Go.Proofs.YtcehpobjnbgpdaaGreatDoor
