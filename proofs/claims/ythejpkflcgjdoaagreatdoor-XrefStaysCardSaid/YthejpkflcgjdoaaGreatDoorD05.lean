/- Merged by program. -/
import Derived.Test.YthejpkflcgjdoaaGreatDoorD00
import Derived.Lib.LaidTab
import Derived.Lib.ItoaNum
import Derived.Lib.Repeat
import Derived.Sort.Grow
import Derived.Shelf.Strings.Builder1
import Derived.Shelf.Strings.Builder2
import Derived.Shelf.Strings.Trim
import Derived.Shelf.Small.Utf8
import Derived.Shelf.Small.Strs
import Derived.Shelf.Small.Wraps
import Derived.Shelf.Strings.BuilderF
import Derived.Shelf.Strconv.Itoa0
import Derived.Shelf.Strconv.Itoa1
import Derived.Shelf.LaysM
import Derived.Shelf.Strconv.Itoa2
import Derived.Shelf.Strconv.Itoa3
import Derived.Shelf.Bytes.GrowSliceCatch
import Derived.Shelf.Bytes.GrowSlice
import Derived.Shelf.Strings.Search1
import Derived.Shelf.Strings.Search2
import Derived.Shelf.Strings.Search3
import Derived.Shelf.Strings.Cut
import Derived.Shelf.Strings.Shaped
import Derived.Shelf.Bytes.LenAt
import Derived.Shelf.Bytes.TryGrowAt
import Derived.Shelf.GgClosure.StringsIndexFunc
import Derived.Ground.GgwProg
import Derived.Shelf.GgClosure.StringsIndexFuncTop
import Derived.Shelf.Strings.Prefix
import Derived.Shelf.Strings.Runes
import Derived.Shelf.Strings.AsciiSet
import Derived.Shelf.Bits.Mul64
import Derived.Shelf.Strings.Repeat
import Derived.Shelf.Unicode.DecodeSlow
import Derived.Shelf.Unicode.DecodeAny
import Derived.Shelf.Unicode.DecodeLast
import Derived.Shelf.Strings.FuncGrows
import Derived.BigRegion
import Derived.OwnWalk
import Derived.Deep.RegionHeld3
import Derived.Test.YthejpkflcgjdoaaGreatDoorRows
import Derived.MakeChecks
set_option linter.unusedVariables false
set_option linter.unusedSimpArgs false
namespace Go.Proofs.YthejpkflcgjdoaaGreatDoor
open Go.RowKit
structure LibOk (w:World):Prop where
 tab:Lib.TabIs Tryz.prog w "internal/strconv.uint64pow10" .u64 Lib.pow10Tab
 most:∃ m,w.cell? ⟨0,0,none⟩=some (.int .i64 m)
theorem cell_in {w:World} {a:Addr} {v:Value} (h:w.cell? a=some v):a.block<w.heap.size:=by
 rcases Nat.lt_or_ge a.block w.heap.size with h'|h'
 ·exact h'
 ·simp [World.cell?,Array.getElem?_eq_none h'] at h
theorem var_chg {P:Program} {w w':World} {n:String} {cs:Array Value} (h:w.var? P n=some cs) (hc:Chg NoS w w'):w'.var? P n=some cs:=by
 unfold World.var? at h ⊢
 cases hg:P.globalNamed n with
 |none=>simp [hg] at h
 |some g =>
  simp only [hg,Option.bind_some] at h ⊢
  have hlt:g<w.heap.size:=by
   rcases Nat.lt_or_ge g w.heap.size with h'|h'
   ·exact h'
   ·simp [Array.getElem?_eq_none h'] at h
  rw [hc.block g hlt (fun h=>h)]
  exact h
theorem LibOk.chg {w w':World} (h:LibOk w) (hc:Chg NoS w w'):LibOk w':=by
 obtain⟨m,hm⟩:=h.most
 exact⟨var_chg h.tab hc,m,(hc.cell (cell_in hm) (fun h=>h)).trans hm⟩
theorem chg_grow {w:World} (k:Nat) (os:Array Obj):Chg NoS w (Go.Sort.grow (w.drewN k) os) :=
 ⟨rfl,rfl,rfl,by rw [Go.Sort.size_grow];exact Nat.le_add_right _ _,fun i hi _=>Go.Sort.heap_grow_old _ _ hi⟩
theorem mk_sb (l:List UInt8):(⟨l.toArray⟩:ByteArray)=sb (l.map UInt8.toNat):=by
 unfold sb
 rw [List.map_map]
 have e:(UInt8.ofNat ∘ UInt8.toNat)=id:=by funext x;simp
 rw [e,List.map_id]
theorem of_dig (d:Nat) (h:d<10):(UInt8.ofNat (48+d)).toNat=48+d:=by
 simp
 omega
theorem dec_txt (u:Nat):(Lib.decDigits u).map UInt8.toNat=txt u 1:=by
 induction u using Nat.strongRecOn with
 |_ u ih =>
  rw [Lib.decDigits]
  by_cases h:u<10
  ·rw [dif_pos h,List.map_cons,List.map_nil,of_dig u h]
   by_cases h0:u=0
   ·subst h0;rw [txt,dn_0];rfl
   ·rw [txt,dn_s h0,show u / 10=0 from by omega,dn_0,show u%10=u from by omega]
    rfl
  ·rw [dif_neg h,List.map_append,ih (u / 10) (by omega),List.map_cons,List.map_nil,of_dig _ (by omega),txt_step u 1 (.inl (by omega))]
   rw [txt,txt]
   congr 1
   have h1:=dn_more (n:=u / 10) (k:=0) (by simp;omega)
   rw [show 1-(dn (u / 10)).length=0 from by omega,show 1-1-(dn (u / 10)).length=0 from by omega]
theorem itoa_pos (n:Int) (h:0<=n):(⟨(Lib.itoa n).toArray⟩:ByteArray)=sb (txt n.toNat 1):=by
 unfold Lib.itoa
 rw [if_neg (by omega),mk_sb,dec_txt]
theorem rep_zero:∀ c,Lib.repeatL [48] c=List.replicate c 48
 |0=>rfl
 |c+1=>by rw [Lib.repeatL,rep_zero c,List.replicate_succ];rfl
theorem rep_sb (c:Nat):(⟨(Lib.repeatL [48] c).toArray⟩:ByteArray)=sb (List.replicate c 48):=by
 rw [mk_sb,rep_zero,List.map_replicate]
 rfl
end Go.Proofs.YthejpkflcgjdoaaGreatDoor
namespace Go.Proofs
open Go.Shelf
def Tryz.lays119_ren:Go.Shelf.Ren:=⟨fun|119=>236|n=>n,fun|21=>21|4=>4|n=>n,fun|n=>n⟩
theorem Tryz.lays119:Go.Proofs.Lays.n119 Tryz.prog Tryz.lays119_ren:={
 mixed:=by kernel_rfl
 f119:=Tryz.func236.trans (congrArg some (by kernel_rfl))
 t4:=Tryz.underlying4
 a4:=Tryz.isAgg4
 z4:=Tryz.sizeOf4
 v4:=Tryz.zeroValue4
 t21:=Tryz.underlying21
 a21:=Tryz.isAgg21
 z21:=Tryz.sizeOf21
 v21:=Tryz.zeroValue21 }
theorem Tryz.utf8_ValidRune (r:Int) (w:World) :
  Calls Tryz.prog 236 #[.int .i32 r] w fun e w'=>e=.returned (.bool (Lib.validRune r))/\w'=w:=Any.utf8_ValidRune Tryz.lays119 r w
def Tryz.lays106_ren:Go.Shelf.Ren:=⟨fun|106=>56|213=>94|265=>130|n=>n,fun|9=>9|3=>3|n=>n,fun|n=>n⟩
theorem Tryz.lays106:Go.Proofs.Lays.n106 Tryz.prog Tryz.lays106_ren:={
 mixed:=by kernel_rfl
 f106:=Tryz.func56.trans (congrArg some (by kernel_rfl))
 f213:=Tryz.func94.trans (congrArg some (by kernel_rfl))
 f265:=Tryz.func130.trans (congrArg some (by kernel_rfl))
 t3:=Tryz.underlying3
 a3:=Tryz.isAgg3
 z3:=Tryz.sizeOf3
 v3:=Tryz.zeroValue3
 t9:=Tryz.underlying9
 a9:=Tryz.isAgg9
 z9:=Tryz.sizeOf9
 v9:=Tryz.zeroValue9 }
open Go.RowKit in
theorem Tryz.strings_Compare (a b:ByteArray) (w:World) :
  Calls Tryz.prog 56 #[.string a,.string b] w fun e w'=>e=.returned (.int .i64 (Lib.compareBytes a.data.toList b.data.toList))/\w'=w:=Any.strings_Compare Tryz.lays106 a b w
def Tryz.lays137_ren:Go.Shelf.Ren:=⟨fun|137=>235|217=>201|266=>225|n=>n,fun|9=>9|5=>5|3=>3|n=>n,fun|n=>n⟩
theorem Tryz.lays137:Go.Proofs.Lays.n137 Tryz.prog Tryz.lays137_ren:={
 mixed:=by kernel_rfl
 f137:=Tryz.func235.trans (congrArg some (by kernel_rfl))
 f217:=Tryz.func201.trans (congrArg some (by kernel_rfl))
 f266:=Tryz.func225.trans (congrArg some (by kernel_rfl))
 t3:=Tryz.underlying3
 a3:=Tryz.isAgg3
 z3:=Tryz.sizeOf3
 v3:=Tryz.zeroValue3
 t5:=Tryz.underlying5
 a5:=Tryz.isAgg5
 z5:=Tryz.sizeOf5
 v5:=Tryz.zeroValue5
 t9:=Tryz.underlying9
 a9:=Tryz.isAgg9
 z9:=Tryz.sizeOf9
 v9:=Tryz.zeroValue9 }
open Go.RowKit in
theorem Tryz.strings_IndexByte (s:ByteArray) (c:Int) (w:World) :
  Calls Tryz.prog 235 #[.string s,.int .u8 c] w fun e w'=>e=.returned (.int .i64 (Lib.indexByte s.data.toList c.toNat.toUInt8))/\w'=w:=Any.strings_IndexByte Tryz.lays137 s c w
def Tryz.lays103_ren:Go.Shelf.Ren:=⟨fun|103=>237|210=>241|206=>178|n=>n,fun|9=>9|4=>4|24=>260|3=>3|n=>n,fun|n=>n⟩
theorem Tryz.lays103:Go.Proofs.Lays.n103 Tryz.prog Tryz.lays103_ren:={
 mixed:=by kernel_rfl
 f103:=Tryz.func237.trans (congrArg some (by kernel_rfl))
 f206:=Tryz.func178.trans (congrArg some (by kernel_rfl))
 f210:=Tryz.func241.trans (congrArg some (by kernel_rfl))
 t3:=Tryz.underlying3
 a3:=Tryz.isAgg3
 z3:=Tryz.sizeOf3
 v3:=Tryz.zeroValue3
 t4:=Tryz.underlying4
 a4:=Tryz.isAgg4
 z4:=Tryz.sizeOf4
 v4:=Tryz.zeroValue4
 t9:=Tryz.underlying9
 a9:=Tryz.isAgg9
 z9:=Tryz.sizeOf9
 v9:=Tryz.zeroValue9
 t24:=Tryz.underlying260
 a24:=Tryz.isAgg260
 z24:=Tryz.sizeOf260
 v24:=Tryz.zeroValue260 }
open Go.RowKit in
theorem Tryz.strings_CutPrefix (s p:ByteArray) (w:World) :
  Calls Tryz.prog 237 #[.string s,.string p] w fun e w'=>e=.returned (.tuple #[.string ⟨(Lib.trimPrefix s.data.toList p.data.toList).toArray⟩,.bool (Lib.hasPrefix s.data.toList p.data.toList)])/\w'=w:=Any.strings_CutPrefix Tryz.lays103 s p w
def Tryz.lays122_ren:Go.Shelf.Ren:=⟨fun|122=>89|215=>127|n=>n,fun|3=>3|4=>4|n=>n,fun|n=>n⟩
theorem Tryz.lays122:Go.Proofs.Lays.n122 Tryz.prog Tryz.lays122_ren:={
 mixed:=by kernel_rfl
 f122:=Tryz.func89.trans (congrArg some (by kernel_rfl))
 f215:=Tryz.func127.trans (congrArg some (by kernel_rfl))
 t3:=Tryz.underlying3
 a3:=Tryz.isAgg3
 z3:=Tryz.sizeOf3
 v3:=Tryz.zeroValue3
 t4:=Tryz.underlying4
 a4:=Tryz.isAgg4
 z4:=Tryz.sizeOf4
 v4:=Tryz.zeroValue4 }
open Go.RowKit in
theorem Tryz.cmp_Compare_int (x y:Int) (w:World) :
  Calls Tryz.prog 89 #[.int .i64 x,.int .i64 y] w fun e w'=>e=.returned (.int .i64 (Lib.compareInt x y))/\w'=w:=Any.cmp_Compare_int Tryz.lays122 x y w
def Tryz.laysM171_ren:Go.Shelf.Ren:=⟨fun|171=>100|243=>142|246=>175|283=>196|284=>197|285=>198|286=>199|129=>221|317=>220|318=>222|319=>223|320=>224|337=>233|338=>234|n=>n,fun|3=>3|9=>9|2=>2|4=>4|171=>232|0=>0|53=>219|37=>32|5=>5|173=>235|212=>255|51=>216|20=>20|213=>256|46=>97|232=>266|233=>267|n=>n,fun|17=>2|18=>3|19=>4|n=>n⟩
theorem Tryz.laysM171:Go.Proofs.LaysM.n171 Tryz.prog Tryz.laysM171_ren:={
 mixed:=by kernel_rfl
 f129:=Tryz.func221.trans (congrArg some (by kernel_rfl))
 f171:=Tryz.func100.trans (congrArg some (by kernel_rfl))
 f243:=Tryz.func142.trans (congrArg some (by kernel_rfl))
 f246:=Tryz.func175.trans (congrArg some (by kernel_rfl))
 f283:=Tryz.func196.trans (congrArg some (by kernel_rfl))
 f284:=Tryz.func197.trans (congrArg some (by kernel_rfl))
 f285:=Tryz.func198.trans (congrArg some (by kernel_rfl))
 f286:=Tryz.func199.trans (congrArg some (by kernel_rfl))
 f317:=Tryz.func220.trans (congrArg some (by kernel_rfl))
 f318:=Tryz.func222.trans (congrArg some (by kernel_rfl))
 f319:=Tryz.func223.trans (congrArg some (by kernel_rfl))
 f320:=Tryz.func224.trans (congrArg some (by kernel_rfl))
 f337:=Tryz.func233.trans (congrArg some (by kernel_rfl))
 f338:=Tryz.func234.trans (congrArg some (by kernel_rfl))
 t0:=Tryz.underlying0
 a0:=Tryz.isAgg0
 z0:=Tryz.sizeOf0
 v0:=Tryz.zeroValue0
 t2:=Tryz.underlying2
 a2:=Tryz.isAgg2
 z2:=Tryz.sizeOf2
 v2:=Tryz.zeroValue2
 t3:=Tryz.underlying3
 a3:=Tryz.isAgg3
 z3:=Tryz.sizeOf3
 v3:=Tryz.zeroValue3
 t4:=Tryz.underlying4
 a4:=Tryz.isAgg4
 z4:=Tryz.sizeOf4
 v4:=Tryz.zeroValue4
 t5:=Tryz.underlying5
 a5:=Tryz.isAgg5
 z5:=Tryz.sizeOf5
 v5:=Tryz.zeroValue5
 t9:=Tryz.underlying9
 a9:=Tryz.isAgg9
 z9:=Tryz.sizeOf9
 v9:=Tryz.zeroValue9
 t20:=Tryz.underlying20
 a20:=Tryz.isAgg20
 z20:=Tryz.sizeOf20
 v20:=Tryz.zeroValue20
 t37:=Tryz.underlying32
 a37:=Tryz.isAgg32
 z37:=Tryz.sizeOf32
 v37:=Tryz.zeroValue32
 t46:=Tryz.underlying97
 a46:=Tryz.isAgg97
 z46:=Tryz.sizeOf97
 v46:=Tryz.zeroValue97
 t51:=Tryz.underlying216
 a51:=Tryz.isAgg216
 z51:=Tryz.sizeOf216
 v51:=Tryz.zeroValue216
 t53:=Tryz.underlying219
 a53:=Tryz.isAgg219
 z53:=Tryz.sizeOf219
 v53:=Tryz.zeroValue219
 t171:=Tryz.underlying232
 a171:=Tryz.isAgg232
 z171:=Tryz.sizeOf232
 v171:=Tryz.zeroValue232
 t173:=Tryz.underlying235
 a173:=Tryz.isAgg235
 z173:=Tryz.sizeOf235
 v173:=Tryz.zeroValue235
 t212:=Tryz.underlying255
 a212:=Tryz.isAgg255
 z212:=Tryz.sizeOf255
 v212:=Tryz.zeroValue255
 t213:=Tryz.underlying256
 a213:=Tryz.isAgg256
 z213:=Tryz.sizeOf256
 t232:=Tryz.underlying266
 a232:=Tryz.isAgg266
 z232:=Tryz.sizeOf266
 v232:=Tryz.zeroValue266
 t233:=Tryz.underlying267
 a233:=Tryz.isAgg267
 z233:=Tryz.sizeOf267
 v233:=Tryz.zeroValue267
 g17:=by kernel_rfl
 g18:=by kernel_rfl
 g19:=by kernel_rfl
 i0:=by kernel_rfl
 i2:=by kernel_rfl
 i3:=by kernel_rfl
 i4:=by kernel_rfl
 i5:=by kernel_rfl
 i9:=by kernel_rfl
 i20:=by kernel_rfl
 i37:=by kernel_rfl
 i46:=by kernel_rfl
 i51:=by kernel_rfl
 i53:=by kernel_rfl
 i171:=by kernel_rfl
 i173:=by kernel_rfl
 i212:=by kernel_rfl
 i232:=by kernel_rfl
 i233:=by kernel_rfl
 m17:=by kernel_rfl
 m18:=by kernel_rfl
 m19:=by kernel_rfl }
open Go.RowKit Go.Sort Go.Lib in
theorem Tryz.strconv_Itoa (n:Int) (h0:-9223372036854775808<=n) (h1:n<=9223372036854775807) (w:World) (htab:Lib.TabIs Tryz.prog w "internal/strconv.uint64pow10" .u64 Lib.pow10Tab) :
  Calls Tryz.prog 100 #[.int .i64 n] w fun e w'=>e=.returned (.string ⟨(Lib.itoa n).toArray⟩)/\∃ k os,w'=grow (w.drewN k) os:=Any.strconv_Itoa Tryz.laysM171 n h0 h1 w htab
def Tryz.lays219_ren:Go.Shelf.Ren:=⟨fun|219=>180|217=>201|225=>202|224=>203|267=>204|266=>225|314=>226|n=>n,fun|9=>9|3=>3|4=>4|5=>5|46=>97|146=>217|51=>216|n=>n,fun|1=>0|n=>n⟩
theorem Tryz.lays219:Go.Proofs.Lays.n219 Tryz.prog Tryz.lays219_ren:={
 mixed:=by kernel_rfl
 f217:=Tryz.func201.trans (congrArg some (by kernel_rfl))
 f219:=Tryz.func180.trans (congrArg some (by kernel_rfl))
 f224:=Tryz.func203.trans (congrArg some (by kernel_rfl))
 f225:=Tryz.func202.trans (congrArg some (by kernel_rfl))
 f266:=Tryz.func225.trans (congrArg some (by kernel_rfl))
 f267:=Tryz.func204.trans (congrArg some (by kernel_rfl))
 f314:=Tryz.func226.trans (congrArg some (by kernel_rfl))
 t3:=Tryz.underlying3
 a3:=Tryz.isAgg3
 z3:=Tryz.sizeOf3
 v3:=Tryz.zeroValue3
 t4:=Tryz.underlying4
 a4:=Tryz.isAgg4
 z4:=Tryz.sizeOf4
 v4:=Tryz.zeroValue4
 t5:=Tryz.underlying5
 a5:=Tryz.isAgg5
 z5:=Tryz.sizeOf5
 v5:=Tryz.zeroValue5
 t9:=Tryz.underlying9
 a9:=Tryz.isAgg9
 z9:=Tryz.sizeOf9
 v9:=Tryz.zeroValue9
 t46:=Tryz.underlying97
 a46:=Tryz.isAgg97
 z46:=Tryz.sizeOf97
 v46:=Tryz.zeroValue97
 t51:=Tryz.underlying216
 a51:=Tryz.isAgg216
 z51:=Tryz.sizeOf216
 v51:=Tryz.zeroValue216
 t146:=Tryz.underlying217
 a146:=Tryz.isAgg217
 z146:=Tryz.sizeOf217
 v146:=Tryz.zeroValue217
 g1:=by kernel_rfl }
open Go.RowKit Go.Lib in
theorem Tryz.stringslite_Index_one (s:ByteArray) (c:UInt8) (w:World) :
  Calls Tryz.prog 180 #[.string s,.string ⟨#[c]⟩] w fun e w'=>e=.returned (.int .i64 (Lib.indexByte s.data.toList c))/\w'=w:=Any.stringslite_Index_one Tryz.lays219 s c w
def Tryz.laysM145_ren:Go.Shelf.Ren:=⟨fun|145=>210|220=>227|219=>180|217=>201|225=>202|224=>203|267=>204|266=>225|314=>226|n=>n,fun|9=>9|4=>4|59=>242|3=>3|5=>5|46=>97|146=>217|51=>216|n=>n,fun|1=>0|n=>n⟩
theorem Tryz.laysM145:Go.Proofs.LaysM.n145 Tryz.prog Tryz.laysM145_ren:={
 mixed:=by kernel_rfl
 f145:=Tryz.func210.trans (congrArg some (by kernel_rfl))
 f217:=Tryz.func201.trans (congrArg some (by kernel_rfl))
 f219:=Tryz.func180.trans (congrArg some (by kernel_rfl))
 f220:=Tryz.func227.trans (congrArg some (by kernel_rfl))
 f224:=Tryz.func203.trans (congrArg some (by kernel_rfl))
 f225:=Tryz.func202.trans (congrArg some (by kernel_rfl))
 f266:=Tryz.func225.trans (congrArg some (by kernel_rfl))
 f267:=Tryz.func204.trans (congrArg some (by kernel_rfl))
 f314:=Tryz.func226.trans (congrArg some (by kernel_rfl))
 t3:=Tryz.underlying3
 a3:=Tryz.isAgg3
 z3:=Tryz.sizeOf3
 v3:=Tryz.zeroValue3
 t4:=Tryz.underlying4
 a4:=Tryz.isAgg4
 z4:=Tryz.sizeOf4
 v4:=Tryz.zeroValue4
 t5:=Tryz.underlying5
 a5:=Tryz.isAgg5
 z5:=Tryz.sizeOf5
 v5:=Tryz.zeroValue5
 t9:=Tryz.underlying9
 a9:=Tryz.isAgg9
 z9:=Tryz.sizeOf9
 v9:=Tryz.zeroValue9
 t46:=Tryz.underlying97
 a46:=Tryz.isAgg97
 z46:=Tryz.sizeOf97
 v46:=Tryz.zeroValue97
 t51:=Tryz.underlying216
 a51:=Tryz.isAgg216
 z51:=Tryz.sizeOf216
 v51:=Tryz.zeroValue216
 t59:=Tryz.underlying242
 a59:=Tryz.isAgg242
 z59:=Tryz.sizeOf242
 v59:=Tryz.zeroValue242
 t146:=Tryz.underlying217
 a146:=Tryz.isAgg217
 z146:=Tryz.sizeOf217
 v146:=Tryz.zeroValue217
 g1:=by kernel_rfl
 i3:=by kernel_rfl
 i4:=by kernel_rfl
 i5:=by kernel_rfl
 i9:=by kernel_rfl
 i46:=by kernel_rfl
 i51:=by kernel_rfl
 i59:=by kernel_rfl
 i146:=by kernel_rfl
 m1:=by kernel_rfl
 s1_3:=fun w h=>Go.Proofs.cell_of_shapedOpen_int (zero:=#[.int .i64 0]) (t:=3) h (of_decide_eq_true (by kernel_rfl)) (by kernel_rfl) rfl (by kernel_rfl) (by kernel_rfl) Tryz.underlying3 }
def Tryz.lays101_ren:Go.Shelf.Ren:=⟨fun|101=>238|208=>242|206=>178|n=>n,fun|9=>9|4=>4|3=>3|n=>n,fun|n=>n⟩
theorem Tryz.lays101:Go.Proofs.Lays.n101 Tryz.prog Tryz.lays101_ren:={
 mixed:=by kernel_rfl
 f101:=Tryz.func238.trans (congrArg some (by kernel_rfl))
 f206:=Tryz.func178.trans (congrArg some (by kernel_rfl))
 f208:=Tryz.func242.trans (congrArg some (by kernel_rfl))
 t3:=Tryz.underlying3
 a3:=Tryz.isAgg3
 z3:=Tryz.sizeOf3
 v3:=Tryz.zeroValue3
 t4:=Tryz.underlying4
 a4:=Tryz.isAgg4
 z4:=Tryz.sizeOf4
 v4:=Tryz.zeroValue4
 t9:=Tryz.underlying9
 a9:=Tryz.isAgg9
 z9:=Tryz.sizeOf9
 v9:=Tryz.zeroValue9 }
open Go.RowKit Go.Lib in
theorem Tryz.strings_TrimPrefix (s p:ByteArray) (w:World) :
  Calls Tryz.prog 238 #[.string s,.string p] w fun e w'=>e=.returned (.string ⟨(Lib.trimPrefix s.data.toList p.data.toList).toArray⟩)/\w'=w:=Any.strings_TrimPrefix Tryz.lays101 s p w
def Tryz.lays151_ren:Go.Shelf.Ren:=⟨fun|151=>212|152=>228|137=>235|119=>236|224=>203|225=>202|217=>201|266=>225|n=>n,fun|9=>9|21=>21|4=>4|3=>3|5=>5|0=>0|46=>97|n=>n,fun|n=>n⟩
theorem Tryz.lays151:Go.Proofs.Lays.n151 Tryz.prog Tryz.lays151_ren:={
 mixed:=by kernel_rfl
 f119:=Tryz.func236.trans (congrArg some (by kernel_rfl))
 f137:=Tryz.func235.trans (congrArg some (by kernel_rfl))
 f151:=Tryz.func212.trans (congrArg some (by kernel_rfl))
 f152:=Tryz.func228.trans (congrArg some (by kernel_rfl))
 f217:=Tryz.func201.trans (congrArg some (by kernel_rfl))
 f224:=Tryz.func203.trans (congrArg some (by kernel_rfl))
 f225:=Tryz.func202.trans (congrArg some (by kernel_rfl))
 f266:=Tryz.func225.trans (congrArg some (by kernel_rfl))
 t0:=Tryz.underlying0
 a0:=Tryz.isAgg0
 z0:=Tryz.sizeOf0
 v0:=Tryz.zeroValue0
 t3:=Tryz.underlying3
 a3:=Tryz.isAgg3
 z3:=Tryz.sizeOf3
 v3:=Tryz.zeroValue3
 t4:=Tryz.underlying4
 a4:=Tryz.isAgg4
 z4:=Tryz.sizeOf4
 v4:=Tryz.zeroValue4
 t5:=Tryz.underlying5
 a5:=Tryz.isAgg5
 z5:=Tryz.sizeOf5
 v5:=Tryz.zeroValue5
 t9:=Tryz.underlying9
 a9:=Tryz.isAgg9
 z9:=Tryz.sizeOf9
 v9:=Tryz.zeroValue9
 t21:=Tryz.underlying21
 a21:=Tryz.isAgg21
 z21:=Tryz.sizeOf21
 v21:=Tryz.zeroValue21
 t46:=Tryz.underlying97
 a46:=Tryz.isAgg97
 z46:=Tryz.sizeOf97
 v46:=Tryz.zeroValue97 }
open Go.RowKit Go.Lib in
theorem Tryz.strings_ContainsRune_ascii (s:ByteArray) (r:Int) (w:World) (h0:0<=r) (h1:r<128) :
  Calls Tryz.prog 212 #[.string s,.int .i32 r] w fun e w'=>e=.returned (.bool (decide (0<=Lib.indexByte s.data.toList r.toNat.toUInt8)))/\w'=w:=Any.strings_ContainsRune_ascii Tryz.lays151 s r w h0 h1
def Tryz.lays105_ren:Go.Shelf.Ren:=⟨fun|105=>101|212=>143|99=>144|165=>145|166=>136|170=>146|169=>99|263=>176|264=>177|206=>178|240=>166|241=>179|276=>194|277=>200|n=>n,fun|9=>9|3=>3|4=>4|20=>20|0=>0|46=>97|109=>193|5=>5|72=>155|76=>117|51=>216|146=>217|53=>219|148=>220|70=>153|37=>32|75=>116|127=>192|164=>229|80=>159|n=>n,fun|n=>n⟩
theorem Tryz.lays105:Go.Proofs.Lays.n105 Tryz.prog Tryz.lays105_ren:={
 mixed:=by kernel_rfl
 f99:=Tryz.func144.trans (congrArg some (by kernel_rfl))
 f105:=Tryz.func101.trans (congrArg some (by kernel_rfl))
 f165:=Tryz.func145.trans (congrArg some (by kernel_rfl))
 f166:=Tryz.func136.trans (congrArg some (by kernel_rfl))
 f169:=Tryz.func99.trans (congrArg some (by kernel_rfl))
 f170:=Tryz.func146.trans (congrArg some (by kernel_rfl))
 f206:=Tryz.func178.trans (congrArg some (by kernel_rfl))
 f212:=Tryz.func143.trans (congrArg some (by kernel_rfl))
 f240:=Tryz.func166.trans (congrArg some (by kernel_rfl))
 f241:=Tryz.func179.trans (congrArg some (by kernel_rfl))
 f263:=Tryz.func176.trans (congrArg some (by kernel_rfl))
 f264:=Tryz.func177.trans (congrArg some (by kernel_rfl))
 f276:=Tryz.func194.trans (congrArg some (by kernel_rfl))
 f277:=Tryz.func200.trans (congrArg some (by kernel_rfl))
 t0:=Tryz.underlying0
 a0:=Tryz.isAgg0
 z0:=Tryz.sizeOf0
 v0:=Tryz.zeroValue0
 t3:=Tryz.underlying3
 a3:=Tryz.isAgg3
 z3:=Tryz.sizeOf3
 v3:=Tryz.zeroValue3
 t4:=Tryz.underlying4
 a4:=Tryz.isAgg4
 z4:=Tryz.sizeOf4
 v4:=Tryz.zeroValue4
 t5:=Tryz.underlying5
 a5:=Tryz.isAgg5
 z5:=Tryz.sizeOf5
 v5:=Tryz.zeroValue5
 t9:=Tryz.underlying9
 a9:=Tryz.isAgg9
 z9:=Tryz.sizeOf9
 v9:=Tryz.zeroValue9
 t20:=Tryz.underlying20
 a20:=Tryz.isAgg20
 z20:=Tryz.sizeOf20
 v20:=Tryz.zeroValue20
 t37:=Tryz.underlying32
 a37:=Tryz.isAgg32
 z37:=Tryz.sizeOf32
 v37:=Tryz.zeroValue32
 t46:=Tryz.underlying97
 a46:=Tryz.isAgg97
 z46:=Tryz.sizeOf97
 v46:=Tryz.zeroValue97
 t51:=Tryz.underlying216
 a51:=Tryz.isAgg216
 z51:=Tryz.sizeOf216
 v51:=Tryz.zeroValue216
 t53:=Tryz.underlying219
 a53:=Tryz.isAgg219
 z53:=Tryz.sizeOf219
 v53:=Tryz.zeroValue219
 t70:=Tryz.underlying153
 a70:=Tryz.isAgg153
 z70:=Tryz.sizeOf153
 v70:=Tryz.zeroValue153
 t72:=Tryz.underlying155
 a72:=Tryz.isAgg155
 z72:=Tryz.sizeOf155
 v72:=Tryz.zeroValue155
 t75:=Tryz.underlying116
 a75:=Tryz.isAgg116
 z75:=Tryz.sizeOf116
 v75:=Tryz.zeroValue116
 t76:=Tryz.underlying117
 a76:=Tryz.isAgg117
 z76:=Tryz.sizeOf117
 v76:=Tryz.zeroValue117
 t109:=Tryz.underlying193
 a109:=Tryz.isAgg193
 z109:=Tryz.sizeOf193
 v109:=Tryz.zeroValue193
 t127:=Tryz.underlying192
 a127:=Tryz.isAgg192
 z127:=Tryz.sizeOf192
 v127:=Tryz.zeroValue192
 t146:=Tryz.underlying217
 a146:=Tryz.isAgg217
 z146:=Tryz.sizeOf217
 v146:=Tryz.zeroValue217
 t148:=Tryz.underlying220
 a148:=Tryz.isAgg220
 z148:=Tryz.sizeOf220
 v148:=Tryz.zeroValue220
 t164:=Tryz.underlying229
 a164:=Tryz.isAgg229
 z164:=Tryz.sizeOf229
 v164:=Tryz.zeroValue229 }
theorem Tryz.Builder_Extra_105:Builder.Extra Tryz.prog Tryz.lays105_ren:={
 sizeBuilder:=by kernel_rfl
 liesBuilder:=by kernel_rfl
 t5:=Tryz.underlying5
 a5:=Tryz.isAgg5
 z5:=Tryz.sizeOf5
 v5:=Tryz.zeroValue5
 infoByte:=by kernel_rfl
 cellsByte:=by kernel_rfl
 sizeByte:=by kernel_rfl
 neB5:=by decide }
open Go.RowKit Go.Lib in
theorem Tryz.strings_Repeat (s:ByteArray) (c:Nat) (w:World) (hc:c<=9223372036854775807) (hlen:s.size*c<=140737488355328) :
  Calls Tryz.prog 101 #[.string s,.int .i64 c] w fun e w'=>e=.returned (.string ⟨(Lib.repeatL s.data.toList c).toArray⟩)/\Below w.heap.size w w':=Any.strings_Repeat Tryz.lays105 Tryz.Builder_Extra_105 s c w hc hlen
end Go.Proofs
namespace Go.Proofs.YthejpkflcgjdoaaGreatDoor
open Go.RowKit
def cutB (c:Nat):List Nat->List Nat × List Nat × Bool
 |[]=>([],[],false)
 |x::l=>if x=c then([],l,true) else(x::(cutB c l).1,(cutB c l).2.1,(cutB c l).2.2)
theorem cutB_at (c:UInt8):∀ (l:List UInt8),(Lib.indexByte l c=-1/\cutB c.toNat (l.map UInt8.toNat)=(l.map UInt8.toNat,[],false)) \/
  ∃ i:Nat,Lib.indexByte l c=i/\i<l.length/\cutB c.toNat (l.map UInt8.toNat)=((l.map UInt8.toNat).take i,(l.map UInt8.toNat).drop (i+1),true):=by
 intro l
 induction l with
 |nil=>exact .inl ⟨rfl,rfl⟩
 |cons x l ih =>
  rw [List.map_cons,cutB,Lib.indexByte]
  by_cases h:x=c
  ·subst h
   exact .inr ⟨0,by simp,by simp,by simp⟩
  ·have h2:¬x.toNat=c.toNat:=fun h2=>h (UInt8.toNat_inj.1 h2)
   have h3:(x==c)=false:=by simpa using h
   rw [if_neg h2]
   rcases ih with⟨h4,h5⟩|⟨i,h4,h5,h6⟩
   ·refine .inl ⟨?_,by rw [h5]⟩
    simp [h3,h4]
   ·refine .inr ⟨i+1,?_,by simpa using h5,by rw [h6];simp⟩
    simp [h3,h4]
theorem cutB_take {l:List Nat} (n:Nat):(sb l).extract 0 n=sb (l.take n):=by
 unfold sb
 apply ByteArray.ext
 rw [ByteArray.data_extract]
 simp [List.map_take]
theorem cutB_drop {l:List Nat} (n m:Nat) (h:l.length=m):(sb l).extract n m=sb (l.drop n):=by
 unfold sb
 apply ByteArray.ext
 rw [ByteArray.data_extract]
 simp only [List.extract_toArray,List.extract_eq_take_drop,List.map_drop]
 congr 1
 exact List.take_of_length_le (by rw [List.length_drop,List.length_map];omega)
set_option maxHeartbeats 1000000 in
theorem cutI_any (c:UInt8) (m:List Nat) (hb:∀ d∈m,d<256) (hl:m.length<=1000000) (w:World) :
  Calls Tryz.prog 227 #[.string (sb m),.string ⟨#[c]⟩] w fun e w'=>e=.returned (.tuple #[.string (sb (cutB c.toNat m).1),.string (sb (cutB c.toNat m).2.1),.bool (cutB c.toNat m).2.2])/\Chg NoS w w':=by
 have hm:(sb m).data.toList.map UInt8.toNat=m:=sl_sb m hb
 have HC:=kf (cutB_at c (sb m).data.toList)
 have HI:=kf (fun W=>Go.Proofs.Tryz.stringslite_Index_one (sb m) c W)
 rw [hm] at HC
 obtain⟨z,hz⟩:∃ z,Lib.indexByte (sb m).data.toList c=z:=⟨_,rfl⟩
 rw [hz] at HC HI
 have hlen:(sb m).data.toList.length=m.length:=by rw [<- List.length_map (f:=UInt8.toNat),hm]
 rw [hlen] at HC
 obtain⟨n,hn⟩:∃ n,m.length=n:=⟨_,rfl⟩
 have hs:(sb m).size=n:=by rw [sb_size,hn]
 obtain⟨t,ht⟩:∃ t,sb m=t:=⟨_,rfl⟩
 rcases HC.out with⟨rfl,h2⟩|⟨i,rfl,hi,h2⟩
 ·have HE:=kf h2
  rw [ht] at HI ⊢
  have HT:=kf ht
  clear HC h2 hm hz hlen ht
  go_enter Tryz.func227,Tryz.ntmps227
  go_wp2_with (go_at_call 180;refine(HI.out _).mono ?_;rintro e w2 ⟨rfl,rfl⟩)
  go_ret3
  rw [HE.out]
  exact⟨by rw [show(m,([]:List Nat),false).1=m from rfl,HT.out];rfl,Chg.refl _ _⟩
 ·have HE:=kf h2
  have e1:=cutB_take (l:=m) i
  have e2:=cutB_drop (l:=m) (i+1) n hn
  obtain⟨a,ha⟩:∃ a,sb (m.take i)=a:=⟨_,rfl⟩
  obtain⟨b,hb2⟩:∃ b,sb (m.drop (i+1))=b:=⟨_,rfl⟩
  rw [ht] at HI hs e1 e2 ⊢
  rw [ha] at e1
  rw [hb2] at e2
  rw [hn] at hi hl
  have i1:(i:Int)<=n:=by omega
  have i2:(i:Int)+1<=n:=by omega
  have i3:(0:Int)<=(i:Int)+1:=by omega
  have i4:i<=n:=by omega
  have i5:i+1<=n:=by omega
  have i6:((i:Int)+1).toNat=i+1:=by omega
  have d1:decide ((0:Int)<=i)=true:=by simp
  have k1:IntKind.i64.wrap ((i:Int)+1)=(i:Int)+1:=by rw [IntKind.wrap_i64];omega
  have HA:=kf ha
  have HB:=kf hb2
  clear HC h2 hm hz hlen ht hi ha hb2 hn hb
  go_enter Tryz.func227,Tryz.ntmps227
  go_upto_region 3 with(go_at_call 180;refine(HI.out _).mono ?_;rintro e w2 ⟨rfl,rfl⟩)
  go_quiet (fail)
  go_wp2_with fail
  go_ret3
  rw [HE.out]
  exact⟨by rw [show(m.take i,m.drop (i+1),true).1=m.take i from rfl,show(m.take i,m.drop (i+1),true).2.1=m.drop (i+1) from rfl,HA.out,HB.out];rfl,(Chg.refl _ _).drewN nq⟩
theorem cutF_any (c:UInt8) (m:List Nat) (hb:∀ d∈m,d<256) (hl:m.length<=1000000) (w:World) :
  Calls Tryz.prog 210 #[.string (sb m),.string ⟨#[c]⟩] w fun e w'=>e=.returned (.tuple #[.string (sb (cutB c.toNat m).1),.string (sb (cutB c.toNat m).2.1),.bool (cutB c.toNat m).2.2])/\Chg NoS w w':=by
 have H:=kf (fun W=>cutI_any c m hb hl W)
 obtain⟨t,ht⟩:∃ t,sb m=t:=⟨_,rfl⟩
 obtain⟨a,ha⟩:∃ a,sb (cutB c.toNat m).1=a:=⟨_,rfl⟩
 obtain⟨b,hb2⟩:∃ b,sb (cutB c.toNat m).2.1=b:=⟨_,rfl⟩
 obtain⟨f,hf⟩:∃ f,(cutB c.toNat m).2.2=f:=⟨_,rfl⟩
 rw [ht,ha,hb2,hf] at H
 rw [ht,ha,hb2,hf]
 clear ht ha hb2 hf hb hl
 go_enter Tryz.func210,Tryz.ntmps210
 go_wp2_with (go_at_call 227;refine(H.out _).mono ?_;rintro e w2 ⟨rfl,hc2⟩;have HC2:=kf hc2;clear hc2)
 go_ret3
 exact⟨rfl,HC2.out⟩
theorem itoa_any (n:Nat) (hn:n<=9223372036854775807) (w:World) (h:LibOk w) :
  Calls Tryz.prog 100 #[.int .i64 (n:Nat)] w fun e w'=>e=.returned (.string (sb (txt n 1)))/\Chg NoS w w' :=
 (Go.Proofs.Tryz.strconv_Itoa (n:Int) (by omega) (by omega) w h.tab).mono fun e w' hh=>by
  obtain⟨he,k,os,rfl⟩:=hh
  refine⟨?_,chg_grow k os⟩
  rw [he,itoa_pos _ (by omega)]
  rfl
theorem rep_any (c:Nat) (hc:c<=1000) (w:World) :
  Calls Tryz.prog 101 #[.string ⟨#[48]⟩,.int .i64 (c:Nat)] w fun e w'=>e=.returned (.string (sb (List.replicate c 48)))/\Chg NoS w w' :=
 (Go.Proofs.Tryz.strings_Repeat ⟨#[48]⟩ c w (by omega) (by show 1*c<=_;omega)).mono fun e w' hh=>by
  obtain⟨he,hb⟩:=hh
  refine⟨?_,Chg.of_below hb⟩
  rw [he]
  show Ending.returned (Value.string ⟨(Lib.repeatL [48] c).toArray⟩)=_
  rw [rep_sb]
theorem txt_pad (n d:Nat) (h:1<=d):List.replicate (d-(txt n 1).length) 48++txt n 1=txt n d:=by
 by_cases h0:n=0
 ·subst h0
  rw [txt,txt,dn_0]
  simp only [List.length_nil,Nat.sub_zero,List.append_nil,List.length_replicate,List.replicate_append_replicate]
  rw [show d-1+(1-0)=d from by omega]
 ·have h1:=dn_more (n:=n) (k:=0) (by simp;omega)
  rw [txt,txt,show 1-(dn n).length=0 from by omega]
  rfl
set_option maxHeartbeats 1000000 in
theorem padded_any (n d:Nat) (hn:n<=9223372036854775807) (hd:1<=d/\d<=20) (w:World) (hL:LibOk w) :
  Calls Tryz.prog 62 #[.int .i64 (n:Nat),.int .i64 (d:Nat)] w fun e w'=>e=.returned (.string (sb (txt n d)))/\Chg NoS w w':=by
 obtain⟨L,hLn⟩:∃ L,(txt n 1).length=L:=⟨_,rfl⟩
 have hL20:L<=100:=by
  have h1:(dn n).length<=19:=dn_len (by omega)
  rw [<- hLn,txt_len]
  omega
 obtain⟨t,ht⟩:∃ t,sb (txt n 1)=t:=⟨_,rfl⟩
 have hts:t.size=L:=by rw [<- ht,sb_size,hLn]
 obtain⟨c,hc⟩:∃ c:Nat,d-L=c:=⟨_,rfl⟩
 have e1:max (0:Int) ((d:Int)-(L:Int))=(c:Int):=by omega
 obtain⟨r,hr⟩:∃ r,sb (List.replicate c 48)=r:=⟨_,rfl⟩
 have hrs:r.size=c:=by rw [<- hr,sb_size,List.length_replicate]
 have HI:=kf (itoa_any n hn w hL)
 have HR:=kf (fun W=>rep_any c (by omega) W)
 rw [ht] at HI
 rw [hr] at HR
 have HE:Hid (r++t=sb (txt n d)):=by
  show _=_
  rw [<- hr,<- ht,sb_app,<- hc,<- hLn,txt_pad n d hd.1]
 have hc20:c<=20:=by omega
 clear hL hLn ht hr
 have HCD:=kf hc
 clear hc
 go_enter Tryz.func62,Tryz.ntmps62
 go_wp2_with first|(go_at_call 100;refine HI.out.mono ?_;rintro e w2 ⟨rfl,hc2⟩;have HC2:=kf hc2;clear hc2)|(go_at_call 101;refine(HR.out _).mono ?_;rintro e w3 ⟨rfl,hc3⟩;have HC3:=kf (HC2.out.trans hc3 (fun _ _ h=>h));clear hc3)
 go_ret
 rw [<- HE.out]
 exact⟨rfl,HC3.out⟩
set_option maxHeartbeats 1000000 in
theorem pad_any (n d:Int) (w:World) (h0:-9223372036854775808<=n/\n<=9223372036854775807) (h1:-9223372036854775808<=d/\d<=9223372036854775807) (hL:LibOk w) :
  Calls Tryz.prog 30 #[.int .i64 n,.int .i64 d] w fun e w'=>e=.returned (.tuple #[.string (sb (padOf n d).1),.int .i64 (padOf n d).2])/\Chg NoS w w':=by
 by_cases c1:n<0
 ·have HB:Hid (padOf n d=([],2)):=pad_bad (.inl c1)
  have d1:decide (n<0)=true:=by simpa using c1
  clear c1 h0 h1
  go_enter Tryz.func30,Tryz.ntmps30
  go_wp2_with fail
  go_ret2
  rw [HB.out]
  exact⟨rfl,Chg.refl _ _⟩
 ·have d1:decide (n<0)=false:=by simpa using c1
  by_cases c2:d<1
  ·have HB:Hid (padOf n d=([],2)):=pad_bad (.inr (.inl c2))
   have d2:decide (d<1)=true:=by simpa using c2
   clear c1 c2 h0 h1
   go_enter Tryz.func30,Tryz.ntmps30
   go_wp2_with fail
   go_ret2
   rw [HB.out]
   exact⟨rfl,Chg.refl _ _⟩
  ·have d2:decide (d<1)=false:=by simpa using c2
   by_cases c3:20<d
   ·have HB:Hid (padOf n d=([],2)):=pad_bad (.inr (.inr (.inl c3)))
    have d3:decide (20<d)=true:=by simpa using c3
    clear c1 c2 c3 h0 h1
    go_enter Tryz.func30,Tryz.ntmps30
    go_wp2_with fail
    go_ret2
    rw [HB.out]
    exact⟨rfl,Chg.refl _ _⟩
   ·obtain⟨m,rfl⟩:∃ m:Nat,n=m:=⟨n.toNat,by omega⟩
    obtain⟨k,rfl⟩:∃ k:Nat,d=k:=⟨d.toNat,by omega⟩
    have d3:decide ((20:Int)<k)=false:=by simpa using c3
    have d3':decide (20<k)=false:=by simp;omega
    have d2':decide (k<1)=false:=by simp;omega
    have HP:=kf (padded_any m k (by omega) ⟨by omega,by omega⟩ w hL)
    obtain⟨t,ht⟩:∃ t,sb (txt m k)=t:=⟨_,rfl⟩
    obtain⟨L,hLn⟩:∃ L,(txt m k).length=L:=⟨_,rfl⟩
    have hts:t.size=L:=by rw [<- ht,sb_size,hLn]
    rw [ht] at HP
    have hL100:L<=100:=by
     have h1:(dn m).length<=19:=dn_len (by omega)
     rw [<- hLn,txt_len]
     omega
    by_cases c4:k<L
    ·have HB:Hid (padOf (m:Int) (k:Int)=([],2)):=pad_bad (.inr (.inr (.inr (by simp;omega))))
     have d4:decide ((k:Int)<L)=true:=by simp;omega
     have d4':decide (k<L)=true:=by simp;omega
     clear c1 c2 c3 c4 h0 h1 hL ht hLn
     go_enter Tryz.func30,Tryz.ntmps30
     go_wp2_with (go_at_call 62;refine HP.out.mono ?_;rintro e w2 ⟨rfl,hc2⟩;have HC2:=kf hc2;clear hc2)
     go_ret2
     rw [HB.out]
     exact⟨rfl,HC2.out⟩
    ·have HB:Hid (padOf (m:Int) (k:Int)=(txt m k,0)):=by
      show _=_
      unfold padOf
      rw [if_neg (by rintro(h|h|h|h)<;>first|omega|(simp at h;omega))]
      rfl
     have HT:=kf ht
     have d4:decide ((k:Int)<L)=false:=by simp;omega
     have d4':decide (k<L)=false:=by simp;omega
     clear c1 c2 c3 c4 h0 h1 hL ht hLn
     go_enter Tryz.func30,Tryz.ntmps30
     go_wp2_with (go_at_call 62;refine HP.out.mono ?_;rintro e w2 ⟨rfl,hc2⟩;have HC2:=kf hc2;clear hc2)
     go_ret2
     rw [HB.out]
     exact⟨by rw [show(txt m k,(0:Int)).1=txt m k from rfl,HT.out];rfl,HC2.out⟩
open Go.RowKit Go.Lib
theorem tab_of_reads {P:Program} {W:World} {name:String} {k:IntKind} {zs:List Int} {g:Nat} {t e:TypeId} {n:Nat}
  (hg:P.globalNamed name=some g) (hty:(P.globals[g]?).map (·.type)=some t) (ht:P.underlying t=some (.array n e)) (he:P.underlying e=some (.int k)) (hce:P.cellsOf e=1) (hct:P.cellsOf t=n)
  (h:∃ g' t' cs fuel p,P.globalNamed name=some g'/\(P.globals[g']?).map (·.type)=some t'/\W.var? P name=some cs/\DataW.trod (fun _=>()) P W 0 (fun _=>true) false fuel t' cs.toList=some (tabData k zs,p)):TabIs P W name k zs:=by
 obtain⟨g',t',cs,fuel,p,hg',ht',hvar,hd⟩:=h
 obtain rfl:=Option.some.inj (hg.symm.trans hg')
 obtain rfl:=Option.some.inj (hty.symm.trans ht')
 unfold TabIs
 rw [hvar,<- cells_of_tab ht he hce hct hd]
theorem lib_ok {W:World} (hL:laidMetH Tryz.prog Rows.xrefStaysRow.laid W) (hsh:W.ShapedOpen Tryz.prog):LibOk W:=by
 rw [MakeChecks.laidMetH_plain _ _ _ (by kernel_rfl)] at hL
 obtain⟨ps,hv,_⟩:=hL
 obtain⟨_,_,_,_,_,_,_,_,_,_,hv,_⟩:=hv
 obtain⟨_,_,_,_,_,_,_,_,_,_,hv,_⟩:=hv
 obtain⟨g,t,cs,fuel,p,q,h1,h2,h3,h4,_⟩:=hv
 have hr:∃ g' t' cs fuel p,Tryz.prog.globalNamed "internal/strconv.uint64pow10" = some g'/\(Tryz.prog.globals[g']?).map (·.type)=some t'/\W.var? Tryz.prog "internal/strconv.uint64pow10" = some cs/\DataW.trod (fun _=>()) Tryz.prog W 0 (fun _=>true) false fuel t' cs.toList=some (tabData .u64 pow10Tab,p):=⟨g,t,cs,fuel,p,h1,h2,h3,h4⟩
 exact⟨tab_of_reads (g:=2) (t:=255) (e:=219) (n:=20) (by kernel_rfl) (by kernel_rfl) Tryz.underlying255 Tryz.underlying219 (by kernel_rfl) (by kernel_rfl) hr,Go.Proofs.Tryz.laysM145.s1_3 W hsh⟩
end Go.Proofs.YthejpkflcgjdoaaGreatDoor
