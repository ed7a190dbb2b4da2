import Derived.Test.YtnhlalkeaaiefaaGreatDoorE01
import Derived.Shelf.Strings.Trim
import Derived.Shelf.Small.Wraps
import Derived.Shelf.Strconv.Itoa3
import Derived.Shelf.Strings.Shaped
import Derived.Shelf.Bytes.WriteStringAt
import Derived.Shelf.Strings.Runes
import Derived.Shelf.Strings.AsciiSet
import Derived.Shelf.Strings.Repeat
import Derived.Shelf.Strings.FuncGrows
import Derived.Deep.RegionHeld3
import Derived.Test.YtnhlalkeaaiefaaGreatDoorRows
import Derived.MakeChecks
set_option linter.unusedVariables false
set_option maxHeartbeats 64000000
set_option maxRecDepth 100000
set_option linter.unusedSimpArgs false
namespace Go.Proofs
open Go.Shelf
def Tryz.lays162_ren:Go.Shelf.Ren:=⟨fun|162=>193|232=>215|227=>216|234=>217|236=>218|228=>231|271=>232|151=>212|120=>239|197=>240|152=>228|260=>243|137=>235|119=>236|224=>203|225=>202|217=>201|266=>225|n=>n,fun|9=>9|4=>4|3=>3|5=>5|117=>250|116=>249|0=>0|124=>253|21=>21|105=>262|46=>97|119=>268|139=>271|138=>270|n=>n,fun|3=>5|4=>6|n=>n⟩
theorem Tryz.lays162:Go.Proofs.Lays.n162 Tryz.prog Tryz.lays162_ren:={
 mixed:=by kernel_rfl
 f119:=Tryz.func236.trans (congrArg some (by kernel_rfl))
 f120:=Tryz.func239.trans (congrArg some (by kernel_rfl))
 f137:=Tryz.func235.trans (congrArg some (by kernel_rfl))
 f151:=Tryz.func212.trans (congrArg some (by kernel_rfl))
 f152:=Tryz.func228.trans (congrArg some (by kernel_rfl))
 f162:=Tryz.func193.trans (congrArg some (by kernel_rfl))
 f197:=Tryz.func240.trans (congrArg some (by kernel_rfl))
 f217:=Tryz.func201.trans (congrArg some (by kernel_rfl))
 f224:=Tryz.func203.trans (congrArg some (by kernel_rfl))
 f225:=Tryz.func202.trans (congrArg some (by kernel_rfl))
 f227:=Tryz.func216.trans (congrArg some (by kernel_rfl))
 f228:=Tryz.func231.trans (congrArg some (by kernel_rfl))
 f232:=Tryz.func215.trans (congrArg some (by kernel_rfl))
 f234:=Tryz.func217.trans (congrArg some (by kernel_rfl))
 f236:=Tryz.func218.trans (congrArg some (by kernel_rfl))
 f260:=Tryz.func243.trans (congrArg some (by kernel_rfl))
 f266:=Tryz.func225.trans (congrArg some (by kernel_rfl))
 f271:=Tryz.func232.trans (congrArg some (by kernel_rfl))
 t0:=Tryz.underlying0
 a0:=Tryz.isAgg0
 z0:=Tryz.sizeOf0
 v0:=Tryz.zeroValue0
 t3:=Tryz.underlying3
 a3:=Tryz.isAgg3
 z3:=Tryz.sizeOf3
 v3:=Tryz.zeroValue3
 t4:=Tryz.underlying4
 a4:=Tryz.isAgg4
 z4:=Tryz.sizeOf4
 v4:=Tryz.zeroValue4
 t5:=Tryz.underlying5
 a5:=Tryz.isAgg5
 z5:=Tryz.sizeOf5
 v5:=Tryz.zeroValue5
 t9:=Tryz.underlying9
 a9:=Tryz.isAgg9
 z9:=Tryz.sizeOf9
 v9:=Tryz.zeroValue9
 t21:=Tryz.underlying21
 a21:=Tryz.isAgg21
 z21:=Tryz.sizeOf21
 v21:=Tryz.zeroValue21
 t46:=Tryz.underlying97
 a46:=Tryz.isAgg97
 z46:=Tryz.sizeOf97
 v46:=Tryz.zeroValue97
 t105:=Tryz.underlying262
 a105:=Tryz.isAgg262
 z105:=Tryz.sizeOf262
 v105:=Tryz.zeroValue262
 t116:=Tryz.underlying249
 a116:=Tryz.isAgg249
 z116:=Tryz.sizeOf249
 t117:=Tryz.underlying250
 a117:=Tryz.isAgg250
 z117:=Tryz.sizeOf250
 v117:=Tryz.zeroValue250
 t119:=Tryz.underlying268
 a119:=Tryz.isAgg268
 z119:=Tryz.sizeOf268
 t124:=Tryz.underlying253
 a124:=Tryz.isAgg253
 z124:=Tryz.sizeOf253
 v124:=Tryz.zeroValue253
 t138:=Tryz.underlying270
 a138:=Tryz.isAgg270
 z138:=Tryz.sizeOf270
 v138:=Tryz.zeroValue270
 t139:=Tryz.underlying271
 a139:=Tryz.isAgg271
 z139:=Tryz.sizeOf271
 v139:=Tryz.zeroValue271
 g3:=by kernel_rfl
 g4:=by kernel_rfl }
open Go.RowKit in
theorem Tryz.strings_TrimRight_one (s:ByteArray) (c:UInt8) (hc:c.toNat<128) (w:World) (hs:s.size<=9223372036854775807) :
  Calls Tryz.prog 193 #[.string s,.string ⟨#[c]⟩] w fun e w'=>e=.returned (.string ⟨(Lib.trimRightB s.data.toList c).toArray⟩)/\w'=w:=Any.strings_TrimRight_one Tryz.lays162 s c hc w hs
def Tryz.lays119_ren:Go.Shelf.Ren:=⟨fun|119=>236|n=>n,fun|21=>21|4=>4|n=>n,fun|n=>n⟩
theorem Tryz.lays119:Go.Proofs.Lays.n119 Tryz.prog Tryz.lays119_ren:={
 mixed:=by kernel_rfl
 f119:=Tryz.func236.trans (congrArg some (by kernel_rfl))
 t4:=Tryz.underlying4
 a4:=Tryz.isAgg4
 z4:=Tryz.sizeOf4
 v4:=Tryz.zeroValue4
 t21:=Tryz.underlying21
 a21:=Tryz.isAgg21
 z21:=Tryz.sizeOf21
 v21:=Tryz.zeroValue21 }
theorem Tryz.utf8_ValidRune (r:Int) (w:World) :
  Calls Tryz.prog 236 #[.int .i32 r] w fun e w'=>e=.returned (.bool (Lib.validRune r))/\w'=w:=Any.utf8_ValidRune Tryz.lays119 r w
def Tryz.lays106_ren:Go.Shelf.Ren:=⟨fun|106=>56|213=>94|265=>130|n=>n,fun|9=>9|3=>3|n=>n,fun|n=>n⟩
theorem Tryz.lays106:Go.Proofs.Lays.n106 Tryz.prog Tryz.lays106_ren:={
 mixed:=by kernel_rfl
 f106:=Tryz.func56.trans (congrArg some (by kernel_rfl))
 f213:=Tryz.func94.trans (congrArg some (by kernel_rfl))
 f265:=Tryz.func130.trans (congrArg some (by kernel_rfl))
 t3:=Tryz.underlying3
 a3:=Tryz.isAgg3
 z3:=Tryz.sizeOf3
 v3:=Tryz.zeroValue3
 t9:=Tryz.underlying9
 a9:=Tryz.isAgg9
 z9:=Tryz.sizeOf9
 v9:=Tryz.zeroValue9 }
open Go.RowKit in
theorem Tryz.strings_Compare (a b:ByteArray) (w:World) :
  Calls Tryz.prog 56 #[.string a,.string b] w fun e w'=>e=.returned (.int .i64 (Lib.compareBytes a.data.toList b.data.toList))/\w'=w:=Any.strings_Compare Tryz.lays106 a b w
def Tryz.lays137_ren:Go.Shelf.Ren:=⟨fun|137=>235|217=>201|266=>225|n=>n,fun|9=>9|5=>5|3=>3|n=>n,fun|n=>n⟩
theorem Tryz.lays137:Go.Proofs.Lays.n137 Tryz.prog Tryz.lays137_ren:={
 mixed:=by kernel_rfl
 f137:=Tryz.func235.trans (congrArg some (by kernel_rfl))
 f217:=Tryz.func201.trans (congrArg some (by kernel_rfl))
 f266:=Tryz.func225.trans (congrArg some (by kernel_rfl))
 t3:=Tryz.underlying3
 a3:=Tryz.isAgg3
 z3:=Tryz.sizeOf3
 v3:=Tryz.zeroValue3
 t5:=Tryz.underlying5
 a5:=Tryz.isAgg5
 z5:=Tryz.sizeOf5
 v5:=Tryz.zeroValue5
 t9:=Tryz.underlying9
 a9:=Tryz.isAgg9
 z9:=Tryz.sizeOf9
 v9:=Tryz.zeroValue9 }
open Go.RowKit in
theorem Tryz.strings_IndexByte (s:ByteArray) (c:Int) (w:World) :
  Calls Tryz.prog 235 #[.string s,.int .u8 c] w fun e w'=>e=.returned (.int .i64 (Lib.indexByte s.data.toList c.toNat.toUInt8))/\w'=w:=Any.strings_IndexByte Tryz.lays137 s c w
def Tryz.lays103_ren:Go.Shelf.Ren:=⟨fun|103=>237|210=>241|206=>178|n=>n,fun|9=>9|4=>4|24=>260|3=>3|n=>n,fun|n=>n⟩
theorem Tryz.lays103:Go.Proofs.Lays.n103 Tryz.prog Tryz.lays103_ren:={
 mixed:=by kernel_rfl
 f103:=Tryz.func237.trans (congrArg some (by kernel_rfl))
 f206:=Tryz.func178.trans (congrArg some (by kernel_rfl))
 f210:=Tryz.func241.trans (congrArg some (by kernel_rfl))
 t3:=Tryz.underlying3
 a3:=Tryz.isAgg3
 z3:=Tryz.sizeOf3
 v3:=Tryz.zeroValue3
 t4:=Tryz.underlying4
 a4:=Tryz.isAgg4
 z4:=Tryz.sizeOf4
 v4:=Tryz.zeroValue4
 t9:=Tryz.underlying9
 a9:=Tryz.isAgg9
 z9:=Tryz.sizeOf9
 v9:=Tryz.zeroValue9
 t24:=Tryz.underlying260
 a24:=Tryz.isAgg260
 z24:=Tryz.sizeOf260
 v24:=Tryz.zeroValue260 }
open Go.RowKit in
theorem Tryz.strings_CutPrefix (s p:ByteArray) (w:World) :
  Calls Tryz.prog 237 #[.string s,.string p] w fun e w'=>e=.returned (.tuple #[.string ⟨(Lib.trimPrefix s.data.toList p.data.toList).toArray⟩,.bool (Lib.hasPrefix s.data.toList p.data.toList)])/\w'=w:=Any.strings_CutPrefix Tryz.lays103 s p w
def Tryz.lays121_ren:Go.Shelf.Ren:=⟨fun|121=>137|214=>167|n=>n,fun|4=>4|9=>9|n=>n,fun|n=>n⟩
theorem Tryz.lays121:Go.Proofs.Lays.n121 Tryz.prog Tryz.lays121_ren:={
 mixed:=by kernel_rfl
 f121:=Tryz.func137.trans (congrArg some (by kernel_rfl))
 f214:=Tryz.func167.trans (congrArg some (by kernel_rfl))
 t4:=Tryz.underlying4
 a4:=Tryz.isAgg4
 z4:=Tryz.sizeOf4
 v4:=Tryz.zeroValue4
 t9:=Tryz.underlying9
 a9:=Tryz.isAgg9
 z9:=Tryz.sizeOf9
 v9:=Tryz.zeroValue9 }
open Go.RowKit in
theorem Tryz.strconv_FormatBool (b:Bool) (w:World) :
  Calls Tryz.prog 137 #[.bool b] w fun e w'=>e=.returned (.string ⟨(Lib.formatBool b).toArray⟩)/\w'=w:=Any.strconv_FormatBool Tryz.lays121 b w
def Tryz.lays122_ren:Go.Shelf.Ren:=⟨fun|122=>89|215=>127|n=>n,fun|3=>3|4=>4|n=>n,fun|n=>n⟩
theorem Tryz.lays122:Go.Proofs.Lays.n122 Tryz.prog Tryz.lays122_ren:={
 mixed:=by kernel_rfl
 f122:=Tryz.func89.trans (congrArg some (by kernel_rfl))
 f215:=Tryz.func127.trans (congrArg some (by kernel_rfl))
 t3:=Tryz.underlying3
 a3:=Tryz.isAgg3
 z3:=Tryz.sizeOf3
 v3:=Tryz.zeroValue3
 t4:=Tryz.underlying4
 a4:=Tryz.isAgg4
 z4:=Tryz.sizeOf4
 v4:=Tryz.zeroValue4 }
open Go.RowKit in
theorem Tryz.cmp_Compare_int (x y:Int) (w:World) :
  Calls Tryz.prog 89 #[.int .i64 x,.int .i64 y] w fun e w'=>e=.returned (.int .i64 (Lib.compareInt x y))/\w'=w:=Any.cmp_Compare_int Tryz.lays122 x y w
def Tryz.laysM171_ren:Go.Shelf.Ren:=⟨fun|171=>100|243=>142|246=>175|283=>196|284=>197|285=>198|286=>199|129=>221|317=>220|318=>222|319=>223|320=>224|337=>233|338=>234|n=>n,fun|3=>3|9=>9|2=>2|4=>4|171=>232|0=>0|53=>219|37=>32|5=>5|173=>235|212=>255|51=>216|20=>20|213=>256|46=>97|232=>266|233=>267|n=>n,fun|17=>2|18=>3|19=>4|n=>n⟩
theorem Tryz.laysM171:Go.Proofs.LaysM.n171 Tryz.prog Tryz.laysM171_ren:={
 mixed:=by kernel_rfl
 f129:=Tryz.func221.trans (congrArg some (by kernel_rfl))
 f171:=Tryz.func100.trans (congrArg some (by kernel_rfl))
 f243:=Tryz.func142.trans (congrArg some (by kernel_rfl))
 f246:=Tryz.func175.trans (congrArg some (by kernel_rfl))
 f283:=Tryz.func196.trans (congrArg some (by kernel_rfl))
 f284:=Tryz.func197.trans (congrArg some (by kernel_rfl))
 f285:=Tryz.func198.trans (congrArg some (by kernel_rfl))
 f286:=Tryz.func199.trans (congrArg some (by kernel_rfl))
 f317:=Tryz.func220.trans (congrArg some (by kernel_rfl))
 f318:=Tryz.func222.trans (congrArg some (by kernel_rfl))
 f319:=Tryz.func223.trans (congrArg some (by kernel_rfl))
 f320:=Tryz.func224.trans (congrArg some (by kernel_rfl))
 f337:=Tryz.func233.trans (congrArg some (by kernel_rfl))
 f338:=Tryz.func234.trans (congrArg some (by kernel_rfl))
 t0:=Tryz.underlying0
 a0:=Tryz.isAgg0
 z0:=Tryz.sizeOf0
 v0:=Tryz.zeroValue0
 t2:=Tryz.underlying2
 a2:=Tryz.isAgg2
 z2:=Tryz.sizeOf2
 v2:=Tryz.zeroValue2
 t3:=Tryz.underlying3
 a3:=Tryz.isAgg3
 z3:=Tryz.sizeOf3
 v3:=Tryz.zeroValue3
 t4:=Tryz.underlying4
 a4:=Tryz.isAgg4
 z4:=Tryz.sizeOf4
 v4:=Tryz.zeroValue4
 t5:=Tryz.underlying5
 a5:=Tryz.isAgg5
 z5:=Tryz.sizeOf5
 v5:=Tryz.zeroValue5
 t9:=Tryz.underlying9
 a9:=Tryz.isAgg9
 z9:=Tryz.sizeOf9
 v9:=Tryz.zeroValue9
 t20:=Tryz.underlying20
 a20:=Tryz.isAgg20
 z20:=Tryz.sizeOf20
 v20:=Tryz.zeroValue20
 t37:=Tryz.underlying32
 a37:=Tryz.isAgg32
 z37:=Tryz.sizeOf32
 v37:=Tryz.zeroValue32
 t46:=Tryz.underlying97
 a46:=Tryz.isAgg97
 z46:=Tryz.sizeOf97
 v46:=Tryz.zeroValue97
 t51:=Tryz.underlying216
 a51:=Tryz.isAgg216
 z51:=Tryz.sizeOf216
 v51:=Tryz.zeroValue216
 t53:=Tryz.underlying219
 a53:=Tryz.isAgg219
 z53:=Tryz.sizeOf219
 v53:=Tryz.zeroValue219
 t171:=Tryz.underlying232
 a171:=Tryz.isAgg232
 z171:=Tryz.sizeOf232
 v171:=Tryz.zeroValue232
 t173:=Tryz.underlying235
 a173:=Tryz.isAgg235
 z173:=Tryz.sizeOf235
 v173:=Tryz.zeroValue235
 t212:=Tryz.underlying255
 a212:=Tryz.isAgg255
 z212:=Tryz.sizeOf255
 v212:=Tryz.zeroValue255
 t213:=Tryz.underlying256
 a213:=Tryz.isAgg256
 z213:=Tryz.sizeOf256
 t232:=Tryz.underlying266
 a232:=Tryz.isAgg266
 z232:=Tryz.sizeOf266
 v232:=Tryz.zeroValue266
 t233:=Tryz.underlying267
 a233:=Tryz.isAgg267
 z233:=Tryz.sizeOf267
 v233:=Tryz.zeroValue267
 g17:=by kernel_rfl
 g18:=by kernel_rfl
 g19:=by kernel_rfl
 i0:=by kernel_rfl
 i2:=by kernel_rfl
 i3:=by kernel_rfl
 i4:=by kernel_rfl
 i5:=by kernel_rfl
 i9:=by kernel_rfl
 i20:=by kernel_rfl
 i37:=by kernel_rfl
 i46:=by kernel_rfl
 i51:=by kernel_rfl
 i53:=by kernel_rfl
 i171:=by kernel_rfl
 i173:=by kernel_rfl
 i212:=by kernel_rfl
 i232:=by kernel_rfl
 i233:=by kernel_rfl
 m17:=by kernel_rfl
 m18:=by kernel_rfl
 m19:=by kernel_rfl }
open Go.RowKit Go.Sort Go.Lib in
theorem Tryz.strconv_Itoa (n:Int) (h0:-9223372036854775808<=n) (h1:n<=9223372036854775807) (w:World) (htab:Lib.TabIs Tryz.prog w "internal/strconv.uint64pow10" .u64 Lib.pow10Tab) :
  Calls Tryz.prog 100 #[.int .i64 n] w fun e w'=>e=.returned (.string ⟨(Lib.itoa n).toArray⟩)/\∃ k os,w'=grow (w.drewN k) os:=Any.strconv_Itoa Tryz.laysM171 n h0 h1 w htab
def Tryz.lays219_ren:Go.Shelf.Ren:=⟨fun|219=>180|217=>201|225=>202|224=>203|267=>204|266=>225|314=>226|n=>n,fun|9=>9|3=>3|4=>4|5=>5|46=>97|146=>217|51=>216|n=>n,fun|1=>0|n=>n⟩
theorem Tryz.lays219:Go.Proofs.Lays.n219 Tryz.prog Tryz.lays219_ren:={
 mixed:=by kernel_rfl
 f217:=Tryz.func201.trans (congrArg some (by kernel_rfl))
 f219:=Tryz.func180.trans (congrArg some (by kernel_rfl))
 f224:=Tryz.func203.trans (congrArg some (by kernel_rfl))
 f225:=Tryz.func202.trans (congrArg some (by kernel_rfl))
 f266:=Tryz.func225.trans (congrArg some (by kernel_rfl))
 f267:=Tryz.func204.trans (congrArg some (by kernel_rfl))
 f314:=Tryz.func226.trans (congrArg some (by kernel_rfl))
 t3:=Tryz.underlying3
 a3:=Tryz.isAgg3
 z3:=Tryz.sizeOf3
 v3:=Tryz.zeroValue3
 t4:=Tryz.underlying4
 a4:=Tryz.isAgg4
 z4:=Tryz.sizeOf4
 v4:=Tryz.zeroValue4
 t5:=Tryz.underlying5
 a5:=Tryz.isAgg5
 z5:=Tryz.sizeOf5
 v5:=Tryz.zeroValue5
 t9:=Tryz.underlying9
 a9:=Tryz.isAgg9
 z9:=Tryz.sizeOf9
 v9:=Tryz.zeroValue9
 t46:=Tryz.underlying97
 a46:=Tryz.isAgg97
 z46:=Tryz.sizeOf97
 v46:=Tryz.zeroValue97
 t51:=Tryz.underlying216
 a51:=Tryz.isAgg216
 z51:=Tryz.sizeOf216
 v51:=Tryz.zeroValue216
 t146:=Tryz.underlying217
 a146:=Tryz.isAgg217
 z146:=Tryz.sizeOf217
 v146:=Tryz.zeroValue217
 g1:=by kernel_rfl }
open Go.RowKit Go.Lib in
theorem Tryz.stringslite_Index_one (s:ByteArray) (c:UInt8) (w:World) :
  Calls Tryz.prog 180 #[.string s,.string ⟨#[c]⟩] w fun e w'=>e=.returned (.int .i64 (Lib.indexByte s.data.toList c))/\w'=w:=Any.stringslite_Index_one Tryz.lays219 s c w
def Tryz.laysM145_ren:Go.Shelf.Ren:=⟨fun|145=>210|220=>227|219=>180|217=>201|225=>202|224=>203|267=>204|266=>225|314=>226|n=>n,fun|9=>9|4=>4|59=>242|3=>3|5=>5|46=>97|146=>217|51=>216|n=>n,fun|1=>0|n=>n⟩
theorem Tryz.laysM145:Go.Proofs.LaysM.n145 Tryz.prog Tryz.laysM145_ren:={
 mixed:=by kernel_rfl
 f145:=Tryz.func210.trans (congrArg some (by kernel_rfl))
 f217:=Tryz.func201.trans (congrArg some (by kernel_rfl))
 f219:=Tryz.func180.trans (congrArg some (by kernel_rfl))
 f220:=Tryz.func227.trans (congrArg some (by kernel_rfl))
 f224:=Tryz.func203.trans (congrArg some (by kernel_rfl))
 f225:=Tryz.func202.trans (congrArg some (by kernel_rfl))
 f266:=Tryz.func225.trans (congrArg some (by kernel_rfl))
 f267:=Tryz.func204.trans (congrArg some (by kernel_rfl))
 f314:=Tryz.func226.trans (congrArg some (by kernel_rfl))
 t3:=Tryz.underlying3
 a3:=Tryz.isAgg3
 z3:=Tryz.sizeOf3
 v3:=Tryz.zeroValue3
 t4:=Tryz.underlying4
 a4:=Tryz.isAgg4
 z4:=Tryz.sizeOf4
 v4:=Tryz.zeroValue4
 t5:=Tryz.underlying5
 a5:=Tryz.isAgg5
 z5:=Tryz.sizeOf5
 v5:=Tryz.zeroValue5
 t9:=Tryz.underlying9
 a9:=Tryz.isAgg9
 z9:=Tryz.sizeOf9
 v9:=Tryz.zeroValue9
 t46:=Tryz.underlying97
 a46:=Tryz.isAgg97
 z46:=Tryz.sizeOf97
 v46:=Tryz.zeroValue97
 t51:=Tryz.underlying216
 a51:=Tryz.isAgg216
 z51:=Tryz.sizeOf216
 v51:=Tryz.zeroValue216
 t59:=Tryz.underlying242
 a59:=Tryz.isAgg242
 z59:=Tryz.sizeOf242
 v59:=Tryz.zeroValue242
 t146:=Tryz.underlying217
 a146:=Tryz.isAgg217
 z146:=Tryz.sizeOf217
 v146:=Tryz.zeroValue217
 g1:=by kernel_rfl
 i3:=by kernel_rfl
 i4:=by kernel_rfl
 i5:=by kernel_rfl
 i9:=by kernel_rfl
 i46:=by kernel_rfl
 i51:=by kernel_rfl
 i59:=by kernel_rfl
 i146:=by kernel_rfl
 m1:=by kernel_rfl
 s1_3:=fun w h=>Go.Proofs.cell_of_shapedOpen_int (zero:=#[.int .i64 0]) (t:=3) h (of_decide_eq_true (by kernel_rfl)) (by kernel_rfl) rfl (by kernel_rfl) (by kernel_rfl) Tryz.underlying3 }
def Tryz.laysGw17_ren:Go.Shelf.Ren:=⟨fun|17=>168|15=>195|20=>219|n=>n,fun|9=>9|23=>212|4=>4|3=>3|0=>0|21=>21|n=>n,fun|n=>n⟩
theorem Tryz.laysGw17:Go.Proofs.LaysGw.n17 Tryz.prog Tryz.laysGw17_ren:={
 mixed:=by kernel_rfl
 f15:=Tryz.func195.trans (congrArg some (by kernel_rfl))
 f17:=Tryz.func168.trans (congrArg some (by kernel_rfl))
 f20:=Tryz.func219.trans (congrArg some (by kernel_rfl))
 t0:=Tryz.underlying0
 a0:=Tryz.isAgg0
 z0:=Tryz.sizeOf0
 v0:=Tryz.zeroValue0
 i0:=by kernel_rfl
 t3:=Tryz.underlying3
 a3:=Tryz.isAgg3
 z3:=Tryz.sizeOf3
 v3:=Tryz.zeroValue3
 i3:=by kernel_rfl
 t4:=Tryz.underlying4
 a4:=Tryz.isAgg4
 z4:=Tryz.sizeOf4
 v4:=Tryz.zeroValue4
 i4:=by kernel_rfl
 t9:=Tryz.underlying9
 a9:=Tryz.isAgg9
 z9:=Tryz.sizeOf9
 v9:=Tryz.zeroValue9
 i9:=by kernel_rfl
 t21:=Tryz.underlying21
 a21:=Tryz.isAgg21
 z21:=Tryz.sizeOf21
 v21:=Tryz.zeroValue21
 i21:=by kernel_rfl
 t23:=Tryz.underlying212
 a23:=Tryz.isAgg212
 z23:=Tryz.sizeOf212
 v23:=Tryz.zeroValue212
 i23:=by kernel_rfl }
def Tryz.laysM178_ren:Go.Shelf.Ren:=⟨fun|178=>58|251=>95|252=>96|181=>131|184=>132|290=>133|324=>164|n=>n,fun|130=>120|9=>9|3=>3|75=>116|0=>0|93=>114|91=>112|131=>149|4=>4|37=>32|20=>20|80=>159|5=>5|n=>n,fun|14=>1|n=>n⟩
theorem Tryz.laysM178:Go.Proofs.LaysM.n178 Tryz.prog Tryz.laysM178_ren:={
 mixed:=by kernel_rfl
 f178:=Tryz.func58.trans (congrArg some (by kernel_rfl))
 f181:=Tryz.func131.trans (congrArg some (by kernel_rfl))
 f184:=Tryz.func132.trans (congrArg some (by kernel_rfl))
 f251:=Tryz.func95.trans (congrArg some (by kernel_rfl))
 f252:=Tryz.func96.trans (congrArg some (by kernel_rfl))
 f290:=Tryz.func133.trans (congrArg some (by kernel_rfl))
 f324:=Tryz.func164.trans (congrArg some (by kernel_rfl))
 t0:=Tryz.underlying0
 a0:=Tryz.isAgg0
 z0:=Tryz.sizeOf0
 v0:=Tryz.zeroValue0
 t3:=Tryz.underlying3
 a3:=Tryz.isAgg3
 z3:=Tryz.sizeOf3
 v3:=Tryz.zeroValue3
 t4:=Tryz.underlying4
 a4:=Tryz.isAgg4
 z4:=Tryz.sizeOf4
 v4:=Tryz.zeroValue4
 t9:=Tryz.underlying9
 a9:=Tryz.isAgg9
 z9:=Tryz.sizeOf9
 v9:=Tryz.zeroValue9
 t20:=Tryz.underlying20
 a20:=Tryz.isAgg20
 z20:=Tryz.sizeOf20
 v20:=Tryz.zeroValue20
 t37:=Tryz.underlying32
 a37:=Tryz.isAgg32
 z37:=Tryz.sizeOf32
 v37:=Tryz.zeroValue32
 t75:=Tryz.underlying116
 a75:=Tryz.isAgg116
 z75:=Tryz.sizeOf116
 v75:=Tryz.zeroValue116
 t91:=Tryz.underlying112
 a91:=Tryz.isAgg112
 z91:=Tryz.sizeOf112
 v91:=Tryz.zeroValue112
 t93:=Tryz.underlying114
 a93:=Tryz.isAgg114
 z93:=Tryz.sizeOf114
 v93:=Tryz.zeroValue114
 t130:=Tryz.underlying120
 a130:=Tryz.isAgg120
 z130:=Tryz.sizeOf120
 v130:=Tryz.zeroValue120
 t131:=Tryz.underlying149
 a131:=Tryz.isAgg149
 z131:=Tryz.sizeOf149
 v131:=Tryz.zeroValue149
 g14:=by kernel_rfl
 t5:=Tryz.underlying5
 a5:=Tryz.isAgg5
 z5:=Tryz.sizeOf5
 v5:=Tryz.zeroValue5
 t80:=Tryz.underlying159
 a80:=Tryz.isAgg159
 z80:=Tryz.sizeOf159
 v80:=Tryz.zeroValue159
 i0:=by kernel_rfl
 i3:=by kernel_rfl
 i4:=by kernel_rfl
 i5:=by kernel_rfl
 i9:=by kernel_rfl
 i20:=by kernel_rfl
 i37:=by kernel_rfl
 i75:=by kernel_rfl
 i80:=by kernel_rfl
 i91:=by kernel_rfl
 i93:=by kernel_rfl
 i130:=by kernel_rfl
 i131:=by kernel_rfl
 m14:=by kernel_rfl }
open Go.RowKit in
theorem Tryz.Buffer_WriteString_at (T:TypeId) (R:Nat->Option Value) (B b q:Nat) (bs:List Value) (s:ByteArray) (w:World) (h:LibA.IsBuffer T R 5 B b q bs w) (hBw:B<=w.heap.size) (h1:∀ v∈bs,v.oneCell'=true) (hlim:bs.length+s.size<=140737488355328) :
  Calls Tryz.prog 58 #[.pointer (some ⟨b,q,none⟩),.string s] w fun e w'=>e=.returned (.tuple #[.int .i64 s.size,.nilIface])/\LibA.IsBuffer T R 5 B b q (bs++Lib.byteCells s.data.toList) w'/\Below B w w'/\Lib.OthersKept 5 (some b) w w':=Any.Buffer_WriteString_at Tryz.laysM178 T R B b q bs s w h hBw h1 hlim
def Tryz.lays101_ren:Go.Shelf.Ren:=⟨fun|101=>238|208=>242|206=>178|n=>n,fun|9=>9|4=>4|3=>3|n=>n,fun|n=>n⟩
theorem Tryz.lays101:Go.Proofs.Lays.n101 Tryz.prog Tryz.lays101_ren:={
 mixed:=by kernel_rfl
 f101:=Tryz.func238.trans (congrArg some (by kernel_rfl))
 f206:=Tryz.func178.trans (congrArg some (by kernel_rfl))
 f208:=Tryz.func242.trans (congrArg some (by kernel_rfl))
 t3:=Tryz.underlying3
 a3:=Tryz.isAgg3
 z3:=Tryz.sizeOf3
 v3:=Tryz.zeroValue3
 t4:=Tryz.underlying4
 a4:=Tryz.isAgg4
 z4:=Tryz.sizeOf4
 v4:=Tryz.zeroValue4
 t9:=Tryz.underlying9
 a9:=Tryz.isAgg9
 z9:=Tryz.sizeOf9
 v9:=Tryz.zeroValue9 }
open Go.RowKit Go.Lib in
theorem Tryz.strings_TrimPrefix (s p:ByteArray) (w:World) :
  Calls Tryz.prog 238 #[.string s,.string p] w fun e w'=>e=.returned (.string ⟨(Lib.trimPrefix s.data.toList p.data.toList).toArray⟩)/\w'=w:=Any.strings_TrimPrefix Tryz.lays101 s p w
def Tryz.lays151_ren:Go.Shelf.Ren:=⟨fun|151=>212|152=>228|137=>235|119=>236|224=>203|225=>202|217=>201|266=>225|n=>n,fun|9=>9|21=>21|4=>4|3=>3|5=>5|0=>0|46=>97|n=>n,fun|n=>n⟩
theorem Tryz.lays151:Go.Proofs.Lays.n151 Tryz.prog Tryz.lays151_ren:={
 mixed:=by kernel_rfl
 f119:=Tryz.func236.trans (congrArg some (by kernel_rfl))
 f137:=Tryz.func235.trans (congrArg some (by kernel_rfl))
 f151:=Tryz.func212.trans (congrArg some (by kernel_rfl))
 f152:=Tryz.func228.trans (congrArg some (by kernel_rfl))
 f217:=Tryz.func201.trans (congrArg some (by kernel_rfl))
 f224:=Tryz.func203.trans (congrArg some (by kernel_rfl))
 f225:=Tryz.func202.trans (congrArg some (by kernel_rfl))
 f266:=Tryz.func225.trans (congrArg some (by kernel_rfl))
 t0:=Tryz.underlying0
 a0:=Tryz.isAgg0
 z0:=Tryz.sizeOf0
 v0:=Tryz.zeroValue0
 t3:=Tryz.underlying3
 a3:=Tryz.isAgg3
 z3:=Tryz.sizeOf3
 v3:=Tryz.zeroValue3
 t4:=Tryz.underlying4
 a4:=Tryz.isAgg4
 z4:=Tryz.sizeOf4
 v4:=Tryz.zeroValue4
 t5:=Tryz.underlying5
 a5:=Tryz.isAgg5
 z5:=Tryz.sizeOf5
 v5:=Tryz.zeroValue5
 t9:=Tryz.underlying9
 a9:=Tryz.isAgg9
 z9:=Tryz.sizeOf9
 v9:=Tryz.zeroValue9
 t21:=Tryz.underlying21
 a21:=Tryz.isAgg21
 z21:=Tryz.sizeOf21
 v21:=Tryz.zeroValue21
 t46:=Tryz.underlying97
 a46:=Tryz.isAgg97
 z46:=Tryz.sizeOf97
 v46:=Tryz.zeroValue97 }
open Go.RowKit Go.Lib in
theorem Tryz.strings_ContainsRune_ascii (s:ByteArray) (r:Int) (w:World) (h0:0<=r) (h1:r<128) :
  Calls Tryz.prog 212 #[.string s,.int .i32 r] w fun e w'=>e=.returned (.bool (decide (0<=Lib.indexByte s.data.toList r.toNat.toUInt8)))/\w'=w:=Any.strings_ContainsRune_ascii Tryz.lays151 s r w h0 h1
def Tryz.lays105_ren:Go.Shelf.Ren:=⟨fun|105=>101|212=>143|99=>144|165=>145|166=>136|170=>146|169=>99|263=>176|264=>177|206=>178|240=>166|241=>179|276=>194|277=>200|n=>n,fun|9=>9|3=>3|4=>4|20=>20|0=>0|46=>97|109=>193|5=>5|72=>155|76=>117|51=>216|146=>217|53=>219|148=>220|70=>153|37=>32|75=>116|127=>192|164=>229|80=>159|n=>n,fun|n=>n⟩
theorem Tryz.lays105:Go.Proofs.Lays.n105 Tryz.prog Tryz.lays105_ren:={
 mixed:=by kernel_rfl
 f99:=Tryz.func144.trans (congrArg some (by kernel_rfl))
 f105:=Tryz.func101.trans (congrArg some (by kernel_rfl))
 f165:=Tryz.func145.trans (congrArg some (by kernel_rfl))
 f166:=Tryz.func136.trans (congrArg some (by kernel_rfl))
 f169:=Tryz.func99.trans (congrArg some (by kernel_rfl))
 f170:=Tryz.func146.trans (congrArg some (by kernel_rfl))
 f206:=Tryz.func178.trans (congrArg some (by kernel_rfl))
 f212:=Tryz.func143.trans (congrArg some (by kernel_rfl))
 f240:=Tryz.func166.trans (congrArg some (by kernel_rfl))
 f241:=Tryz.func179.trans (congrArg some (by kernel_rfl))
 f263:=Tryz.func176.trans (congrArg some (by kernel_rfl))
 f264:=Tryz.func177.trans (congrArg some (by kernel_rfl))
 f276:=Tryz.func194.trans (congrArg some (by kernel_rfl))
 f277:=Tryz.func200.trans (congrArg some (by kernel_rfl))
 t0:=Tryz.underlying0
 a0:=Tryz.isAgg0
 z0:=Tryz.sizeOf0
 v0:=Tryz.zeroValue0
 t3:=Tryz.underlying3
 a3:=Tryz.isAgg3
 z3:=Tryz.sizeOf3
 v3:=Tryz.zeroValue3
 t4:=Tryz.underlying4
 a4:=Tryz.isAgg4
 z4:=Tryz.sizeOf4
 v4:=Tryz.zeroValue4
 t5:=Tryz.underlying5
 a5:=Tryz.isAgg5
 z5:=Tryz.sizeOf5
 v5:=Tryz.zeroValue5
 t9:=Tryz.underlying9
 a9:=Tryz.isAgg9
 z9:=Tryz.sizeOf9
 v9:=Tryz.zeroValue9
 t20:=Tryz.underlying20
 a20:=Tryz.isAgg20
 z20:=Tryz.sizeOf20
 v20:=Tryz.zeroValue20
 t37:=Tryz.underlying32
 a37:=Tryz.isAgg32
 z37:=Tryz.sizeOf32
 v37:=Tryz.zeroValue32
 t46:=Tryz.underlying97
 a46:=Tryz.isAgg97
 z46:=Tryz.sizeOf97
 v46:=Tryz.zeroValue97
 t51:=Tryz.underlying216
 a51:=Tryz.isAgg216
 z51:=Tryz.sizeOf216
 v51:=Tryz.zeroValue216
 t53:=Tryz.underlying219
 a53:=Tryz.isAgg219
 z53:=Tryz.sizeOf219
 v53:=Tryz.zeroValue219
 t70:=Tryz.underlying153
 a70:=Tryz.isAgg153
 z70:=Tryz.sizeOf153
 v70:=Tryz.zeroValue153
 t72:=Tryz.underlying155
 a72:=Tryz.isAgg155
 z72:=Tryz.sizeOf155
 v72:=Tryz.zeroValue155
 t75:=Tryz.underlying116
 a75:=Tryz.isAgg116
 z75:=Tryz.sizeOf116
 v75:=Tryz.zeroValue116
 t76:=Tryz.underlying117
 a76:=Tryz.isAgg117
 z76:=Tryz.sizeOf117
 v76:=Tryz.zeroValue117
 t109:=Tryz.underlying193
 a109:=Tryz.isAgg193
 z109:=Tryz.sizeOf193
 v109:=Tryz.zeroValue193
 t127:=Tryz.underlying192
 a127:=Tryz.isAgg192
 z127:=Tryz.sizeOf192
 v127:=Tryz.zeroValue192
 t146:=Tryz.underlying217
 a146:=Tryz.isAgg217
 z146:=Tryz.sizeOf217
 v146:=Tryz.zeroValue217
 t148:=Tryz.underlying220
 a148:=Tryz.isAgg220
 z148:=Tryz.sizeOf220
 v148:=Tryz.zeroValue220
 t164:=Tryz.underlying229
 a164:=Tryz.isAgg229
 z164:=Tryz.sizeOf229
 v164:=Tryz.zeroValue229 }
theorem Tryz.Builder_Extra_105:Builder.Extra Tryz.prog Tryz.lays105_ren:={
 sizeBuilder:=by kernel_rfl
 liesBuilder:=by kernel_rfl
 t5:=Tryz.underlying5
 a5:=Tryz.isAgg5
 z5:=Tryz.sizeOf5
 v5:=Tryz.zeroValue5
 infoByte:=by kernel_rfl
 cellsByte:=by kernel_rfl
 sizeByte:=by kernel_rfl
 neB5:=by decide }
open Go.RowKit Go.Lib in
theorem Tryz.strings_Repeat (s:ByteArray) (c:Nat) (w:World) (hc:c<=9223372036854775807) (hlen:s.size*c<=140737488355328) :
  Calls Tryz.prog 101 #[.string s,.int .i64 c] w fun e w'=>e=.returned (.string ⟨(Lib.repeatL s.data.toList c).toArray⟩)/\Below w.heap.size w w':=Any.strings_Repeat Tryz.lays105 Tryz.Builder_Extra_105 s c w hc hlen
open Go.RowKit Go.Lib in
theorem Tryz.strings_ContainsFunc_grows (g:Nat) (lb:Array Value) (eg:∀ args w,(callFunc g args).run Tryz.prog w=.ok (.enter g args) w) (p:Nat->Bool) (s:ByteArray) (w:World) (hp:PredGrows Tryz.prog g lb p w) :
  Calls Tryz.prog 168 #[.string s,.func (.func g) #[] lb] w fun e w'=>e=.returned (.bool (decide (0<=Lib.idxFunc p true s)))/\Below w.heap.size w w':=Any.strings_ContainsFunc_grows Tryz.laysGw17 g lb eg p s w hp
end Go.Proofs
namespace Go.Proofs.YtnhlalkeaaiefaaGreatDoor
open Go.RowKit
structure LibOk (w:World):Prop where
 tab:Lib.TabIs Tryz.prog w "internal/strconv.uint64pow10" .u64 Lib.pow10Tab
 most:∃ m,w.cell? ⟨0,0,none⟩=some (.int .i64 m)
theorem v5r {w:World} {a:Addr} {v:Value} (h:w.cell? a=some v):a.block<w.heap.size:=by
 rcases Nat.lt_or_ge a.block w.heap.size with h'|h'
 ·exact h'
 ·simp [World.cell?,Array.getElem?_eq_none h'] at h
theorem v3g {P:Program} {w w':World} {n:String} {cs:Array Value} (h:w.var? P n=some cs) (hc:Chg NoS w w'):w'.var? P n=some cs:=by
 unfold World.var? at h ⊢;cases hg:P.globalNamed n with
 |none=>simp [hg] at h
 |some g =>
  simp only [hg,Option.bind_some] at h ⊢
  have hlt:g<w.heap.size:=by
   rcases Nat.lt_or_ge g w.heap.size with h'|h'
   ·exact h'
   ·simp [Array.getElem?_eq_none h'] at h
  rw [hc.block g hlt (fun h=>h)];exact h
theorem LibOk.chg {w w':World} (h:LibOk w) (hc:Chg NoS w w'):LibOk w':=by
 obtain⟨m,hm⟩:=h.most;exact⟨v3g h.tab hc,m,(hc.cell (v5r hm) (fun h=>h)).trans hm⟩
theorem v2j {w:World} (k:Nat) (os:Array Obj):Chg NoS w (Go.Sort.grow (w.drewN k) os) :=
 ⟨rfl,rfl,rfl,by rw [Go.Sort.size_grow];exact Nat.le_add_right _ _,fun i hi _=>Go.Sort.heap_grow_old _ _ hi⟩
theorem v1c (l:List UInt8):(⟨l.toArray⟩:ByteArray)=sb (l.map UInt8.toNat):=by
 unfold sb;rw [List.map_map];have e:(UInt8.ofNat ∘ UInt8.toNat)=id:=by funext x;simp
 rw [e,List.map_id]
theorem v33 (d:Nat) (h:d<10):(UInt8.ofNat (48+d)).toNat=48+d:=by
 simp;omega
theorem v5g (u:Nat):(Lib.decDigits u).map UInt8.toNat=txt u 1:=by
 induction u using Nat.strongRecOn with
 |_ u ih =>
  rw [Lib.decDigits];by_cases h:u<10
  ·rw [dif_pos h,List.map_cons,List.map_nil,v33 u h];by_cases h0:u=0
   ·subst h0;rw [txt,y91];rfl
   ·rw [txt,v28 h0,show u / 10=0 from by omega,y91,show u%10=u from by omega];rfl
  ·rw [dif_neg h,List.map_append,ih (u / 10) (by omega),List.map_cons,List.map_nil,v33 _ (by omega),y26 u 1 (.inl (by omega))];rw [txt,txt];congr 1;have h1:=y90 (n:=u / 10) (k:=0) (by simp;omega);rw [show 1-(dn (u / 10)).length=0 from by omega,show 1-1-(dn (u / 10)).length=0 from by omega]
theorem v1e (n:Int) (h:0<=n):(⟨(Lib.itoa n).toArray⟩:ByteArray)=sb (txt n.toNat 1):=by
 unfold Lib.itoa;rw [if_neg (by omega),v1c,v5g]
theorem y2p:∀ c,Lib.repeatL [48] c=List.replicate c 48
 |0=>rfl
 |c+1=>by rw [Lib.repeatL,y2p c,List.replicate_succ];rfl
theorem v73 (c:Nat):(⟨(Lib.repeatL [48] c).toArray⟩:ByteArray)=sb (List.replicate c 48):=by
 rw [v1c,y2p,List.map_replicate];rfl
def z47 (c:Nat):List Nat->List Nat × List Nat × Bool
 |[]=>([],[],false)
 |x::l=>if x=c then([],l,true) else(x::(z47 c l).1,(z47 c l).2.1,(z47 c l).2.2)
theorem v5l (c:UInt8):∀ (l:List UInt8),(Lib.indexByte l c=-1/\z47 c.toNat (l.map UInt8.toNat)=(l.map UInt8.toNat,[],false)) \/
  ∃ i:Nat,Lib.indexByte l c=i/\i<l.length/\z47 c.toNat (l.map UInt8.toNat)=((l.map UInt8.toNat).take i,(l.map UInt8.toNat).drop (i+1),true):=by
 intro l;induction l with
 |nil=>exact .inl ⟨rfl,rfl⟩
 |cons x l ih =>
  rw [List.map_cons,z47,Lib.indexByte];by_cases h:x=c
  ·subst h;exact .inr ⟨0,by simp,by simp,by simp⟩
  ·have h2:¬x.toNat=c.toNat:=fun h2=>h (UInt8.toNat_inj.1 h2);have h3:(x==c)=false:=by simpa using h
   rw [if_neg h2];rcases ih with⟨h4,h5⟩|⟨i,h4,h5,h6⟩
   ·refine .inl ⟨?_,by rw [h5]⟩;simp [h3,h4]
   ·refine .inr ⟨i+1,?_,by simpa using h5,by rw [h6];simp⟩;simp [h3,h4]
theorem y96 {l:List Nat} (n:Nat):(sb l).extract 0 n=sb (l.take n):=by
 unfold sb;apply ByteArray.ext;rw [ByteArray.data_extract];simp [List.map_take]
theorem y0n {l:List Nat} (n m:Nat) (h:l.length=m):(sb l).extract n m=sb (l.drop n):=by
 unfold sb;apply ByteArray.ext;rw [ByteArray.data_extract];simp only [List.extract_toArray,List.extract_eq_take_drop,List.map_drop];congr 1;exact List.take_of_length_le (by rw [List.length_drop,List.length_map];omega)
theorem v2e (c:UInt8) (m:List Nat) (hb:∀ d∈m,d<256) (hl:m.length<=1000000) (w:World) :
  Calls Tryz.prog 227 #[.string (sb m),.string ⟨#[c]⟩] w fun e w'=>e=.returned (.tuple #[.string (sb (z47 c.toNat m).1),.string (sb (z47 c.toNat m).2.1),.bool (z47 c.toNat m).2.2])/\Chg NoS w w':=by
 have hm:(sb m).data.toList.map UInt8.toNat=m:=z6f m hb;have HC:=kf (v5l c (sb m).data.toList);have HI:=kf (fun W=>Go.Proofs.Tryz.stringslite_Index_one (sb m) c W);rw [hm] at HC;obtain⟨z,hz⟩:∃ z,Lib.indexByte (sb m).data.toList c=z:=⟨_,rfl⟩
 rw [hz] at HC HI;have hlen:(sb m).data.toList.length=m.length:=by rw [<- List.length_map (f:=UInt8.toNat),hm]
 rw [hlen] at HC;obtain⟨n,hn⟩:∃ n,m.length=n:=⟨_,rfl⟩
 have hs:(sb m).size=n:=by rw [z01,hn]
 obtain⟨t,ht⟩:∃ t,sb m=t:=⟨_,rfl⟩
 rcases HC.out with⟨rfl,h2⟩|⟨i,rfl,hi,h2⟩
 ·have HE:=kf h2;rw [ht] at HI ⊢;have HT:=kf ht;clear HC h2 hm hz hlen ht;go_enter Tryz.func227,Tryz.ntmps227;go_wp2_with (go_at_call 180;refine(HI.out _).mono ?_;rintro e w2 ⟨rfl,rfl⟩);go_ret3;rw [HE.out];exact⟨by rw [show(m,([]:List Nat),false).1=m from rfl,HT.out];rfl,Chg.refl _ _⟩
 ·have HE:=kf h2;have e1:=y96 (l:=m) i;have e2:=y0n (l:=m) (i+1) n hn;obtain⟨a,ha⟩:∃ a,sb (m.take i)=a:=⟨_,rfl⟩
  obtain⟨b,hb2⟩:∃ b,sb (m.drop (i+1))=b:=⟨_,rfl⟩
  rw [ht] at HI hs e1 e2 ⊢;rw [ha] at e1;rw [hb2] at e2;rw [hn] at hi hl;have i1:(i:Int)<=n:=by omega
  have i2:(i:Int)+1<=n:=by omega
  have i3:(0:Int)<=(i:Int)+1:=by omega
  have i4:i<=n:=by omega
  have i5:i+1<=n:=by omega
  have i6:((i:Int)+1).toNat=i+1:=by omega
  have d1:decide ((0:Int)<=i)=true:=by simp
  have k1:IntKind.i64.wrap ((i:Int)+1)=(i:Int)+1:=by rw [IntKind.wrap_i64];omega
  have HA:=kf ha;have HB:=kf hb2;clear HC h2 hm hz hlen ht hi ha hb2 hn hb;go_enter Tryz.func227,Tryz.ntmps227;go_upto_region 3 with(go_at_call 180;refine(HI.out _).mono ?_;rintro e w2 ⟨rfl,rfl⟩);go_quiet (fail);go_wp2_with fail;go_ret3;rw [HE.out];exact⟨by rw [show(m.take i,m.drop (i+1),true).1=m.take i from rfl,show(m.take i,m.drop (i+1),true).2.1=m.drop (i+1) from rfl,HA.out,HB.out];rfl,(Chg.refl _ _).drewN nq⟩
theorem y3j (c:UInt8) (m:List Nat) (hb:∀ d∈m,d<256) (hl:m.length<=1000000) (w:World) :
  Calls Tryz.prog 210 #[.string (sb m),.string ⟨#[c]⟩] w fun e w'=>e=.returned (.tuple #[.string (sb (z47 c.toNat m).1),.string (sb (z47 c.toNat m).2.1),.bool (z47 c.toNat m).2.2])/\Chg NoS w w':=by
 have H:=kf (fun W=>v2e c m hb hl W);obtain⟨t,ht⟩:∃ t,sb m=t:=⟨_,rfl⟩
 obtain⟨a,ha⟩:∃ a,sb (z47 c.toNat m).1=a:=⟨_,rfl⟩
 obtain⟨b,hb2⟩:∃ b,sb (z47 c.toNat m).2.1=b:=⟨_,rfl⟩
 obtain⟨f,hf⟩:∃ f,(z47 c.toNat m).2.2=f:=⟨_,rfl⟩
 rw [ht,ha,hb2,hf] at H;rw [ht,ha,hb2,hf];clear ht ha hb2 hf hb hl;go_enter Tryz.func210,Tryz.ntmps210;go_wp2_with (go_at_call 227;refine(H.out _).mono ?_;rintro e w2 ⟨rfl,hc2⟩;have HC2:=kf hc2;clear hc2);go_ret3;exact⟨rfl,HC2.out⟩
def y02 (k n:Int) (sz len:Nat):List Nat × Int:=if z05 k n sz len=0 then(if k=2 then z06 n else z0q n,0) else([],2)
theorem v6z {l:List Nat} (hb:∀ d∈l,d<256) (k:Nat) (h:k<(sb l).size):((sb l)[k]'h).toNat=l.getD k 0:=by
 rw [z5t,z6f l hb]
theorem y13 (l:List Nat) (m:Nat):(sb l).extract 0 m=sb (l.take m):=by
 unfold sb;apply ByteArray.ext;rw [ByteArray.data_extract];simp [List.map_take]
theorem y7n {l:List Nat} {n x:Nat} (hn:l.length=n+1) (hx:l.getD n 0=x):l.getLast?=some x:=by
 rw [List.getLast?_eq_getElem?,hn,Nat.add_sub_cancel];rw [List.getD_eq_getElem?_getD,List.getElem?_eq_getElem (by omega)] at hx;rw [List.getElem?_eq_getElem (by omega)];exact congrArg some hx
theorem z9h {k n:Nat} {l:List Nat} (hn:l.length=n+1) (hx:l.getD n 0=48):z1e (k+1) l=z1e k (l.take n):=by
 rw [z1e,if_pos (y7n hn hx),List.dropLast_eq_take,hn,Nat.add_sub_cancel]
theorem y27 {k n:Nat} {l:List Nat} (hn:l.length=n+1) (hx:l.getD n 0≠48):z1e k l=l:=by
 rcases k with _|k
 ·rfl
 ·rw [z1e,if_neg];intro h;have h2:=y7n hn rfl;rw [h] at h2;injection h2 with h2
  exact hx h2.symm
theorem y92 {l:List Nat} (h:∀ d∈l,isD d):∀ d∈l,d<256:=fun d hd=>by
 have:=h d hd;unfold isD at this;omega
def PrTo (w:World) (k n:Int) (sz len:Nat) (e:Ending) (w':World):Prop:=e=.returned (.tuple #[.string (sb (y02 k n sz len).1),.int .i64 (y02 k n sz len).2])/\Chg NoS w w'
theorem PrTo.of {w w':World} {k n:Int} {sz len:Nat} {l:List Nat} {z:Int} {t:ByteArray} (h:y02 k n sz len=(l,z)) (ht:t=sb l) (hc:Chg NoS w w'):PrTo w k n sz len (.returned (.tuple #[.string t,.int .i64 z])) w':=by
 unfold PrTo;rw [h,ht];exact⟨rfl,hc⟩
theorem z3h (k n:Int) (s:ByteArray) (A:Option Addr) (len cap:Nat) (w:World) :
  Calls Tryz.prog 48 #[.agg #[.int .i64 k,.int .i64 n,.string s,.slice A len cap]] w (PrTo w k n s.size len):=by
 have HK:=kf (fun W=>y2q k n s A len cap W);have HB:=kf (Blk.new w 25 #[.int .i64 k,.int .i64 n,.string s,.slice A len cap]);have HA:=kf ((Chg.refl NoS w).alloc (.cells #[.int .i64 k,.int .i64 n,.string s,.slice A len cap] 25));by_cases hc:z05 k n s.size len=0
 ·have hmay:z2x k n:=by
   unfold z05 at hc;split at hc
   ·rename_i h;exact h.2.2
   ·cases hc
  have HP:Hid (y02 k n s.size len=(if k=2 then z06 n else z0q n,0)):=if_pos hc;rw [hc] at HK;obtain⟨sz,hsz⟩:∃ sz,sz=s.size:=⟨_,rfl⟩
  rw [<- hsz] at HP ⊢;obtain⟨q,hq⟩:∃ q,q=n.natAbs:=⟨_,rfl⟩
  have hq2:q<=2147483647000000:=by unfold z2x at hmay;omega
  have HQ:=kf hq;have HT1:=kf (fun(W:World)=>z4e q 1 W (by omega) (by omega) (by decide));obtain⟨s1,hs1⟩:∃ s1,s1=sb (txt q 1):=⟨_,rfl⟩
  have hl1:s1.size<=20:=by
   rw [hs1,z01,z1d];have:=z0v (n:=q) (k:=20) (by omega);omega
  rw [<- hs1] at HT1;have HS1:=kf hs1;obtain⟨l1,hll1⟩:∃ l1,s1.size=l1:=⟨_,rfl⟩
  rw [hll1] at hl1
  -- the whole part,and the millionths
  obtain⟨r,hr⟩:∃ r,r=q / 1000000:=⟨_,rfl⟩
  obtain⟨m,hm⟩:∃ m,m=q%1000000:=⟨_,rfl⟩
  have er:(q:Int) / 1000000=(r:Int):=by omega
  have em:(q:Int)%1000000=(m:Int):=by omega
  have HRM:=kf (⟨hr,hm⟩:r=q / 1000000/\m=q%1000000);have hmm:m<1000000:=by omega
  have hrr:r<=2147483647:=by omega
  have HT6:=kf (fun(W:World)=>z4e m 6 W (by omega) (by omega) (by decide));have HTR:=kf (fun(W:World)=>z4e r 1 W (by omega) (by omega) (by decide));obtain⟨s2,hs2⟩:∃ s2,s2=sb (txt r 1):=⟨_,rfl⟩
  have hl2:s2.size<=20:=by
   rw [hs2,z01,z1d];have:=z0v (n:=r) (k:=20) (by omega);omega
  rw [<- hs2] at HTR;have HS2:=kf hs2;obtain⟨l2,hll2⟩:∃ l2,s2.size=l2:=⟨_,rfl⟩
  rw [hll2] at hl2;obtain⟨s6,hs6⟩:∃ s6,s6=sb (txt m 6):=⟨_,rfl⟩
  rw [<- hs6] at HT6;have HS6:=kf hs6
  have h66:(txt m 6).length=6:=by
   rw [z1d];have:=z0v (n:=m) (k:=6) (by omega);omega
  have H66:=kf h66;clear hc hsz hq hs1 hr hm hs2 hs6 h66;have HMAY:=kf hmay;by_cases hn:n<0
  ·have d1:decide (n<0)=true:=by simpa using hn
   have en:0-n=(q:Int):=by have:=HQ.out;omega
   have en2:-n=(q:Int):=by have:=HQ.out;omega
   have HSG:Hid (z33 n=[45]):=if_pos hn;clear hmay hn;by_cases h2:k=2
   ·subst h2;rw [if_pos rfl] at HP
    have HFIN:Hid ((ByteArray.mk #[45])++s1=sb (z06 n)):=by
     show _=_;rw [HS1.out,z06,HSG.out,<- HQ.out,<- z0e];rfl
    go_enter Tryz.func48,Tryz.ntmps48
    go_wp2_with (first
     |(go_at_call 84;refine(HK.out _).mono ?_;rintro e w2 ⟨rfl,hc2⟩;have hb:=HB.out.chg hc2 (fun e=>e);have c0:=hb.cell 0;have c1:=hb.cell 1;simp at c0 c1;have HC2:=kf (HA.out.trans hc2 (fun _ _ e=>e));clear hc2 hb)
     |(go_at_call 63;refine(HT1.out _).mono ?_;rintro e w' ⟨rfl,rfl⟩))
    go_ret2;exact PrTo.of HP.out HFIN.out HC2.out
   ·have u2:(k==2)=false:=by simpa using h2
    rw [if_neg h2] at HP;clear h2
    have HFIN:=kf (fun(t:ByteArray) (S:List Nat) (h1:t=sb S) (h2:z1e 5 (txt m 6)=S)=>(show((ByteArray.mk #[45]++s2)++ByteArray.mk #[46])++t=sb (z0q n) by
     rw [h1,HS2.out,z0q,HSG.out,<- HQ.out,<- HRM.out.1,<- HRM.out.2,h2];rw [show(ByteArray.mk #[46])=sb [46] from rfl,show(ByteArray.mk #[45])=sb [45] from rfl,z0e,z0e,z0e];simp))
    go_enter Tryz.func48,Tryz.ntmps48
    go_wp2_with (first
     |(go_at_call 84;refine(HK.out _).mono ?_;rintro e w2 ⟨rfl,hc2⟩;have hb:=HB.out.chg hc2 (fun e=>e);have c0:=hb.cell 0;have c1:=hb.cell 1;simp at c0 c1;have HC2:=kf (HA.out.trans hc2 (fun _ _ e=>e));clear hc2 hb)
     |(go_at_call 63;refine(HT6.out _).mono ?_;rintro e w' ⟨rfl,rfl⟩))
    go_loop [6,7] (fun vs vk=>∃ (j g h:Nat) (t:ByteArray),j<=5/\g<=6/\t.size=g/\vs=.string t/\vk=.int .i64 (j:Nat)/\Hid (g=h+1/\h=5-j/\∃ S:List Nat,t=sb S/\(∀ d∈S,isD d)/\z1e 5 (txt m 6)=z1e (5-j) S)) (fun _ vk=>5-(intOf vk).toNat)
    case atStart=>exact⟨0,6,5,s6,by omega,by omega,by rw [HS6.out,z01,H66.out],rfl,by go_num,⟨rfl,rfl,txt m 6,HS6.out,z52 m 6,rfl⟩⟩
    case round =>
     obtain⟨j,g,h,t,hj,hg6,hg,rfl,rfl,HT⟩:=hrel;have eg:(g:Int)-1=(h:Int):=by have:=HT.out.1;omega
     have hgh:h<g:=by have:=HT.out.1;omega
     have hih:(h:Int)<g:=by omega
     obtain⟨x,hx⟩:∃ x:Nat,∀ hh:h<t.size,(t[h]'hh).toNat=x:=⟨(t[h]'(by omega)).toNat,fun _=>rfl⟩
     have HX:Hid (∀ S:List Nat,t=sb S->(∀ d∈S,isD d)->S.length=h+1/\S.getD h 0=x):=by
      intro S h1 h3;subst h1;have h4:=hx (by omega);rw [v6z (y92 h3)] at h4;rw [z01] at hg;exact⟨by rw [hg];exact HT.out.1,h4⟩
     have HEX:Hid (∀ S:List Nat,t=sb S->t.extract 0 h=sb (S.take h)):=fun S h1=>by rw [h1,y13]
     by_cases h5:j<5
     ·by_cases h48:x=48
      ·subst h48
       have HNX:Hid (∃ S:List Nat,t.extract 0 h=sb S/\(∀ d∈S,isD d)/\S.length=h/\z1e 5 (txt m 6)=z1e (5-(j+1)) S):=by
        obtain⟨_,_,S,h1,h3,h4⟩:=HT.out;obtain⟨h6,h7⟩:=HX.out S h1 h3;refine⟨S.take h,HEX.out S h1,fun d hd=>h3 d (List.mem_of_mem_take hd),by rw [List.length_take];omega,?_⟩;rw [h4,show 5-j=5-(j+1)+1 from by omega,z9h h6 h7]
       go_wp2_with fail;go_round
       case rel =>
        obtain⟨S,h1,h3,h4,h6⟩:=HNX.out;have h7:=HT.out.2.1;exact⟨j+1,h,h-1,t.extract 0 h,by omega,by omega,by rw [h1,z01,h4],rfl,by go_num,⟨by omega,by omega,S,h1,h3,h6⟩⟩
       case measure=>simp [intOf];omega
      ·have u48:((x:Int)==48)=false:=by simp;omega
       have HEND:Hid (((ByteArray.mk #[45]++s2)++ByteArray.mk #[46])++t=sb (z0q n)):=by
        obtain⟨_,_,S,h1,h3,h4⟩:=HT.out;obtain⟨h6,h7⟩:=HX.out S h1 h3;exact HFIN.out t S h1 (by rw [h4];exact y27 h6 (by rw [h7];exact h48))
       clear h48;go_wp2_with (go_at_call 63;refine(HTR.out _).mono ?_;rintro e w' ⟨rfl,rfl⟩);go_ret2;exact PrTo.of HP.out HEND.out HC2.out
     ·have HEND:Hid (((ByteArray.mk #[45]++s2)++ByteArray.mk #[46])++t=sb (z0q n)):=by
       obtain⟨_,_,S,h1,h3,h4⟩:=HT.out;exact HFIN.out t S h1 (by rw [h4,show 5-j=0 from by omega];rfl)
      have d5:decide ((j:Int)<5)=false:=by simp;omega
      have d5':decide (j<5)=false:=by simp;omega
      go_wp2_with (go_at_call 63;refine(HTR.out _).mono ?_;rintro e w' ⟨rfl,rfl⟩);go_ret2;exact PrTo.of HP.out HEND.out HC2.out
  ·obtain rfl:n=(q:Int):=by have:=HQ.out;omega
   have d1:decide ((q:Int)<0)=false:=by simp
   have HSG:Hid (z33 (q:Nat)=[]):=if_neg hn;clear hmay hn;by_cases h2:k=2
   ·subst h2;rw [if_pos rfl] at HP
    have HFIN:Hid ((ByteArray.mk #[])++s1=sb (z06 (q:Nat))):=by
     show _=_;rw [HS1.out,z06,HSG.out,<- HQ.out,<- z0e];rfl
    go_enter Tryz.func48,Tryz.ntmps48
    go_wp2_with (first
     |(go_at_call 84;refine(HK.out _).mono ?_;rintro e w2 ⟨rfl,hc2⟩;have hb:=HB.out.chg hc2 (fun e=>e);have c0:=hb.cell 0;have c1:=hb.cell 1;simp at c0 c1;have HC2:=kf (HA.out.trans hc2 (fun _ _ e=>e));clear hc2 hb)
     |(go_at_call 63;refine(HT1.out _).mono ?_;rintro e w' ⟨rfl,rfl⟩))
    go_ret2;exact PrTo.of HP.out HFIN.out HC2.out
   ·have u2:(k==2)=false:=by simpa using h2
    rw [if_neg h2] at HP;clear h2
    have HFIN:=kf (fun(t:ByteArray) (S:List Nat) (h1:t=sb S) (h2:z1e 5 (txt m 6)=S)=>(show((ByteArray.mk #[]++s2)++ByteArray.mk #[46])++t=sb (z0q (q:Nat)) by
     rw [h1,HS2.out,z0q,HSG.out,<- HQ.out,<- HRM.out.1,<- HRM.out.2,h2];rw [show(ByteArray.mk #[46])=sb [46] from rfl,show(ByteArray.mk #[])=sb [] from rfl,z0e,z0e,z0e];simp))
    go_enter Tryz.func48,Tryz.ntmps48
    go_wp2_with (first
     |(go_at_call 84;refine(HK.out _).mono ?_;rintro e w2 ⟨rfl,hc2⟩;have hb:=HB.out.chg hc2 (fun e=>e);have c0:=hb.cell 0;have c1:=hb.cell 1;simp at c0 c1;have HC2:=kf (HA.out.trans hc2 (fun _ _ e=>e));clear hc2 hb)
     |(go_at_call 63;refine(HT6.out _).mono ?_;rintro e w' ⟨rfl,rfl⟩))
    go_loop [6,7] (fun vs vk=>∃ (j g h:Nat) (t:ByteArray),j<=5/\g<=6/\t.size=g/\vs=.string t/\vk=.int .i64 (j:Nat)/\Hid (g=h+1/\h=5-j/\∃ S:List Nat,t=sb S/\(∀ d∈S,isD d)/\z1e 5 (txt m 6)=z1e (5-j) S)) (fun _ vk=>5-(intOf vk).toNat)
    case atStart=>exact⟨0,6,5,s6,by omega,by omega,by rw [HS6.out,z01,H66.out],rfl,by go_num,⟨rfl,rfl,txt m 6,HS6.out,z52 m 6,rfl⟩⟩
    case round =>
     obtain⟨j,g,h,t,hj,hg6,hg,rfl,rfl,HT⟩:=hrel;have eg:(g:Int)-1=(h:Int):=by have:=HT.out.1;omega
     have hgh:h<g:=by have:=HT.out.1;omega
     have hih:(h:Int)<g:=by omega
     obtain⟨x,hx⟩:∃ x:Nat,∀ hh:h<t.size,(t[h]'hh).toNat=x:=⟨(t[h]'(by omega)).toNat,fun _=>rfl⟩
     have HX:Hid (∀ S:List Nat,t=sb S->(∀ d∈S,isD d)->S.length=h+1/\S.getD h 0=x):=by
      intro S h1 h3;subst h1;have h4:=hx (by omega);rw [v6z (y92 h3)] at h4;rw [z01] at hg;exact⟨by rw [hg];exact HT.out.1,h4⟩
     have HEX:Hid (∀ S:List Nat,t=sb S->t.extract 0 h=sb (S.take h)):=fun S h1=>by rw [h1,y13]
     by_cases h5:j<5
     ·by_cases h48:x=48
      ·subst h48
       have HNX:Hid (∃ S:List Nat,t.extract 0 h=sb S/\(∀ d∈S,isD d)/\S.length=h/\z1e 5 (txt m 6)=z1e (5-(j+1)) S):=by
        obtain⟨_,_,S,h1,h3,h4⟩:=HT.out;obtain⟨h6,h7⟩:=HX.out S h1 h3;refine⟨S.take h,HEX.out S h1,fun d hd=>h3 d (List.mem_of_mem_take hd),by rw [List.length_take];omega,?_⟩;rw [h4,show 5-j=5-(j+1)+1 from by omega,z9h h6 h7]
       go_wp2_with fail;go_round
       case rel =>
        obtain⟨S,h1,h3,h4,h6⟩:=HNX.out;have h7:=HT.out.2.1;exact⟨j+1,h,h-1,t.extract 0 h,by omega,by omega,by rw [h1,z01,h4],rfl,by go_num,⟨by omega,by omega,S,h1,h3,h6⟩⟩
       case measure=>simp [intOf];omega
      ·have u48:((x:Int)==48)=false:=by simp;omega
       have HEND:Hid (((ByteArray.mk #[]++s2)++ByteArray.mk #[46])++t=sb (z0q (q:Nat))):=by
        obtain⟨_,_,S,h1,h3,h4⟩:=HT.out;obtain⟨h6,h7⟩:=HX.out S h1 h3;exact HFIN.out t S h1 (by rw [h4];exact y27 h6 (by rw [h7];exact h48))
       clear h48;go_wp2_with (go_at_call 63;refine(HTR.out _).mono ?_;rintro e w' ⟨rfl,rfl⟩);go_ret2;exact PrTo.of HP.out HEND.out HC2.out
     ·have HEND:Hid (((ByteArray.mk #[]++s2)++ByteArray.mk #[46])++t=sb (z0q (q:Nat))):=by
       obtain⟨_,_,S,h1,h3,h4⟩:=HT.out;exact HFIN.out t S h1 (by rw [h4,show 5-j=0 from by omega];rfl)
      have d5:decide ((j:Int)<5)=false:=by simp;omega
      have d5':decide (j<5)=false:=by simp;omega
      go_wp2_with (go_at_call 63;refine(HTR.out _).mono ?_;rintro e w' ⟨rfl,rfl⟩);go_ret2;exact PrTo.of HP.out HEND.out HC2.out
 ·have HP:Hid (y02 k n s.size len=([],2)):=if_neg hc;obtain⟨z,hz⟩:∃ z,z=z05 k n s.size len:=⟨_,rfl⟩
  rw [<- hz] at HK hc;obtain⟨sz,hsz⟩:∃ sz,sz=s.size:=⟨_,rfl⟩
  rw [<- hsz] at HP ⊢;have v1:(z==0)=false:=by simpa using hc
  have v2:(z != 0)=true:=by simpa using hc
  clear hz hsz hc;go_enter Tryz.func48,Tryz.ntmps48;go_wp2_with (go_at_call 84;refine(HK.out _).mono ?_;rintro e w2 ⟨rfl,hc2⟩;have HC2:=kf (HA.out.trans hc2 (fun _ _ e=>e));clear hc2);go_ret2;exact PrTo.of HP.out rfl HC2.out
theorem z4o (n:Nat) (hn:n<=9223372036854775807) (w:World) (h:LibOk w) :
  Calls Tryz.prog 100 #[.int .i64 (n:Nat)] w fun e w'=>e=.returned (.string (sb (txt n 1)))/\Chg NoS w w' :=
 (Go.Proofs.Tryz.strconv_Itoa (n:Int) (by omega) (by omega) w h.tab).mono fun e w' hh=>by
  obtain⟨he,k,os,rfl⟩:=hh;refine⟨?_,v2j k os⟩;rw [he,v1e _ (by omega)];rfl
theorem v48 (c:Nat) (hc:c<=1000) (w:World) :
  Calls Tryz.prog 101 #[.string ⟨#[48]⟩,.int .i64 (c:Nat)] w fun e w'=>e=.returned (.string (sb (List.replicate c 48)))/\Chg NoS w w' :=
 (Go.Proofs.Tryz.strings_Repeat ⟨#[48]⟩ c w (by omega) (by show 1*c<=_;omega)).mono fun e w' hh=>by
  obtain⟨he,hb⟩:=hh;refine⟨?_,Chg.of_below hb⟩;rw [he];show Ending.returned (Value.string ⟨(Lib.repeatL [48] c).toArray⟩)=_;rw [v73]
theorem v3j (n d:Nat) (h:1<=d):List.replicate (d-(txt n 1).length) 48++txt n 1=txt n d:=by
 by_cases h0:n=0
 ·subst h0;rw [txt,txt,y91];simp only [List.length_nil,Nat.sub_zero,List.append_nil,List.length_replicate,List.replicate_append_replicate];rw [show d-1+(1-0)=d from by omega]
 ·have h1:=y90 (n:=n) (k:=0) (by simp;omega);rw [txt,txt,show 1-(dn n).length=0 from by omega];rfl
theorem z5d (n d:Nat) (hn:n<=9223372036854775807) (hd:1<=d/\d<=20) (w:World) (hL:LibOk w) :
  Calls Tryz.prog 62 #[.int .i64 (n:Nat),.int .i64 (d:Nat)] w fun e w'=>e=.returned (.string (sb (txt n d)))/\Chg NoS w w':=by
 obtain⟨L,hLn⟩:∃ L,(txt n 1).length=L:=⟨_,rfl⟩
 have hL20:L<=100:=by
  have h1:(dn n).length<=19:=z0v (by omega);rw [<- hLn,z1d];omega
 obtain⟨t,ht⟩:∃ t,sb (txt n 1)=t:=⟨_,rfl⟩
 have hts:t.size=L:=by rw [<- ht,z01,hLn]
 obtain⟨c,hc⟩:∃ c:Nat,d-L=c:=⟨_,rfl⟩
 have e1:max (0:Int) ((d:Int)-(L:Int))=(c:Int):=by omega
 obtain⟨r,hr⟩:∃ r,sb (List.replicate c 48)=r:=⟨_,rfl⟩
 have hrs:r.size=c:=by rw [<- hr,z01,List.length_replicate]
 have HI:=kf (z4o n hn w hL);have HR:=kf (fun W=>v48 c (by omega) W);rw [ht] at HI;rw [hr] at HR
 have HE:Hid (r++t=sb (txt n d)):=by
  show _=_;rw [<- hr,<- ht,z0e,<- hc,<- hLn,v3j n d hd.1]
 have hc20:c<=20:=by omega
 clear hL hLn ht hr;have HCD:=kf hc;clear hc;go_enter Tryz.func62,Tryz.ntmps62;go_wp2_with first|(go_at_call 100;refine HI.out.mono ?_;rintro e w2 ⟨rfl,hc2⟩;have HC2:=kf hc2;clear hc2)|(go_at_call 101;refine(HR.out _).mono ?_;rintro e w3 ⟨rfl,hc3⟩;have HC3:=kf (HC2.out.trans hc3 (fun _ _ h=>h));clear hc3)
 go_ret;rw [<- HE.out];exact⟨rfl,HC3.out⟩
theorem y71 (n d:Int) (w:World) (h0:-9223372036854775808<=n/\n<=9223372036854775807) (h1:-9223372036854775808<=d/\d<=9223372036854775807) (hL:LibOk w) :
  Calls Tryz.prog 30 #[.int .i64 n,.int .i64 d] w fun e w'=>e=.returned (.tuple #[.string (sb (z27 n d).1),.int .i64 (z27 n d).2])/\Chg NoS w w':=by
 by_cases c1:n<0
 ·have HB:Hid (z27 n d=([],2)):=z36 (.inl c1);have d1:decide (n<0)=true:=by simpa using c1
  clear c1 h0 h1;go_enter Tryz.func30,Tryz.ntmps30;go_wp2_with fail;go_ret2;rw [HB.out];exact⟨rfl,Chg.refl _ _⟩
 ·have d1:decide (n<0)=false:=by simpa using c1
  by_cases c2:d<1
  ·have HB:Hid (z27 n d=([],2)):=z36 (.inr (.inl c2));have d2:decide (d<1)=true:=by simpa using c2
   clear c1 c2 h0 h1;go_enter Tryz.func30,Tryz.ntmps30;go_wp2_with fail;go_ret2;rw [HB.out];exact⟨rfl,Chg.refl _ _⟩
  ·have d2:decide (d<1)=false:=by simpa using c2
   by_cases c3:20<d
   ·have HB:Hid (z27 n d=([],2)):=z36 (.inr (.inr (.inl c3)));have d3:decide (20<d)=true:=by simpa using c3
    clear c1 c2 c3 h0 h1;go_enter Tryz.func30,Tryz.ntmps30;go_wp2_with fail;go_ret2;rw [HB.out];exact⟨rfl,Chg.refl _ _⟩
   ·obtain⟨m,rfl⟩:∃ m:Nat,n=m:=⟨n.toNat,by omega⟩
    obtain⟨k,rfl⟩:∃ k:Nat,d=k:=⟨d.toNat,by omega⟩
    have d3:decide ((20:Int)<k)=false:=by simpa using c3
    have d3':decide (20<k)=false:=by simp;omega
    have d2':decide (k<1)=false:=by simp;omega
    have HP:=kf (z5d m k (by omega) ⟨by omega,by omega⟩ w hL);obtain⟨t,ht⟩:∃ t,sb (txt m k)=t:=⟨_,rfl⟩
    obtain⟨L,hLn⟩:∃ L,(txt m k).length=L:=⟨_,rfl⟩
    have hts:t.size=L:=by rw [<- ht,z01,hLn]
    rw [ht] at HP
    have hL100:L<=100:=by
     have h1:(dn m).length<=19:=z0v (by omega);rw [<- hLn,z1d];omega
    by_cases c4:k<L
    ·have HB:Hid (z27 (m:Int) (k:Int)=([],2)):=z36 (.inr (.inr (.inr (by simp;omega))));have d4:decide ((k:Int)<L)=true:=by simp;omega
     have d4':decide (k<L)=true:=by simp;omega
     clear c1 c2 c3 c4 h0 h1 hL ht hLn;go_enter Tryz.func30,Tryz.ntmps30;go_wp2_with (go_at_call 62;refine HP.out.mono ?_;rintro e w2 ⟨rfl,hc2⟩;have HC2:=kf hc2;clear hc2);go_ret2;rw [HB.out];exact⟨rfl,HC2.out⟩
    ·have HB:Hid (z27 (m:Int) (k:Int)=(txt m k,0)):=by
      show _=_;unfold z27;rw [if_neg (by rintro(h|h|h|h)<;>first|omega|(simp at h;omega))];rfl
     have HT:=kf ht;have d4:decide ((k:Int)<L)=false:=by simp;omega
     have d4':decide (k<L)=false:=by simp;omega
     clear c1 c2 c3 c4 h0 h1 hL ht hLn;go_enter Tryz.func30,Tryz.ntmps30;go_wp2_with (go_at_call 62;refine HP.out.mono ?_;rintro e w2 ⟨rfl,hc2⟩;have HC2:=kf hc2;clear hc2);go_ret2;rw [HB.out];exact⟨by rw [show(txt m k,(0:Int)).1=txt m k from rfl,HT.out];rfl,HC2.out⟩
def z5s (l:List Nat):List Nat:=(l.reverse.dropWhile (·== 48)).reverse
theorem y44 (m:List Nat) (x:Nat):z5s (m++[x])=if x=48 then z5s m else m++[x]:=by
 unfold z5s;rw [List.reverse_append,List.reverse_singleton,List.singleton_append,List.dropWhile_cons];by_cases h:x=48
 ·rw [if_pos h,if_pos (by simp [h])]
 ·rw [if_neg h,if_neg (by simp [h]),List.reverse_cons,List.reverse_reverse]
theorem y5y (c:Nat):∀ (k:Nat) (m:List Nat),m.length=k->z1e k (c::m)=c::z5s m:=by
 intro k;induction k with
 |zero=>intro m h;rw [List.eq_nil_of_length_eq_zero h];rfl
 |succ k ih =>
  intro m h;rcases List.eq_nil_or_concat m with rfl|⟨m',x,rfl⟩
  ·simp at h
  ·rw [List.concat_eq_append] at h ⊢;rw [List.length_append,List.length_singleton] at h;rw [z1e,y44,<- List.cons_append,List.getLast?_append,List.getLast?_singleton,List.dropLast_concat,ih m' (by omega)];by_cases hx:x=48
   ·rw [if_pos (by rw [hx];rfl),if_pos hx]
   ·rw [if_neg (by simpa using hx),if_neg hx,List.cons_append]
theorem z7g (l:List UInt8):(l.dropWhile (·== 48)).map UInt8.toNat=(l.map UInt8.toNat).dropWhile (·== 48):=by
 induction l with
 |nil=>rfl
 |cons x l ih =>
  rw [List.dropWhile_cons,List.map_cons,List.dropWhile_cons];by_cases h:x=48
  ·subst h;rw [if_pos (by rfl),if_pos (by rfl),ih]
  ·have h2:¬x.toNat=48:=fun h2=>h (UInt8.toNat_inj.1 h2);rw [if_neg (by simpa using h),if_neg (by simpa using h2),List.map_cons]
theorem v3q (l:List UInt8):(Lib.trimRightB l 48).map UInt8.toNat=z5s (l.map UInt8.toNat):=by
 unfold Lib.trimRightB z5s;rw [List.map_reverse,z7g,List.map_reverse]
theorem y45 (l:List Nat) (hb:∀ d∈l,d<256) (hl:l.length<=1000) (w:World) :
  Calls Tryz.prog 193 #[.string (sb l),.string ⟨#[48]⟩] w fun e w'=>e=.returned (.string (sb (z5s l)))/\w=w' :=
 (Go.Proofs.Tryz.strings_TrimRight_one (sb l) 48 (by decide) w (by rw [z01];omega)).mono fun e w' hh=>by
  obtain⟨he,hw⟩:=hh;refine⟨?_,hw.symm⟩;rw [he,v1c,v3q];show Ending.returned (Value.string (sb (z5s (sl (sb l)))))=_;rw [z6f l hb]
theorem v27 (l:List Nat) (p:Nat->Bool):(l.dropWhile p).length<=l.length:=by
 induction l with
 |nil=>exact Nat.le_refl _
 |cons x l ih =>
  rw [List.dropWhile_cons];split
  ·rw [List.length_cons];omega
  ·exact Nat.le_refl _
theorem z9j (l:List Nat):(z5s l).length<=l.length:=by
 unfold z5s;rw [List.length_reverse];exact Nat.le_trans (v27 _ _) (by rw [List.length_reverse];exact Nat.le_refl _)
theorem z9t (c:Nat) (m:List Nat) (hb:∀ d∈c::m,d<256) (hm:m.length=5) (w:World) :
  Calls Tryz.prog 165 #[.string (sb (c::m))] w fun e w'=>e=.returned (.string (sb (z1e 5 (c::m))))/\Chg NoS w w':=by
 have HR:=kf (fun W=>y45 m (fun d hd=>hb d (List.mem_cons_of_mem _ hd)) (by omega) W);obtain⟨s,hs⟩:∃ s,sb (c::m)=s:=⟨_,rfl⟩
 obtain⟨a,ha⟩:∃ a,sb [c]=a:=⟨_,rfl⟩
 obtain⟨b,hb2⟩:∃ b,sb m=b:=⟨_,rfl⟩
 obtain⟨t,ht⟩:∃ t,sb (z5s m)=t:=⟨_,rfl⟩
 have hz:s.size=6:=by rw [<- hs,z01,List.length_cons,hm]
 obtain⟨y,hy1,hy9⟩:∃ y,a.size=y/\y<=5:=⟨1,by rw [<- ha,z01];rfl,by omega⟩
 obtain⟨z,hz5⟩:∃ z,(z5s m).length=z:=⟨_,rfl⟩
 have hts:t.size=z:=by rw [<- ht,z01,hz5]
 have hz9:z<=5:=by
  have h:=z9j m;omega
 have ex1:s.extract 0 1=a:=by rw [<- hs,y13,<- ha];rfl
 have ex2:s.extract 1 6=b:=by
  rw [<- hs,<- hb2];unfold sb;apply ByteArray.ext;rw [ByteArray.data_extract];have e:(m.map UInt8.ofNat).length=5:=by rw [List.length_map,hm]
  simp;exact List.take_of_length_le (by omega)
 have HE:Hid (a++t=sb (z1e 5 (c::m))):=by
  show _=_;rw [<- ha,<- ht,z0e,y5y c 5 m hm];rfl
 rw [hb2,ht] at HR;rw [hs];have i1:¬9223372036854775807<y+z:=by omega
 have i2:y+z<=9223372036854775807:=by omega
 clear hs ha hb2 ht hb hm hz5;go_enter Tryz.func165,Tryz.ntmps165;go_upto_region 1 with fail;go_region_held3 (fun _=>True) (trivial) ((go_at_call 193;refine(HR.out _).mono ?_;rintro e w2 ⟨rfl,rfl⟩))
 go_wp2_with fail;go_ret;rw [<- HE.out];exact⟨rfl,(Chg.refl _ _).drew⟩
mutual
def z4y {σ:Type} (step:VT->Nat->σ->σ × Bool):VT->Nat->σ->σ
 |.mk k n s l,d,st=>if (step (.mk k n s l) d st).2 then z2v step l (d+1) (step (.mk k n s l) d st).1 else(step (.mk k n s l) d st).1
def z2v {σ:Type} (step:VT->Nat->σ->σ × Bool):List VT->Nat->σ->σ
 |[],_,st=>st
 |t::l,d,st=>z2v step l d (z4y step t d st)
end
theorem z89 {σ:Type} {step:VT->Nat->σ->σ × Bool} {k n:Int} {s:ByteArray} {l:List VT} {d:Nat} {st:σ} (h:(step (.mk k n s l) d st).2=true):z4y step (.mk k n s l) d st=z2v step l (d+1) (step (.mk k n s l) d st).1:=by rw [z4y,if_pos h]
theorem z5z {σ:Type} {step:VT->Nat->σ->σ × Bool} {k n:Int} {s:ByteArray} {l:List VT} {d:Nat} {st:σ} (h:(step (.mk k n s l) d st).2=false):z4y step (.mk k n s l) d st=(step (.mk k n s l) d st).1:=by rw [z4y,if_neg (by rw [h];decide)]
theorem z4z {σ:Type} (step:VT->Nat->σ->σ × Bool) (t:VT) (l:List VT) (d:Nat) (st:σ):z2v step (t::l) d st=z2v step l d (z4y step t d st):=by rw [z2v]
structure SeeOf (w0:World) (g:Nat) (lb:Array Value) {σ:Type} (S:Nat->Prop) (J:σ->World->Prop) (step:VT->Nat->σ->σ × Bool):Prop where
 chg:∀ st W,J st W->Chg NoS w0 W
 keep:∀ st W W',J st W->Chg NoS W W'->J st W'
 low:∀ st W,J st W->∀ i,S i->i<W.heap.size
 see:∀ (t:VT) (c:VC) (d:Nat) (st:σ) (W:World),ValIs W t c->J st W->d<=2000000000->Calls Tryz.prog g (#[c.val,.int .i64 (d:Nat)]++lb) W fun e w'=>e=.returned (.bool (step t d st).2)/\J (step t d st).1 w'/\Chg S W w'
theorem RowIs.at0 {w w':World} {b off j:Nat} {t:VT} {l:List VT} (h:RowIs w (some ⟨b,off,none⟩) j (t::l)) (hc:Chg NoS w w'):∃ (ek en:Int) (es:ByteArray) (eA:Option Addr) (el ec:Nat),
  w'.cell? ⟨b,off+j*4,none⟩=some (.int .i64 ek)/\w'.cell? ⟨b,off+j*4+1,none⟩=some (.int .i64 en)/\w'.cell? ⟨b,off+j*4+2,none⟩=some (.string es)/\w'.cell? ⟨b,off+j*4+3,none⟩=some (.slice eA el ec)/\ValIs w t ⟨ek,en,es,eA,el,ec⟩/\RowIs w (some ⟨b,off,none⟩) (j+1) l:=by
 obtain⟨⟨ek,en,es,eA,el,ec⟩,h0,h1,h2,h3,hv,hr⟩:=h.plain;refine⟨ek,en,es,eA,el,ec,?_,?_,?_,?_,hv,hr⟩
 ·exact(hc.cell (p:=⟨b,_,none⟩) (by exact z04 h0) (fun e=>e)).trans h0
 ·exact(hc.cell (p:=⟨b,_,none⟩) (by exact z04 h1) (fun e=>e)).trans h1
 ·exact(hc.cell (p:=⟨b,_,none⟩) (by exact z04 h2) (fun e=>e)).trans h2
 ·exact(hc.cell (p:=⟨b,_,none⟩) (by exact z04 h3) (fun e=>e)).trans h3
theorem Chg.weak {S:Nat->Prop} {w w':World} (h:Chg NoS w w'):Chg S w w':=(Chg.refl S w).trans h (fun _ _ e=>absurd e (fun e=>e))
theorem v3f {σ:Type} (w0:World) (g:Nat) (lb:Array Value) (eg:∀ args w,(callFunc g args).run Tryz.prog w=.ok (.enter g args) w) (S:Nat->Prop) (J:σ->World->Prop) (step:VT->Nat->σ->σ × Bool) (hs:SeeOf w0 g lb S J step) :
  ∀ (N:Nat) (t:VT),z2n t<=N->∀ (c:VC) (d:Nat) (st:σ) (w:World),ValIs w0 t c->J st w->d+N<=2000000000 ->
  Calls Tryz.prog 67 #[c.val,.int .i64 (d:Nat),.func (.func g) #[] lb] w fun e w'=>e=.returned (.tuple #[])/\J (z4y step t d st) w'/\Chg S w w':=by
 intro N;induction N with
 |zero =>
  intro t ht;obtain⟨k,n,s,l⟩:=t;rw [z0x] at ht;omega
 |succ N ih =>
  intro t ht c d st w hv hj hd;have HV:=kf hv;obtain⟨tk,tn,ts,l⟩:=t;obtain⟨h1,h2,h3,hg,hl,hr⟩:=hv.inv;obtain⟨ck,cn,cs,A,len,cap⟩:=c;simp only [] at h1 h2 h3 hl hr;subst h1 h2 h3;rw [z0x] at ht;have hcap:=hg.cap;have hlm:=hg.len;simp only [] at hcap hlm;unfold maxLen at hlm;have HL:=kf hl;have HR:=kf hr;have HIH:=kf (fun(t':VT) (ht':z2n t'<=z7q l)=>ih t' (by omega));unfold VC.val;simp only [];have HB:=kf (Blk.new w 25 #[.int .i64 ck,.int .i64 cn,.string cs,.slice A len cap]);have hc0:=((Chg.refl NoS w).alloc (.cells #[.int .i64 ck,.int .i64 cn,.string cs,.slice A len cap] 25))
  have HC0:=kf (Chg.weak (S:=S) hc0);have HJ0:=kf (hs.keep _ _ _ hj hc0);have HNS:Hid (¬S w.heap.size):=fun h=>absurd (hs.low _ _ hj _ h) (Nat.lt_irrefl _);obtain⟨W0,hW⟩:∃ W0,W0=w.alloc (.cells #[.int .i64 ck,.int .i64 cn,.string cs,.slice A len cap] 25):=⟨_,rfl⟩
  obtain⟨gb,hgg⟩:∃ gb,gb=w.heap.size:=⟨_,rfl⟩
  rw [<- hW] at HB HC0 HJ0;rw [<- hgg] at HB HNS;have HX:=kf (hs.see (.mk ck cn cs l) ⟨ck,cn,cs,A,len,cap⟩ d st W0 (HV.out.chg (hs.chg _ _ HJ0.out)) HJ0.out (by omega));unfold VC.val at HX;simp only [] at HX;obtain⟨bb,hbb⟩:∃ bb,bb=(step (.mk ck cn cs l) d st).2:=⟨_,rfl⟩
  obtain⟨s1,hs1⟩:∃ s1,s1=(step (.mk ck cn cs l) d st).1:=⟨_,rfl⟩
  have p0:=HB.out.cell 0;have p1:=HB.out.cell 1;have p2:=HB.out.cell 2;have p3:=HB.out.cell 3;simp at p0 p1 p2 p3;have HS:=kf hs;rw [<- hbb,<- hs1] at HX;have HBB:=kf hbb;have HS1:=kf hs1;clear hv hg hl hr ih ht hc0 hj hbb hs1 hs;cases bb with
  |false =>
   have HE:=kf (show z4y step (.mk ck cn cs l) d st=s1 from by rw [z5z HBB.out.symm,HS1.out]);go_enter Tryz.func67,Tryz.ntmps67;go_upto_region 1 with fail;rw [<- hgg,<- hW];clear hgg hW;go_wp2_with (go_at_fn g;refine HX.out.mono ?_;rintro e w3 ⟨rfl,hj3,hc3⟩;have HJ3:=kf hj3;have HC3:=kf (HC0.out.trans hc3 (fun _ _ e=>e));clear hj3 hc3);(try simp only [Exit.inBlock,Exit.then])
   refine bodyPost_ret (results_none rfl _ _ _) rfl ?_;exact⟨rfl,by rw [HE.out];exact HJ3.out,HC3.out⟩
  |true =>
   have HE:=kf (show z4y step (.mk ck cn cs l) d st=z2v step l (d+1) s1 from by rw [z89 HBB.out.symm,HS1.out]);go_enter Tryz.func67,Tryz.ntmps67;go_upto_region 1 with fail;rw [<- hgg,<- hW];clear hgg hW;go_upto_region 2 with(go_at_fn g;refine HX.out.mono ?_;rintro e w3 ⟨rfl,hj3,hc3⟩;have HJ3:=kf hj3;have HB3:=kf (HB.out.chg hc3 HNS.out);have HC3:=kf (HC0.out.trans hc3 (fun _ _ e=>e));clear hj3 hc3);clear p0 p1 p2 p3;have q3:=HB3.out.cell 3;simp at q3;go_upto_region 3 with fail;clear q3;go_loopw [16] (fun vk wr=>∃ (k:Nat) (s2:σ),k<=len/\vk=.int .i64 (k:Nat)/\Hid (J s2 wr)/\Hid (Chg S w wr)/\Hid (RowIs w0 A k (l.drop k))/\Hid (z2v step l (d+1) s1=z2v step (l.drop k) (d+1) s2)) (fun vk _=>len-(intOf vk).toNat)
   case atStart=>exact⟨0,s1,by omega,rfl,HJ3,HC3,by rw [List.drop_zero];exact HR.out,kf (by rw [List.drop_zero])⟩
   case round =>
    obtain⟨k,s2,hk,rfl,HJW,HCW,HRW,HFW⟩:=hrel;by_cases h1:k<len
    ·obtain⟨t',ht',hdd⟩:=z0r (l:=l) (k:=k) (by rw [HL.out];exact h1)
     obtain⟨b,off,rfl⟩:∃ b off,A=some ⟨b,off,none⟩:=by
      have h:=HR.out;cases hll:l with
      |nil=>rw [hll] at ht';simp at ht'
      |cons t0 l0=>rw [hll] at h;exact h.start
     have hrw:=HRW.out;rw [hdd] at hrw;obtain⟨ek,en,es,eA,el,ec,c0,c1,c2,c3,hv',hr'⟩:=hrw.at0 (HS.out.chg _ _ HJW.out);have HX2:=kf (fun(W:World) (h:Chg NoS wr W)=>HIH.out t' (z1r ht') ⟨ek,en,es,eA,el,ec⟩ (d+1) s2 W hv' (HS.out.keep _ _ _ HJW.out h) (by omega));unfold VC.val at HX2;simp only [] at HX2;have HRN:=kf hr';obtain⟨s4,hs4⟩:∃ s4,s4=z4y step t' (d+1) s2:=⟨_,rfl⟩
     have HFN:=kf (show z2v step l (d+1) s1=z2v step (l.drop (k+1)) (d+1) s4 from by rw [HFW.out,hdd,z4z,hs4]);rw [<- hs4] at HX2;have i1:(k:Int)<len:=by omega
     have hdi:((d+1:Nat):Int)=(d:Int)+1:=by omega
     rw [hdi] at HX2;clear hrw hv' hr' hdd ht' hs4 hdi;go_wp2_with (go_at_call 67;refine(HX2.out _ ((Chg.refl NoS wr).alloc _)).mono ?_;rintro e w4 ⟨rfl,hj4,hc4⟩;have HJ4:=kf hj4;have HC4:=kf ((HCW.out.alloc _).trans hc4 (fun _ _ e=>e));clear hj4 hc4);go_roundw
     case rel=>exact⟨k+1,s4,by omega,by go_num,HJ4,HC4,HRN,HFN⟩
     case measure=>simp [intOf];omega
    ·obtain rfl:k=len:=by omega
     have HFE:=kf (show z2v step l (d+1) s1=s2 from by rw [HFW.out,List.drop_of_length_le (by rw [HL.out];exact Nat.le_refl _),z2v]);go_wp2_with fail;go_end0;exact⟨rfl,by rw [HE.out,HFE.out];exact HJW.out,HCW.out⟩
theorem y23 {σ:Type} (w0:World) (g:Nat) (lb:Array Value) (eg:∀ args w,(callFunc g args).run Tryz.prog w=.ok (.enter g args) w) (S:Nat->Prop) (J:σ->World->Prop) (step:VT->Nat->σ->σ × Bool) (hs:SeeOf w0 g lb S J step)
  (t:VT) (c:VC) (d:Nat) (st:σ) (w:World) (hv:ValIs w0 t c) (hj:J st w) (hd:d+z2n t<=2000000000) :
  Calls Tryz.prog 67 #[c.val,.int .i64 (d:Nat),.func (.func g) #[] lb] w fun e w'=>e=.returned (.tuple #[])/\J (z4y step t d st) w'/\Chg S w w' :=
 v3f w0 g lb eg S J step hs _ t (Nat.le_refl _) c d st w hv hj hd
def z79 (most:Nat) (t:VT) (d:Nat) (st:Nat):Nat × Bool:=(max st d,decide (d<most/\(t.kind=6\/t.kind=7)))
structure DJ (w0:World) (g2 g1 most:Nat) (st:Nat) (W:World):Prop where
 a:Blk W g2 3 #[.int .i64 (st:Nat)]
 b:Blk W g1 3 #[.int .i64 (most:Nat)]
 ne:g1≠g2
 new:w0.heap.size<=g2
 chg:Chg NoS w0 W
theorem DJ.call {w0 W W':World} {g2 g1 most st:Nat} (h:DJ w0 g2 g1 most st W) (hc:Chg NoS W W'):DJ w0 g2 g1 most st W':=⟨h.a.chg hc (fun e=>e),h.b.chg hc (fun e=>e),h.ne,h.new,h.chg.trans hc (fun _ _ e=>e)⟩
theorem DJ.set {w0 W:World} {g2 g1 most st:Nat} (h:DJ w0 g2 g1 most st W) (n:Nat):DJ w0 g2 g1 most n (W.setCell ⟨g2,0,none⟩ (.int .i64 (n:Nat))) :=
 ⟨h.a.set_ 0 _,h.b.far (p:=⟨g2,0,none⟩) h.ne _,h.ne,h.new,h.chg.setCell (p:=⟨g2,0,none⟩) (fun h2=>absurd h2 (Nat.not_lt.2 h.new)) _⟩
theorem v2b (w0:World) (g2 g1 most:Nat) (t:VT) (c:VC) (d st:Nat) (W:World) (hv:ValIs W t c) (hj:DJ w0 g2 g1 most st W) :
  Calls Tryz.prog 102 #[c.val,.int .i64 (d:Nat),.pointer (some ⟨g2,0,none⟩),.pointer (some ⟨g1,0,none⟩)] W fun e w'=>e=.returned (.bool (z79 most t d st).2)/\DJ w0 g2 g1 most (z79 most t d st).1 w'/\Chg (fun i=>i=g2) W w':=by
 obtain⟨tk,tn,ts,l⟩:=t;obtain⟨h1,h2,h3,_,_,_⟩:=hv.inv;obtain⟨ck,cn,cs,A,len,cap⟩:=c;simp only [] at h1 h2 h3;subst h1 h2 h3;have HJ:=kf (hj.call ((Chg.refl NoS W).alloc (.cells #[.int .i64 ck,.int .i64 cn,.string cs,.slice A len cap] 25)));have hl:=hj.a.lt;have hne:¬W.heap.size=g2:=by omega
 have x0:=HJ.out.a.cell 0;have y0:=HJ.out.b.cell 0;have x1:=HJ.out.a.frozen 0;simp at x0 y0;have HC:=kf (((Chg.refl (fun i=>i=g2) W).alloc (.cells #[.int .i64 ck,.int .i64 cn,.string cs,.slice A len cap] 25)));have HB:=kf (Blk.new W 25 #[.int .i64 ck,.int .i64 cn,.string cs,.slice A len cap]);obtain⟨m,hm⟩:∃ m:Nat,m=max st d:=⟨_,rfl⟩
 have HJ2:=kf (HJ.out.set m);have HB2:=kf (HB.out.far (p:=⟨g2,0,none⟩) hne (.int .i64 (m:Nat)));have HC2:=kf (HC.out.setCell (p:=⟨g2,0,none⟩) (fun _=>rfl) (.int .i64 (m:Nat)));have z0:=HB2.out.cell 0;have z1:=HJ2.out.b.cell 0;simp at z0 z1;have HST:=kf (show(z79 most (.mk ck cn cs l) d st).1=m from hm.symm);have HS2:=kf (show(z79 most (.mk ck cn cs l) d st).2=decide (d<most/\(ck=6\/ck=7)) from rfl);rw [HST.out,HS2.out];unfold VC.val;simp only [];clear hj hv hl hne HST HS2;have HM:Hid (max (st:Int) (d:Int)=(m:Nat)):=by show _=_;rw [hm];omega
 clear hm;by_cases h1:d<most
 ·have e1:decide ((d:Int)<(most:Int))=true:=by simpa using h1
  have e1':decide (d<most)=true:=by simpa using h1
  by_cases h6:ck=6
  ·subst h6;have HK:=kf h1;clear h1;go_enter Tryz.func102,Tryz.ntmps102;go_upto_region 2 with fail;rw [HM.out];go_wp2_with fail;go_ret;exact⟨by first|rfl|simp [HK.out],HJ2.out,HC2.out⟩
  ·have e6:(ck==6)=false:=by simpa using h6
   by_cases h7:ck=7
   ·subst h7;have HK:=kf h1;clear h1 h6;go_enter Tryz.func102,Tryz.ntmps102;go_upto_region 2 with fail;rw [HM.out];go_wp2_with fail;go_ret;exact⟨by first|rfl|simp [HK.out],HJ2.out,HC2.out⟩
   ·have e7:(ck==7)=false:=by simpa using h7
    have HK6:=kf h6;have HK7:=kf h7;clear h1 h6 h7;go_enter Tryz.func102,Tryz.ntmps102;go_upto_region 2 with fail;rw [HM.out];go_wp2_with fail;go_ret;exact⟨by first|rfl|simp [HK6.out,HK7.out],HJ2.out,HC2.out⟩
 ·have e1:decide ((d:Int)<(most:Int))=false:=by simpa using h1
  have e1':decide (d<most)=false:=by simpa using h1
  have HK:=kf h1;clear h1;go_enter Tryz.func102,Tryz.ntmps102;go_upto_region 2 with fail;rw [HM.out];go_wp2_with fail;go_ret;exact⟨by first|rfl|simp [HK.out],HJ2.out,HC2.out⟩
theorem v5f (w0:World) (g2 g1 most:Nat):SeeOf w0 102 #[.pointer (some ⟨g2,0,none⟩),.pointer (some ⟨g1,0,none⟩)] (fun i=>i=g2) (DJ w0 g2 g1 most) (z79 most) where
 chg:=fun _ _ h=>h.chg
 keep:=fun _ _ _ h hc=>h.call hc
 low:=fun _ _ h i hi=>hi ▸ h.a.lt
 see:=fun t c d st W hv hj _=>v2b w0 g2 g1 most t c d st W hv hj
theorem z5k:∀ (l:List VT) (a:Nat),1<=a->z0w a l=max a (z0w 1 l)
 |[],a=>fun h=>by rw [z0w,z0w];omega
 |t::l,a=>fun h=>by
  have h1:=z1n t;have e1:=z5k l (z0p t+1) (by omega);have e2:=z5k l a h;rw [z1v,z1v,if_pos (show 1<z0p t+1 by omega)];split
  ·rw [e1];omega
  ·rw [e1,e2];omega
theorem y55 (t:VT) (l:List VT):z0w 1 (t::l)=max (z0p t+1) (z0w 1 l):=by
 have h1:=z1n t;rw [z1v,if_pos (show 1<z0p t+1 by omega),z5k l (z0p t+1) (by omega)]
mutual
theorem y5r (most:Nat):∀ (t:VT) (d st:Nat),1<=d->d<=most->z4y (z79 most) t d st=max st (min most (d-1+z0p t))
 |.mk k n s l,d,st=>fun h1 h2=>by
  by_cases h:d<most/\(k=6\/k=7)
  ·rw [z89 (show(z79 most (.mk k n s l) d st).2=true from decide_eq_true h)];show z2v (z79 most) l (d+1) (max st d)=_;rw [y5s most l (d+1) (max st d) (by omega) (by omega) (by omega),z0p,if_pos h.2];have:=(z39 l 1 (Nat.le_refl _)).1;omega
  ·rw [z5z (show(z79 most (.mk k n s l) d st).2=false from decide_eq_false h)];show max st d=_;have h4:=(z1n (.mk k n s l)).1;by_cases h3:d=most
   ·omega
   ·have h5:¬(k=6\/k=7):=fun e=>h ⟨by omega,e⟩;rw [z0p,if_neg h5];omega
theorem y5s (most:Nat):∀ (l:List VT) (d st:Nat),2<=d->d<=most->d-1<=st->z2v (z79 most) l d st=max st (min most (d-2+z0w 1 l))
 |[],d,st=>fun h1 h2 h3=>by rw [z2v,z0w];omega
 |t::l,d,st=>fun h1 h2 h3=>by
  have h4:=(z1n t).1;rw [z4z,y5r most t d st (by omega) h2,y5s most l d _ h1 h2 (by omega),y55];omega
end
theorem v2a (t:VT) (c:VC) (most:Nat) (w:World) (hv:ValIs w t c) (hs:z2n t<=1000000000) (hm:1<=most) :
  Calls Tryz.prog 66 #[c.val,.int .i64 (most:Nat)] w fun e w'=>e=.returned (.int .i64 ((min most (z0p t):Nat):Int))/\Chg NoS w w':=by
 have HV:=kf hv;obtain⟨ck,cn,cs,A,len,cap⟩:=c;unfold VC.val;simp only [];have HB:=kf (((Blk.new w 25 #[.int .i64 ck,.int .i64 cn,.string cs,.slice A len cap]).alloc (.cells #[.int .i64 (most:Nat)] 3)).alloc (.cells #[.int .i64 0] 3));have hb1:=(Blk.new (w.alloc (.cells #[.int .i64 ck,.int .i64 cn,.string cs,.slice A len cap] 25)) 3 #[.int .i64 (most:Nat)]).alloc (.cells #[.int .i64 0] 3);have hb2:=(Blk.new ((w.alloc (.cells #[.int .i64 ck,.int .i64 cn,.string cs,.slice A len cap] 25)).alloc (.cells #[.int .i64 (most:Nat)] 3)) 3 #[.int .i64 ((0:Nat):Int)])
 simp only [World.size_alloc] at hb1 hb2;have HJ:=kf ((⟨hb2,hb1,by omega,by omega,(((Chg.refl NoS w).alloc _).alloc _).alloc _⟩:DJ w (w.heap.size+1+1) (w.heap.size+1) most 0 _));have x0:=HB.out.cell 0;have x1:=HB.out.cell 1;have x2:=HB.out.cell 2;have x3:=HB.out.cell 3;simp at x0 x1 x2 x3;have HX:=kf (y23 w 102 _ (fun args w=>rfl) _ _ _ (v5f w (w.heap.size+1+1) (w.heap.size+1) most) t ⟨ck,cn,cs,A,len,cap⟩ 1 0 _ HV.out HJ.out (by omega));rw [y5r most t 1 0 (Nat.le_refl _) hm] at HX;have HE:=kf (show max 0 (min most (1-1+z0p t))=min most (z0p t) by omega);rw [HE.out] at HX;unfold VC.val at HX;simp only [] at HX;clear hb1 hb2;go_enter Tryz.func66,Tryz.ntmps66;go_wp2_with (go_at_call 67;refine HX.out.mono ?_;rintro e w4 ⟨rfl,hj4,hc4⟩;have q0:=hj4.a.cell 0;simp at q0;have HJ4:=kf hj4;clear hj4 hc4);go_ret;exact⟨rfl,HJ4.out.chg⟩
def nmQ (l:List VT) (j:Nat) (r:Int):Prop:=(∀ i t,i<j->l[2*i]?=some t->t.kind=5)/\((r=0/\∀ i t u,i+1<j->l[2*i]?=some t->l[2*i+2]?=some u->Op.bytesLess t.str.toList u.str.toList=true)\/(r=16/\¬y6f l))
theorem v17 (l:List VT):nmQ l 0 0:=⟨fun i t h=>absurd h (Nat.not_lt_zero i),.inl ⟨rfl,fun i t u h=>absurd h (by omega)⟩⟩
theorem z8l {l:List VT} {j q:Nat} {t:VT} {r:Int} (hn:nmQ l j r) (hq:q=2*j) (ht:l[q]?=some t) (h5:t.kind=5):∀ i u,i<j+1->l[2*i]?=some u->u.kind=5:=by
 intro i u hi hu;rcases Nat.lt_or_ge i j with h|h
 ·exact hn.1 i u h hu
 ·obtain rfl:i=j:=by omega
  rw [<- hq,ht] at hu;cases hu
  exact h5
theorem v4o {l:List VT} {t:VT} {r:Int} (hn:nmQ l 0 r) (ht:l[0]?=some t) (h5:t.kind=5):nmQ l 1 r:=by
 refine⟨z8l hn (q:=0) rfl ht h5,?_⟩;rcases hn.2 with⟨rfl,h⟩|h
 ·exact .inl ⟨rfl,fun i t u h=>absurd h (by omega)⟩
 ·exact .inr h
theorem v7c {l:List VT} {j p q:Nat} {t u:VT} {r:Int} (hn:nmQ l (j+1) r) (hp:p=2*j) (hq:q=2*(j+1)) (ht:l[p]?=some t) (hu:l[q]?=some u) (h5:u.kind=5) (hl:Op.bytesLess t.str.toList u.str.toList=true):nmQ l (j+1+1) r:=by
 refine⟨z8l hn hq hu h5,?_⟩;rcases hn.2 with⟨rfl,h⟩|h
 ·refine .inl ⟨rfl,fun i t' u' hi hit hiu=>?_⟩;rcases Nat.lt_or_ge (i+1) (j+1) with h2|h2
  ·exact h i t' u' h2 hit hiu
  ·obtain rfl:i=j:=by omega
   rw [<- hp,ht] at hit;rw [show 2*i+2=q by omega,hu] at hiu;cases hit
   cases hiu
   exact hl
 ·exact .inr h
theorem v7d {l:List VT} {j p q:Nat} {t u:VT} {r:Int} (hn:nmQ l (j+1) r) (hp:p=2*j) (hq:q=2*(j+1)) (ht:l[p]?=some t) (hu:l[q]?=some u) (h5:u.kind=5) (hl:Op.bytesLess t.str.toList u.str.toList=false):nmQ l (j+1+1) 16:=by
 refine⟨z8l hn hq hu h5,.inr ⟨rfl,fun h=>?_⟩⟩;have h2:=h j t u (by rw [<- hp];exact ht) (by rw [show 2*j+2=q by omega];exact hu);rw [hl] at h2;cases h2
theorem v4p {l:List VT} {j:Nat} {r:Int} (hn:nmQ l j r) (he:l.length%2=0) (hj:l.length<=2*j):z42 0 0 l=r:=by
 have h1:z7y l:=fun i t hit=>hn.1 i t (by have h:=(List.getElem?_eq_some_iff.1 hit).1;omega) hit;rcases hn.2 with⟨rfl,h⟩|⟨rfl,h⟩
 ·exact y93 he h1 (fun i t u hit hiu=>h i t u (by have h:=(List.getElem?_eq_some_iff.1 hiu).1;omega) hit hiu)
 ·exact y3h he h1 h
theorem y7f (l:List VT) (A:Option Addr) (len cap:Nat) (w0 w:World) (hl:l.length=len) (hr:RowIs w0 A 0 l) (hlm:len<=maxLen) (hc:Chg NoS w0 w) :
  Calls Tryz.prog 105 #[.slice A len cap] w fun e w'=>e=.returned (.int .i64 (z42 0 0 l))/\Chg NoS w w':=by
 unfold maxLen at hlm;obtain⟨r,hr2⟩:∃ r:Nat,len%2=r:=⟨_,rfl⟩
 have t1:(len:Int).tmod 2=(r:Int):=by rw [Int.tmod_eq_emod_of_nonneg (by omega)];omega
 have t2:(len:Int)%2=(r:Int):=by omega
 have HC:=kf hc;clear hc;by_cases h2:r=0
 ·subst h2;have HEV:=kf (show l.length%2=0 from by rw [hl];exact hr2);have HL:=kf hl;have HR:=kf hr;have HLE:=kf hr2;clear hr2 hl hr;go_enter Tryz.func105,Tryz.ntmps105;go_upto_region 5 with fail;go_loopw [3,4] (fun ve va wr=>∃ (j:Nat) (r:Int),2*j<=len/\ve=.int .i64 r/\va=.int .i64 ((2*j:Nat):Int)/\Hid (Chg NoS w wr)/\Hid (nmQ l j r)) (fun _ va _=>len-(intOf va).toNat)
  case atStart=>exact⟨0,0,by omega,rfl,by go_num,Chg.refl _ _,v17 l⟩
  case round =>
   obtain⟨j,r,hj,rfl,rfl,HCW,HN⟩:=hrel;obtain⟨q,hq⟩:∃ q,q=2*j:=⟨_,rfl⟩
   rw [<- hq] at hj ⊢;have HQ:=kf hq;clear hq;have HCR:=kf (HC.out.trans HCW.out (fun _ _ e=>e));by_cases h1:q<len
   ·obtain⟨u,hu,_⟩:=z0r (l:=l) (k:=q) (by rw [HL.out];exact h1)
    obtain⟨b,off,rfl⟩:∃ b off,A=some ⟨b,off,none⟩:=by
     have h:=HR.out;cases hll:l with
     |nil=>rw [hll] at hu;simp at hu
     |cons t0 l0=>rw [hll] at h;exact h.start
    obtain⟨eA,el,ec,c0,_,c2,_,_⟩:=HR.out.nth HCR.out hu;have i1:(q:Int)<len:=by omega
    obtain⟨uk,huk⟩:∃ uk,u.kind=uk:=⟨_,rfl⟩
    obtain⟨us,hus⟩:∃ us,u.str=us:=⟨_,rfl⟩
    rw [huk] at c0;rw [hus] at c2;have HU:=kf hu;have HUK:=kf huk;have HUS:=kf hus;clear hu huk hus;by_cases h5:uk=5
    ·subst h5;cases j with
     |zero =>
      obtain rfl:q=0:=HQ.out;simp only [Nat.zero_mul,Nat.add_zero] at c0 c2;have HNN:=kf (v4o HN.out HU.out HUK.out);have d0:decide ((0:Int)<0)=false:=by decide
      go_upto_region 9 with fail;go_quiet (fail);go_wp2_with fail;go_roundw
      case rel=>exact⟨1,r,by have:=HLE.out;omega,rfl,by go_num,HCW.out.drewN nq,HNN.out⟩
      case measure=>simp [intOf];omega
     |succ m =>
      obtain⟨p,hp⟩:∃ p,p=2*m:=⟨_,rfl⟩
      have hqp:(q:Int)-2=(p:Int):=by have:=HQ.out;omega
      have hp3:p<len:=by have:=HQ.out;omega
      have HPP:=kf hp;clear hp;obtain⟨t,ht,_⟩:=z0r (l:=l) (k:=p) (by rw [HL.out];exact hp3);obtain⟨eA',el',ec',_,_,c2',_,_⟩:=HR.out.nth HCR.out ht;have k1:IntKind.i64.wrap (p:Int)=(p:Int):=by rw [IntKind.wrap_i64];omega
      have k2:IntKind.i64.wrap ((q:Int)-2)=(p:Int):=by rw [hqp,k1]
      have i2:(p:Int)<len:=by omega
      have i3:(0:Int)<=(q:Int)-2:=by omega
      have i4:(q:Int)-2<len:=by omega
      have d0:decide ((0:Int)<(q:Int))=true:=by simp;omega
      have d0':decide (0<q)=true:=by simp;omega
      obtain⟨ts,hts⟩:∃ ts,t.str=ts:=⟨_,rfl⟩
      rw [hts] at c2';have HT:=kf ht;have HTS:=kf hts;clear ht hts;by_cases hb:Op.bytesLess ts.toList us.toList=true
      ·have HNN:=kf (v7c HN.out HPP.out HQ.out HT.out HU.out HUK.out (by rw [HTS.out,HUS.out];exact hb));go_upto_region 9 with fail;go_quiet (fail);go_wp2_with fail;go_roundw
       case rel=>exact⟨m+1+1,r,by have:=HLE.out;have:=HQ.out;omega,rfl,by have:=HQ.out;first|(go_num;done)|(go_num;omega),HCW.out.drewN nq,HNN.out⟩
       case measure=>simp [intOf];omega
      ·have hb2:Op.bytesLess ts.toList us.toList=false:=by simpa using hb
       have HNN:=kf (v7d HN.out HPP.out HQ.out HT.out HU.out HUK.out (by rw [HTS.out,HUS.out];exact hb2));clear hb;go_upto_region 9 with fail;go_quiet (fail);go_wp2_with fail;go_roundw
       case rel=>exact⟨m+1+1,16,by have:=HLE.out;have:=HQ.out;omega,rfl,by have:=HQ.out;first|(go_num;done)|(go_num;omega),HCW.out.drewN nq,HNN.out⟩
       case measure=>simp [intOf];omega
    ·have e5:(uk==5)=false:=by simpa using h5
     have e5':(uk != 5)=true:=by simpa using h5
     have HE:=kf (z1p (n:=0) (sz:=0) (l:=l) (.inr (.inr (.inr (fun h=>h5 (by rw [<- HUK.out];exact h j u (by rw [<- HQ.out];exact HU.out)))))));clear h5;go_wp2_with fail;go_ret;exact⟨z00 HE.out.symm,HCW.out⟩
   ·have HE:=kf (v4p HN.out HEV.out (by rw [HL.out];have:=HQ.out;omega));have d1:decide ((q:Int)<len)=false:=by simp;omega
    have d1':decide (q<len)=false:=by simp;omega
    go_wp2_with fail;go_ret;exact⟨z00 HE.out.symm,HCW.out⟩
 ·have e2:((r:Int)==0)=false:=by simpa using h2
  have e2':((r:Int) != 0)=true:=by simpa using h2
  have HE:=kf (z1p (n:=0) (sz:=0) (l:=l) (.inr (.inr (.inl (by rw [hl,hr2];exact h2)))));clear h2 hr2 hl hr;go_enter Tryz.func105,Tryz.ntmps105;go_wp2_with fail;go_ret;exact⟨z00 HE.out.symm,Chg.refl _ _⟩
theorem v1k (s:ByteArray):(∀ d∈sl s,d≠0)↔Lib.indexByte s.data.toList 0=-1:=by
 have e1:sl s=s.data.toList.map UInt8.toNat:=rfl;constructor
 ·intro h;have hge:=Lib.indexByte_ge s.data.toList 0;by_cases h2:Lib.indexByte s.data.toList 0=-1
  ·exact h2
  ·obtain⟨o,ho⟩:∃ o:Nat,Lib.indexByte s.data.toList 0=o:=⟨(Lib.indexByte s.data.toList 0).toNat,by omega⟩
   have h3:=(Lib.indexByte_some ho).1;have h4:=List.mem_of_getElem? h3;exact absurd rfl (h 0 (by rw [e1];exact List.mem_map.2 ⟨0,h4,rfl⟩))
 ·intro h d hd;rw [e1] at hd;obtain⟨x,hx,rfl⟩:=List.mem_map.1 hd;obtain⟨k,hk⟩:=List.getElem?_of_mem hx;intro h0;have h3:x=0:=UInt8.toNat_inj.1 h0;subst h3;exact Lib.indexByte_none h k hk
theorem y99 (s:ByteArray) (w:World):Calls Tryz.prog 104 #[.string s,.string ⟨#[0]⟩] w fun e w'=>e=.returned (.bool (decide (¬∀ d∈sl s,d≠0)))/\w'=w:=by
 have HI:=kf (fun W=>Go.Proofs.Tryz.stringslite_Index_one s 0 W);have hge:=Lib.indexByte_ge s.data.toList 0;obtain⟨z,hz⟩:∃ z,Lib.indexByte s.data.toList 0=z:=⟨_,rfl⟩
 have hd:decide (¬∀ d∈sl s,d≠0)=decide (0<=z):=by
  apply decide_eq_decide.2;rw [v1k,hz];rw [hz] at hge;omega
 rw [hz] at HI;rw [hd];clear hz hge hd
 have HS:Hid (∀ W,Calls Tryz.prog 147 #[.string s,.string ⟨#[0]⟩] W fun e w'=>e=.returned (.int .i64 z)/\w'=W):=by
  show ∀ W,_;intro W;go_enter Tryz.func147,Tryz.ntmps147;go_wp2_with (go_at_call 180;refine(HI.out _).mono ?_;rintro e w2 ⟨rfl,rfl⟩);go_ret;exact⟨rfl,rfl⟩
 go_enter Tryz.func104,Tryz.ntmps104;go_wp2_with (go_at_call 147;refine(HS.out _).mono ?_;rintro e w2 ⟨rfl,rfl⟩);go_ret;exact⟨rfl,rfl⟩
open Go.RowKit Go.Lib
theorem z9l {P:Program} {W:World} {name:String} {k:IntKind} {zs:List Int} {g:Nat} {t e:TypeId} {n:Nat}
  (hg:P.globalNamed name=some g) (hty:(P.globals[g]?).map (·.type)=some t) (ht:P.underlying t=some (.array n e)) (he:P.underlying e=some (.int k)) (hce:P.cellsOf e=1) (hct:P.cellsOf t=n)
  (h:∃ g' t' cs fuel p,P.globalNamed name=some g'/\(P.globals[g']?).map (·.type)=some t'/\W.var? P name=some cs/\DataW.trod (fun _=>()) P W 0 (fun _=>true) false fuel t' cs.toList=some (tabData k zs,p)):TabIs P W name k zs:=by
 obtain⟨g',t',cs,fuel,p,hg',ht',hvar,hd⟩:=h;obtain rfl:=Option.some.inj (hg.symm.trans hg');obtain rfl:=Option.some.inj (hty.symm.trans ht');unfold TabIs;rw [hvar,<- cells_of_tab ht he hce hct hd]
theorem v4r {W:World} (hL:laidMetH Tryz.prog Rows.xrefPrintsRow.laid W) (hsh:W.ShapedOpen Tryz.prog):LibOk W:=by
 rw [MakeChecks.laidMetH_plain _ _ _ (by kernel_rfl)] at hL;obtain⟨ps,hv,_⟩:=hL;obtain⟨_,_,_,_,_,_,_,_,_,_,hv,_⟩:=hv;obtain⟨_,_,_,_,_,_,_,_,_,_,hv,_⟩:=hv;obtain⟨g,t,cs,fuel,p,q,h1,h2,h3,h4,_⟩:=hv;have hr:∃ g' t' cs fuel p,Tryz.prog.globalNamed "internal/strconv.uint64pow10" = some g'/\(Tryz.prog.globals[g']?).map (·.type)=some t'/\W.var? Tryz.prog "internal/strconv.uint64pow10" = some cs/\DataW.trod (fun _=>()) Tryz.prog W 0 (fun _=>true) false fuel t' cs.toList=some (tabData .u64 pow10Tab,p):=⟨g,t,cs,fuel,p,h1,h2,h3,h4⟩
 exact⟨z9l (g:=2) (t:=255) (e:=219) (n:=20) (by kernel_rfl) (by kernel_rfl) Tryz.underlying255 Tryz.underlying219 (by kernel_rfl) (by kernel_rfl) hr,Go.Proofs.Tryz.laysM145.s1_3 W hsh⟩
end Go.Proofs.YtnhlalkeaaiefaaGreatDoor
