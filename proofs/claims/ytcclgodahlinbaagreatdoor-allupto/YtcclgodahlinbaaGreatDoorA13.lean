import Derived.Shelf.Small.Wraps
import Derived.Shelf.LaysM
import Derived.Shelf.LaysC
import Derived.Shelf.Strconv.Itoa3
import Derived.Shelf.Strconv.AtoiAll
import Derived.Shelf.Strings.Cut
import Derived.Test.YtcclgodahlinbaaGreatDoorChecked
import Derived.Test.YtcclgodahlinbaaGreatDoorA12
import Derived.Test.YtcclgodahlinbaaGreatDoorA10
import Derived.BigQuiet
import Derived.Deep.QuietTactic
import Derived.Test.YtcclgodahlinbaaGreatDoorA11
import Derived.Laws.IdiomStrings
namespace Go.Proofs
open Tryz Go.Shelf
def Tryz.lays103_ren:Go.Shelf.Ren:=⟨fun | 103=>138 | 210=>148 | 206=>153 | n=>n,fun | 9=>9 | 4=>4 | 24=>81 | 3=>3 | n=>n,fun | n=>n⟩
theorem Tryz.lays103:Go.Proofs.Lays.n103 prog Tryz.lays103_ren:= {
 mixed:=by kernel_rfl
 f103:=func138.trans (congrArg some (by kernel_rfl))
 f206:=func153.trans (congrArg some (by kernel_rfl))
 f210:=func148.trans (congrArg some (by kernel_rfl))
 t3:=underlying3
 a3:=Tryz.isAgg3
 z3:=Tryz.sizeOf3
 v3:=Tryz.zeroValue3
 t4:=underlying4
 a4:=Tryz.isAgg4
 z4:=Tryz.sizeOf4
 v4:=Tryz.zeroValue4
 t9:=underlying9
 a9:=Tryz.isAgg9
 z9:=Tryz.sizeOf9
 v9:=Tryz.zeroValue9
 t24:=underlying81
 a24:=Tryz.isAgg81
 z24:=Tryz.sizeOf81
 v24:=Tryz.zeroValue81 }
open Go.RowKit in
theorem Tryz.strings_CutPrefix (s p:ByteArray) (w:World):
 Calls prog 138 #[.string s,.string p] w fun e w'=>e= .returned (.tuple #[.string ⟨(Lib.trimPrefix s.data.toList p.data.toList).toArray⟩,.bool (Lib.hasPrefix s.data.toList p.data.toList)])/\w'=w:=Any.strings_CutPrefix Tryz.lays103 s p w
def Tryz.lays104_ren:Go.Shelf.Ren:=⟨fun | 104=>139 | 211=>149 | 207=>127 | n=>n,fun | 9=>9 | 4=>4 | 24=>81 | 3=>3 | n=>n,fun | n=>n⟩
theorem Tryz.lays104:Go.Proofs.Lays.n104 prog Tryz.lays104_ren:= {
 mixed:=by kernel_rfl
 f104:=func139.trans (congrArg some (by kernel_rfl))
 f207:=func127.trans (congrArg some (by kernel_rfl))
 f211:=func149.trans (congrArg some (by kernel_rfl))
 t3:=underlying3
 a3:=Tryz.isAgg3
 z3:=Tryz.sizeOf3
 v3:=Tryz.zeroValue3
 t4:=underlying4
 a4:=Tryz.isAgg4
 z4:=Tryz.sizeOf4
 v4:=Tryz.zeroValue4
 t9:=underlying9
 a9:=Tryz.isAgg9
 z9:=Tryz.sizeOf9
 v9:=Tryz.zeroValue9
 t24:=underlying81
 a24:=Tryz.isAgg81
 z24:=Tryz.sizeOf81
 v24:=Tryz.zeroValue81 }
open Go.RowKit in
theorem Tryz.strings_CutSuffix (s p:ByteArray) (w:World) (hs:s.size<=9223372036854775807):
 Calls prog 139 #[.string s,.string p] w fun e w'=>e= .returned (.tuple #[.string ⟨(Lib.trimSuffix s.data.toList p.data.toList).toArray⟩,.bool (Lib.hasSuffix s.data.toList p.data.toList)])/\w'=w:=Any.strings_CutSuffix Tryz.lays104 s p w hs
open Go.RowKit in
def Tryz.lays171_ren:Go.Shelf.Ren:=⟨fun | 171=>133 | 243=>145 | 246=>152 | 283=>155 | 284=>156 | 285=>157 | 286=>158 | 129=>162 | 317=>161 | 318=>163 | 319=>164 | 320=>165 | 337=>171 | 338=>172 | n=>n,fun | 3=>3 | 9=>9 | 2=>2 | 4=>4 | 171=>212 | 0=>0 | 53=>213 | 37=>72 | 5=>5 | 173=>216 | 212=>220 | 51=>202 | 20=>20 | 213=>221 | 46=>193 | 232=>235 | 233=>236 | n=>n,fun | 17=>3 | 18=>6 | 19=>7 | n=>n⟩
theorem Tryz.lays171:Go.Proofs.Lays.n171 prog Tryz.lays171_ren:= {
 mixed:=by kernel_rfl
 f129:=func162.trans (congrArg some (by kernel_rfl))
 f171:=func133.trans (congrArg some (by kernel_rfl))
 f243:=func145.trans (congrArg some (by kernel_rfl))
 f246:=func152.trans (congrArg some (by kernel_rfl))
 f283:=func155.trans (congrArg some (by kernel_rfl))
 f284:=func156.trans (congrArg some (by kernel_rfl))
 f285:=func157.trans (congrArg some (by kernel_rfl))
 f286:=func158.trans (congrArg some (by kernel_rfl))
 f317:=func161.trans (congrArg some (by kernel_rfl))
 f318:=func163.trans (congrArg some (by kernel_rfl))
 f319:=func164.trans (congrArg some (by kernel_rfl))
 f320:=func165.trans (congrArg some (by kernel_rfl))
 f337:=func171.trans (congrArg some (by kernel_rfl))
 f338:=func172.trans (congrArg some (by kernel_rfl))
 t0:=underlying0
 a0:=Tryz.isAgg0
 z0:=Tryz.sizeOf0
 v0:=Tryz.zeroValue0
 t2:=underlying2
 a2:=Tryz.isAgg2
 z2:=Tryz.sizeOf2
 v2:=Tryz.zeroValue2
 t3:=underlying3
 a3:=Tryz.isAgg3
 z3:=Tryz.sizeOf3
 v3:=Tryz.zeroValue3
 t4:=underlying4
 a4:=Tryz.isAgg4
 z4:=Tryz.sizeOf4
 v4:=Tryz.zeroValue4
 t5:=underlying5
 a5:=Tryz.isAgg5
 z5:=Tryz.sizeOf5
 v5:=Tryz.zeroValue5
 t9:=underlying9
 a9:=Tryz.isAgg9
 z9:=Tryz.sizeOf9
 v9:=Tryz.zeroValue9
 t20:=underlying20
 a20:=Tryz.isAgg20
 z20:=Tryz.sizeOf20
 v20:=Tryz.zeroValue20
 t37:=underlying72
 a37:=Tryz.isAgg72
 z37:=Tryz.sizeOf72
 v37:=Tryz.zeroValue72
 t46:=underlying193
 a46:=Tryz.isAgg193
 z46:=Tryz.sizeOf193
 v46:=Tryz.zeroValue193
 t51:=underlying202
 a51:=Tryz.isAgg202
 z51:=Tryz.sizeOf202
 v51:=Tryz.zeroValue202
 t53:=underlying213
 a53:=Tryz.isAgg213
 z53:=Tryz.sizeOf213
 v53:=Tryz.zeroValue213
 t171:=underlying212
 a171:=Tryz.isAgg212
 z171:=Tryz.sizeOf212
 v171:=Tryz.zeroValue212
 t173:=underlying216
 a173:=Tryz.isAgg216
 z173:=Tryz.sizeOf216
 v173:=Tryz.zeroValue216
 t212:=underlying220
 a212:=Tryz.isAgg220
 z212:=Tryz.sizeOf220
 v212:=Tryz.zeroValue220
 t213:=underlying221
 a213:=Tryz.isAgg221
 z213:=Tryz.sizeOf221
 t232:=underlying235
 a232:=Tryz.isAgg235
 z232:=Tryz.sizeOf235
 v232:=Tryz.zeroValue235
 t233:=underlying236
 a233:=Tryz.isAgg236
 z233:=Tryz.sizeOf236
 v233:=Tryz.zeroValue236
 g17:=by kernel_rfl
 g18:=by kernel_rfl
 g19:=by kernel_rfl }
open Go.RowKit in
def Tryz.laysC172_ren:Go.Shelf.Ren:=⟨fun | 172=>154 | 244=>159 | 245=>160 | 247=>166 | 279=>167 | 280=>168 | 281=>169 | 282=>170 | 287=>173 | 316=>112 | 171=>133 | 205=>174 | 321=>175 | 322=>176 | 243=>145 | 246=>152 | 283=>155 | 284=>156 | 285=>157 | 286=>158 | 129=>162 | 317=>161 | 318=>163 | 319=>164 | 320=>165 | 337=>171 | 338=>172 | n=>n,fun | 9=>9 | 3=>3 | 75=>139 | 76=>140 | 4=>4 | 5=>5 | 167=>223 | 37=>72 | 0=>0 | 85=>224 | 2=>2 | 168=>226 | 53=>213 | 175=>230 | 46=>193 | 210=>233 | 127=>172 | 145=>240 | 143=>238 | 21=>21 | 171=>212 | 173=>216 | 212=>220 | 51=>202 | 20=>20 | 213=>221 | 232=>235 | 233=>236 | 80=>78 | n=>n,fun | 15=>4 | 16=>5 | 17=>3 | 18=>6 | 19=>7 | n=>n⟩
theorem Tryz.laysC172:Go.Proofs.LaysC.n172 prog Tryz.laysC172_ren:= {
 mixed:=by kernel_rfl
 f129:=func162.trans (congrArg some (by kernel_rfl))
 f171:=func133.trans (congrArg some (by kernel_rfl))
 f172:=func154.trans (congrArg some (by kernel_rfl))
 f205:=func174.trans (congrArg some (by kernel_rfl))
 f243:=func145.trans (congrArg some (by kernel_rfl))
 f244:=func159.trans (congrArg some (by kernel_rfl))
 f245:=func160.trans (congrArg some (by kernel_rfl))
 f246:=func152.trans (congrArg some (by kernel_rfl))
 f247:=func166.trans (congrArg some (by kernel_rfl))
 f279:=func167.trans (congrArg some (by kernel_rfl))
 f280:=func168.trans (congrArg some (by kernel_rfl))
 f281:=func169.trans (congrArg some (by kernel_rfl))
 f282:=func170.trans (congrArg some (by kernel_rfl))
 f283:=func155.trans (congrArg some (by kernel_rfl))
 f284:=func156.trans (congrArg some (by kernel_rfl))
 f285:=func157.trans (congrArg some (by kernel_rfl))
 f286:=func158.trans (congrArg some (by kernel_rfl))
 f287:=func173.trans (congrArg some (by kernel_rfl))
 f316:=func112.trans (congrArg some (by kernel_rfl))
 f317:=func161.trans (congrArg some (by kernel_rfl))
 f318:=func163.trans (congrArg some (by kernel_rfl))
 f319:=func164.trans (congrArg some (by kernel_rfl))
 f320:=func165.trans (congrArg some (by kernel_rfl))
 f321:=func175.trans (congrArg some (by kernel_rfl))
 f322:=func176.trans (congrArg some (by kernel_rfl))
 f337:=func171.trans (congrArg some (by kernel_rfl))
 f338:=func172.trans (congrArg some (by kernel_rfl))
 t0:=underlying0
 a0:=Tryz.isAgg0
 z0:=Tryz.sizeOf0
 v0:=Tryz.zeroValue0
 t2:=underlying2
 a2:=Tryz.isAgg2
 z2:=Tryz.sizeOf2
 v2:=Tryz.zeroValue2
 t3:=underlying3
 a3:=Tryz.isAgg3
 z3:=Tryz.sizeOf3
 v3:=Tryz.zeroValue3
 t4:=underlying4
 a4:=Tryz.isAgg4
 z4:=Tryz.sizeOf4
 v4:=Tryz.zeroValue4
 t5:=underlying5
 a5:=Tryz.isAgg5
 z5:=Tryz.sizeOf5
 v5:=Tryz.zeroValue5
 t9:=underlying9
 a9:=Tryz.isAgg9
 z9:=Tryz.sizeOf9
 v9:=Tryz.zeroValue9
 t20:=underlying20
 a20:=Tryz.isAgg20
 z20:=Tryz.sizeOf20
 v20:=Tryz.zeroValue20
 t21:=underlying21
 a21:=Tryz.isAgg21
 z21:=Tryz.sizeOf21
 v21:=Tryz.zeroValue21
 t37:=underlying72
 a37:=Tryz.isAgg72
 z37:=Tryz.sizeOf72
 v37:=Tryz.zeroValue72
 t46:=underlying193
 a46:=Tryz.isAgg193
 z46:=Tryz.sizeOf193
 v46:=Tryz.zeroValue193
 t51:=underlying202
 a51:=Tryz.isAgg202
 z51:=Tryz.sizeOf202
 v51:=Tryz.zeroValue202
 t53:=underlying213
 a53:=Tryz.isAgg213
 z53:=Tryz.sizeOf213
 v53:=Tryz.zeroValue213
 t75:=underlying139
 a75:=Tryz.isAgg139
 z75:=Tryz.sizeOf139
 v75:=Tryz.zeroValue139
 t76:=underlying140
 a76:=Tryz.isAgg140
 z76:=Tryz.sizeOf140
 v76:=Tryz.zeroValue140
 t85:=underlying224
 a85:=Tryz.isAgg224
 z85:=Tryz.sizeOf224
 v85:=Tryz.zeroValue224
 t127:=underlying172
 a127:=Tryz.isAgg172
 z127:=Tryz.sizeOf172
 v127:=Tryz.zeroValue172
 t143:=underlying238
 a143:=Tryz.isAgg238
 z143:=Tryz.sizeOf238
 v143:=Tryz.zeroValue238
 t145:=underlying240
 a145:=Tryz.isAgg240
 z145:=Tryz.sizeOf240
 v145:=Tryz.zeroValue240
 t167:=underlying223
 a167:=Tryz.isAgg223
 z167:=Tryz.sizeOf223
 v167:=Tryz.zeroValue223
 t168:=underlying226
 a168:=Tryz.isAgg226
 z168:=Tryz.sizeOf226
 v168:=Tryz.zeroValue226
 t171:=underlying212
 a171:=Tryz.isAgg212
 z171:=Tryz.sizeOf212
 v171:=Tryz.zeroValue212
 t173:=underlying216
 a173:=Tryz.isAgg216
 z173:=Tryz.sizeOf216
 v173:=Tryz.zeroValue216
 t175:=underlying230
 a175:=Tryz.isAgg230
 z175:=Tryz.sizeOf230
 v175:=Tryz.zeroValue230
 t210:=underlying233
 a210:=Tryz.isAgg233
 z210:=Tryz.sizeOf233
 v210:=Tryz.zeroValue233
 t212:=underlying220
 a212:=Tryz.isAgg220
 z212:=Tryz.sizeOf220
 v212:=Tryz.zeroValue220
 t213:=underlying221
 a213:=Tryz.isAgg221
 z213:=Tryz.sizeOf221
 t232:=underlying235
 a232:=Tryz.isAgg235
 z232:=Tryz.sizeOf235
 v232:=Tryz.zeroValue235
 t233:=underlying236
 a233:=Tryz.isAgg236
 z233:=Tryz.sizeOf236
 v233:=Tryz.zeroValue236
 g15:=by kernel_rfl
 g16:=by kernel_rfl
 g17:=by kernel_rfl
 g18:=by kernel_rfl
 g19:=by kernel_rfl
 t80:=underlying78
 a80:=Tryz.isAgg78
 z80:=Tryz.sizeOf78
 v80:=Tryz.zeroValue78
 i0:=by kernel_rfl
 i2:=by kernel_rfl
 i3:=by kernel_rfl
 i4:=by kernel_rfl
 i5:=by kernel_rfl
 i9:=by kernel_rfl
 i20:=by kernel_rfl
 i21:=by kernel_rfl
 i37:=by kernel_rfl
 i46:=by kernel_rfl
 i51:=by kernel_rfl
 i53:=by kernel_rfl
 i75:=by kernel_rfl
 i76:=by kernel_rfl
 i80:=by kernel_rfl
 i85:=by kernel_rfl
 i127:=by kernel_rfl
 i143:=by kernel_rfl
 i145:=by kernel_rfl
 i167:=by kernel_rfl
 i168:=by kernel_rfl
 i171:=by kernel_rfl
 i173:=by kernel_rfl
 i175:=by kernel_rfl
 i210:=by kernel_rfl
 i212:=by kernel_rfl
 i232:=by kernel_rfl
 i233:=by kernel_rfl
 m15:=by kernel_rfl
 m16:=by kernel_rfl
 m17:=by kernel_rfl
 m18:=by kernel_rfl
 m19:=by kernel_rfl
 c0:=by kernel_rfl
 c2:=by kernel_rfl
 c3:=by kernel_rfl
 c4:=by kernel_rfl
 c5:=by kernel_rfl
 c9:=by kernel_rfl
 c20:=by kernel_rfl
 c21:=by kernel_rfl
 c37:=by kernel_rfl
 c46:=by kernel_rfl
 c51:=by kernel_rfl
 c53:=by kernel_rfl
 c75:=by kernel_rfl
 c76:=by kernel_rfl
 c80:=by kernel_rfl
 c85:=by kernel_rfl
 c127:=by kernel_rfl
 c143:=by kernel_rfl
 c145:=by kernel_rfl
 c167:=by kernel_rfl
 c168:=by kernel_rfl
 c171:=by kernel_rfl
 c173:=by kernel_rfl
 c175:=by kernel_rfl
 c210:=by kernel_rfl
 c212:=by kernel_rfl
 c213:=by kernel_rfl
 c232:=by kernel_rfl
 c233:=by kernel_rfl }
open Go.RowKit in
theorem Tryz.strconv_Atoi_ok (s:ByteArray) (hmax:s.size<=9223372036854775806) (v:Int) (h:Lib.atoiAll s.data.toList= .ok v) (w:World):
 Calls prog 154 #[.string s] w fun e w'=>e= .returned (.tuple #[.int .i64 v,.nilIface])/\(w'=w\/ ∃t,w'=Lib.bytesWorld w 5 t):=Any.strconv_Atoi_ok Tryz.laysC172 s hmax v h w
open Go.RowKit in
theorem Tryz.strconv_Atoi_syntax (s:ByteArray) (hlim:s.size<=281474976710656) (h:Lib.atoiAll s.data.toList=Lib.atoiAll []) (ev:Value) (w:World) (hv:w.cell? ⟨4,0,none⟩=some ev) (hev:ev= .nilIface\/ ∃te pe,ev= .iface te pe):
 Calls prog 154 #[.string s] w fun e w'=> ∃N,e= .returned (.tuple #[.int .i64 (0),.iface 226 (.pointer (some ⟨N,0,none⟩))])/\w.heap.size<=N/\w'.heap[N]? =some (.cells #[.string ⟨#[65,116,111,105]⟩,.string s,ev] 233 (0,0))/\Below w.heap.size w w':=Any.strconv_Atoi_syntax Tryz.laysC172 s hlim h ev w hv hev
open Go.RowKit in
def Tryz.lays145_ren:Go.Shelf.Ren:=⟨fun | 145=>34 | 220=>75 | 219=>110 | 217=>134 | 225=>135 | 224=>136 | 267=>137 | 266=>146 | 314=>147 | n=>n,fun | 9=>9 | 4=>4 | 59=>89 | 3=>3 | 5=>5 | 46=>193 | 146=>203 | 51=>202 | n=>n,fun | 1=>0 | n=>n⟩
theorem Tryz.lays145:Go.Proofs.Lays.n145 prog Tryz.lays145_ren:= {
 mixed:=by kernel_rfl
 f145:=func34.trans (congrArg some (by kernel_rfl))
 f217:=func134.trans (congrArg some (by kernel_rfl))
 f219:=func110.trans (congrArg some (by kernel_rfl))
 f220:=func75.trans (congrArg some (by kernel_rfl))
 f224:=func136.trans (congrArg some (by kernel_rfl))
 f225:=func135.trans (congrArg some (by kernel_rfl))
 f266:=func146.trans (congrArg some (by kernel_rfl))
 f267:=func137.trans (congrArg some (by kernel_rfl))
 f314:=func147.trans (congrArg some (by kernel_rfl))
 t3:=underlying3
 a3:=Tryz.isAgg3
 z3:=Tryz.sizeOf3
 v3:=Tryz.zeroValue3
 t4:=underlying4
 a4:=Tryz.isAgg4
 z4:=Tryz.sizeOf4
 v4:=Tryz.zeroValue4
 t5:=underlying5
 a5:=Tryz.isAgg5
 z5:=Tryz.sizeOf5
 v5:=Tryz.zeroValue5
 t9:=underlying9
 a9:=Tryz.isAgg9
 z9:=Tryz.sizeOf9
 v9:=Tryz.zeroValue9
 t46:=underlying193
 a46:=Tryz.isAgg193
 z46:=Tryz.sizeOf193
 v46:=Tryz.zeroValue193
 t51:=underlying202
 a51:=Tryz.isAgg202
 z51:=Tryz.sizeOf202
 v51:=Tryz.zeroValue202
 t59:=underlying89
 a59:=Tryz.isAgg89
 z59:=Tryz.sizeOf89
 v59:=Tryz.zeroValue89
 t146:=underlying203
 a146:=Tryz.isAgg203
 z146:=Tryz.sizeOf203
 v146:=Tryz.zeroValue203
 g1:=by kernel_rfl }
open Go.RowKit Go.Lib in
theorem Tryz.strings_Cut (s sep:ByteArray) (m:Int) (w:World) (hs:s.size<4294967281) (hm:w.cell? ⟨0,0,none⟩=some (.int .i64 m)):
 Calls prog 34 #[.string s,.string sep] w fun e w'=>e= .returned (.tuple #[.string ⟨(Lib.cut s.data.toList sep.data.toList).1.toArray⟩,.string ⟨(Lib.cut s.data.toList sep.data.toList).2.1.toArray⟩,.bool (Lib.cut s.data.toList sep.data.toList).2.2])/\ ∃n,w'=w.drewN n:=Any.strings_Cut Tryz.lays145 s sep m w hs hm
end Go.Proofs
namespace Go.Proofs.YtcclgodahlinbaaGreatDoor
set_option maxHeartbeats 16000000
open Tryz Go.RowKit Go
set_option maxRecDepth 100000
theorem Vy (w:World) (n:Nat):Below w.heap.size w (w.drewN n):=⟨rfl,rfl,rfl,Nat.le_refl _,fun _ _=>rfl⟩
theorem xq (l:List UInt8):(⟨l.toArray⟩:ByteArray).size=l.length:=by show l.toArray.size=_;simp
structure PP (w:World):Prop where
 ml: ∃m,w.cell? ⟨0,0,none⟩=some (.int .i64 m)
 es: ∃ev,w.cell? ⟨4,0,none⟩=some ev/\(ev= .nilIface\/ ∃te pe,ev= .iface te pe)
 sz:5<=w.heap.size
theorem PP.below {w w':World} {N:Nat} (h:PP w) (hb:Below N w w') (hN:5<=N) (hs:w.heap.size<=w'.heap.size):PP w':=by
 obtain ⟨m,hm⟩:=h.ml
 obtain ⟨ev,he,hc⟩:=h.es
 have:=h.sz
 exact ⟨⟨m,(hb.cell (p:=⟨0,0,none⟩) (by show 0<N;omega)).trans hm⟩,⟨ev,(hb.cell (p:=⟨4,0,none⟩) (by show 4<N;omega)).trans he,hc⟩,by omega⟩
theorem Eg {w w1 w2 w3:World} (h1:Below w.heap.size w w1) (h2:Below w1.heap.size w1 w2) (h3:Below w2.heap.size w2 w3):Below w.heap.size w w3:=
 (h1.trans (h2.mono h1.size)).trans (h3.mono (by have:=h1.size;have:=h2.size;omega))
abbrev jQ:Obj:= .cells #[.int .i64 0,.int .i64 0,.int .i64 0,.int .i64 0,.slice none 0 0] 61 (0,0)
theorem Sm {W:World} {g:Nat} {a0 a1 a2 a3 a4:Value} {t:TypeId} (h:W.heap[g]? =some (.cells #[a0,a1,a2,a3,a4] t (0,0))) (ob:Obj) (v0 v1 v2 v3 v4:Value):
 ((((((W.setCell ⟨g,0,none⟩ v0).setCell ⟨g,1,none⟩ v1).setCell ⟨g,2,none⟩ v2).setCell ⟨g,3,none⟩ v3).setCell ⟨g,4,none⟩ v4).alloc ob).heap[g]? =some (.cells #[v0,v1,v2,v3,v4] t (0,0)):=
 (Below.heap_alloc _ ob g (by have:=(Array.getElem?_eq_some_iff.1 h).1;simpa using this)).trans (zb _ _ _ _ _ _ _ (zb _ _ _ _ _ _ _ (zb _ _ _ _ _ _ _ (zb _ _ _ _ _ _ _ (zb _ _ _ _ _ _ _ h)))))
theorem ZH {S:Nat} {ad vb:Value} {bs:List Value} {w:World} (c:Int) (h:xT S ad vb bs w) (hlen:bs.length+1<=140737488355328):
 Calls prog 74 #[.pointer (some ⟨S,0,none⟩),.int .u8 c] w fun e w'=>e= .returned .nilIface/\ ∃vb',xT S (.pointer (some ⟨S,0,none⟩)) vb' (bs++ [.int .u8 c]) w'/\Below S w w'/\Lib.OthersKept 5 (some S) w w':=by
 obtain ⟨i0,hi,hz0,hz1,hz2⟩:=info_parts Zy
 have hlt:=h.lt
 have hone: ∀u∈ [Value.int .u8 c],u.oneCell'=true:=by intro u hu;simp at hu;subst hu;rfl
 go_enter func74,ntmps74
 go_wp2_with (go_at_call 108;refine (ZV h).mono ?_)
 rintro e w1 ⟨rfl,h1,hb1,hk1⟩
 have hz:=hb1.size
 have hlt1:=h1.lt
 have c2:w1.cell? ⟨S,1,none⟩=some vb:=za h1.blk rfl
 obtain ⟨ab0,cb0,rfl⟩:=zn h1.own
 go_wp2_with (at_builtin;refine wpList_append_own _ rfl (.tmp 11) (.tmp 13) 72 rfl (S+1) 5 i0 _ 1 1 underlying72 hi hz0 hz1 hz2 rfl (by decide) (.slice ab0 bs.length cb0) bs.length bs rfl (h1.own.alloc _) ⟨w1.heap.size,0,none⟩ 1 1 [.int .u8 c] rfl rfl (zt w1 _ _) hone (by unfold maxLen;omega) (by omega) (by simp;omega) ?_)
 intro vb' w2 hown' hgrow _
 have hb2:w2.heap[S]? =w1.heap[S]? :=(hgrow.block S (by simp;omega) (fun e=>h1.ne e.symm)).trans (Below.heap_alloc _ _ _ hlt1)
 have d2:=(World.cell?_of_block (a:=⟨S,1,none⟩) hb2).trans c2
 have f2:w2.frozen? ⟨S,1,none⟩=false:=zi (hb2.trans h1.blk)
 obtain ⟨ab,cb,rfl⟩:=zn hown'
 go_wp2
 go_ret
 refine ⟨rfl,_,h1.put2 hb2 (bs':=bs++ [.int .u8 c]) (by simpa using hown'),?_,((hk1.alloc _).grown hgrow (jV (h1.own.alloc _))).setCell ⟨S,1,none⟩ rfl _⟩
 exact ((hb1.alloc (by omega) _).grown hgrow (by simp;omega) (fun k hk=>by have:=(h1.own.lt k hk).1;omega)).setCell (p:=⟨S,1,none⟩) (Nat.le_refl _) _
theorem KQ {S:Nat} {t:List UInt8} {w:World} (h: ∃ad vb,xT S ad vb (Lib.byteCells t) w):
 Calls prog 67 #[.pointer (some ⟨S,0,none⟩)] w fun e w'=>e= .returned (.string ⟨t.toArray⟩)/\Below (S+1) w w':=by
 obtain ⟨ad,vb,h⟩:=h
 have hlt:=h.lt
 have hUN:=fun (W:World) (q:Option Addr)=>Lib.run_unsafeString_none (P:=prog) W 172 3 9 q
 have c2:w.drew.cell? ⟨S,1,none⟩=some vb:=za (w:=w.drew) h.blk rfl
 have hown:=h.own
 rw [Lib.byteCells_length] at hown
 rcases hown.2 with ⟨rfl,h0⟩ | ⟨g,cap,cur,rfl,hbg,hg,hnc,hcm,hcs,htake⟩
 ·obtain rfl:t= []:=List.eq_nil_of_length_eq_zero h0
  have hSD:(Builtin.unsafeSliceData_ #[72] 172 #[.slice none 0 0]).run prog w.drew= .ok (.pointer none) w.drew:=rfl
  go_enter func67,ntmps67
  go_wp2
  go_region
  all_goals (go_wp2;go_ret;exact ⟨rfl,Below.drew (Below.refl (S+1) w)⟩)
 ·by_cases ht0:t= []
  ·subst ht0
   by_cases hc0:cap=0
   ·subst hc0
    have hSD:(Builtin.unsafeSliceData_ #[72] 172 #[.slice (some ⟨g,0,none⟩) 0 0]).run prog w.drew= .ok (.pointer (some ⟨w.heap.size,0,none⟩)) (w.drew.alloc (.view ⟨g,0,none⟩ 5)):=
     Lib.run_unsafeSliceData_zero w.drew _ _ _ underlying172 _ _ (5,cur.size) (by have hg':w.drew.heap[g]? =some (.cells cur 5 (0,0)):=hg;simp [World.shape?,hg'])
    have c2w:w.cell? ⟨S,1,none⟩=some (.slice (some ⟨g,0,none⟩) 0 0):=c2
    have c2':(w.drew.alloc (.view ⟨g,0,none⟩ 5)).cell? ⟨S,1,none⟩=some (.slice (some ⟨g,0,none⟩) 0 0):=(World.cell?_of_block (Below.heap_alloc w.drew _ S hlt)).trans c2
    go_enter func67,ntmps67
    go_wp2
    go_region
    all_goals (go_wp2;go_ret;exact ⟨rfl,((Below.refl (S+1) w).drew).alloc (by show S+1<=w.heap.size;omega) _⟩)
   ·have hSD:(Builtin.unsafeSliceData_ #[72] 172 #[.slice (some ⟨g,0,none⟩) 0 cap]).run prog w.drew= .ok (.pointer (some ⟨g,0,none⟩)) w.drew:=Lib.run_unsafeSliceData_row _ _ _ _ _ _ (by omega)
    go_enter func67,ntmps67
    go_wp2
    go_region
    all_goals (go_wp2;go_ret;exact ⟨rfl,(Below.refl (S+1) w).drew⟩)
  ·have hl0:t.length≠0:=by simpa using ht0
   have hSD:(Builtin.unsafeSliceData_ #[72] 172 #[.slice (some ⟨g,0,none⟩) t.length cap]).run prog w.drew= .ok (.pointer (some ⟨g,0,none⟩)) w.drew:=
    Lib.run_unsafeSliceData_row _ _ _ _ _ _ (by omega)
   have hUS:(Builtin.unsafeString_ #[172,3] 9 #[.pointer (some ⟨g,0,none⟩),.int .i64 t.length]).run prog w.drew= .ok (.string ⟨t.toArray⟩) (w.drew.freeze ⟨g,0,none⟩ t.length):=by
    refine Lib.run_unsafeString_row w.drew 172 3 9 5 underlying172 (by kernel_rfl) g cur.size (by have hg':w.drew.heap[g]? =some (.cells cur 5 (0,0)):=hg;simp [World.shape?,hg']) t ht0 (by omega) (by unfold maxLen at hcm;omega) ?_
    intro j x hx
    have:=hown.cells (g:=g) rfl j (.int .u8 x.toNat) (by simp [Lib.byteCells,hx])
    exact this
   go_enter func67,ntmps67
   go_wp2
   go_region
   all_goals (go_wp2;go_ret;exact ⟨rfl,Lib.below_freeze (Below.drew (Below.refl (S+1) w)) (p:=⟨g,0,none⟩) (by show S+1<=g;omega) _⟩)
theorem Po {S:Nat} {ad vb:Value} {bs:List Value} {w:World} (h:xT S ad vb bs w):
 Calls prog 73 #[.pointer (some ⟨S,0,none⟩)] w fun e w'=>e= .returned (.int .i64 (bs.length:Int))/\w=w':=by
 have c2:w.cell? ⟨S,1,none⟩=some vb:=za h.blk rfl
 obtain ⟨ab0,cb0,rfl⟩:=zn h.own
 go_enter func73,ntmps73
 go_wp2
 go_ret
 exact ⟨rfl,rfl⟩
theorem xT.alloc {S:Nat} {ad vb:Value} {bs:List Value} {w:World} (h:xT S ad vb bs w) (o:Obj):xT S ad vb bs (w.alloc o):=
 ⟨(Below.heap_alloc w o S h.lt).trans h.blk,h.adr,h.own.alloc o⟩
theorem xT.below {S:Nat} {ad vb:Value} {bs:List Value} {w w':World} (h:xT S ad vb bs w) (hb:Below w.heap.size w w'):xT S ad vb bs w':=
 ⟨(hb.block S h.lt).trans h.blk,h.adr,zR h.own hb (fun k e=>(h.own.lt k e).2)⟩
theorem QN (l:List UInt8) (k:Nat) (h:k<256):Lib.byteCells (l++ [UInt8.ofNat k])=Lib.byteCells l++ [.int .u8 (k:Int)]:=by
 rw [Lib.byteCells_append]
 have:(UInt8.ofNat k).toNat=k:=by simp;omega
 simp [Lib.byteCells,this]
theorem Kd {S n:Nat} {ad vb:Value} {bs:List Value} {w:World} (h:xT S ad vb bs w):xT S ad vb bs (w.drewN n):=⟨h.blk,h.adr,h.own⟩
theorem YA {base g n cap:Nat} {init:List HV} {h:zx} {vl vl':Value} {s:zk} {w w2 w3:World} (hs:HSv base g n cap (init++ [(h,vl)]) w)
 (hown:w2.ownsRow base 93 2 vl' (h.lines.length+1) (zg h.lines++ [.int .u8 (s.kind:Nat),.string s.text]))
 (hold: ∀k,k<w.heap.size->some k≠vl.ownBlock->w2.heap[k]? =w.heap[k]?)
 (hnew:vl'.ownBlock=vl.ownBlock\/ ∀k,vl'.ownBlock=some k->w.heap.size<=k)
 (hg:w2.grownBy w3 (some g))
 (hw3: ∀cur,w2.heap[g]? =some (.cells cur 61 (0,0))->cur.toList.take (n*5)=hunkCells (init++ [(h,vl)])-> ∃cur',w3.heap[g]? =some (.cells cur' 61 (0,0))/\cur'.size=cur.size/\
  cur'.toList.take (n*5)=((((cur.toList.take (n*5)).set (init.length*5) (.int .i64 (h.fr:Nat))).set (init.length*5+1) (.int .i64 (h.fc:Nat))).set (init.length*5+2) (.int .i64 (h.tr:Nat)) |>.set (init.length*5+3) (.int .i64 (h.tc:Nat))).set (init.length*5+4) vl'):
 HSv base g n cap (init++ [({ h with lines:=h.lines++ [s] },vl')]) w3:=by
 have hn:=hs.len
 have hmem: ∀p∈init,w.ownsRow base 93 2 p.2 p.1.lines.length (zg p.1.lines):=fun p hp=>hs.lines p (by simp [hp])
 have hvl:=hs.lines (h,vl) (by simp)
 have hap: ∀p∈init,p.2.ownBlock=none\/p.2.ownBlock≠vl.ownBlock:=by
  have:=hs.apart
  rw [List.pairwise_append] at this
  exact fun p hp=>this.2.2 p hp (h,vl) (by simp)
 have hgl: ∀ {v:Value} {m:Nat} {xs:List Value} {w':World},w'.ownsRow base 93 2 v m xs->(∃cur,w'.heap[g]? =some (.cells cur 61 (0,0)))->v.ownBlock≠some g:=by
  intro v m xs w' ho ⟨cur,hc⟩
  exact zT ho hc (by decide)
 obtain ⟨cur,hcur⟩:=ze hs.row (g:=g) rfl
 have hgw:g<w.heap.size:=(Array.getElem?_eq_some_iff.1 hcur).1
 have hg2:w2.heap[g]? =w.heap[g]? :=hold g hgw (fun e=>hgl hvl ⟨cur,hcur⟩ e.symm)
 have hrow2:w2.ownsRow base 61 5 (.slice (some ⟨g,0,none⟩) n cap) n (hunkCells (init++ [(h,vl)])):=by
  obtain ⟨a,b⟩:=hs.row
  refine ⟨a,?_⟩
  rcases b with b | ⟨g',cap',cur',e,hb,hg',r⟩
  ·exact .inl b
  ·cases e
   exact .inr ⟨g,cap,cur',rfl,hb,hg2.trans hg',r⟩
 refine ⟨by simp at hn ⊢;exact hn,?_,?_,?_⟩
 ·have:=jd hrow2 hn (i:=init.length) (by simp) ({ h with lines:=h.lines++ [s] },vl') hw3
  simpa using this
 ·intro p hp
  rw [List.mem_append] at hp
  rcases hp with hp | hp
  ·have ho:=hmem p hp
   have ho2:w2.ownsRow base 93 2 p.2 p.1.lines.length (zg p.1.lines):=by
    obtain ⟨a,b⟩:=ho
    refine ⟨a,?_⟩
    rcases b with b | ⟨g',cap',cur',e,hb,hg',r⟩
    ·exact .inl b
    ·refine .inr ⟨g',cap',cur',e,hb,(hold g' (Array.getElem?_eq_some_iff.1 hg').1 ?_).trans hg',r⟩
     intro e2
     rcases hap p hp with h3 | h3
     ·rw [e] at h3;cases h3
     ·exact h3 (by rw [<-e2,e];rfl)
   exact ho2.kept hg (.inr (hgl ho2 ⟨cur,hg2.trans hcur⟩))
  ·simp at hp
   subst hp
   have:=hown.kept hg (.inr (hgl hown ⟨cur,hg2.trans hcur⟩))
   show World.ownsRow _ _ _ _ _ (h.lines++ [s]).length (zg (h.lines++ [s]))
   rw [zB,List.length_append]
   exact this
 ·rw [List.pairwise_append]
  have:=hs.apart
  rw [List.pairwise_append] at this
  refine ⟨this.1,by simp,fun p hp q hq=> ?_⟩
  simp at hq
  subst hq
  rcases hap p hp with h3 | h3
  ·exact .inl h3
  ·rcases hnew with h4 | h4
   ·right;show p.2.ownBlock≠vl'.ownBlock;rw [h4];exact h3
   ·cases hb:p.2.ownBlock with
    | none=>exact .inl rfl
    | some k=>
      right
      intro e
      have h5:=h4 k e.symm
      have h6:=((hmem p hp).lt k hb).2
      omega
theorem TE {w:World} {g o1:Nat} {v1:Value} {cur:Array Value} {t:TypeId} (h:w.heap[g]? =some (.cells cur t (0,0))) (n:Nat):
 ∃cur',(w.setCell ⟨g,o1,none⟩ v1).heap[g]? =some (.cells cur' t (0,0))/\cur'.size=cur.size/\cur'.toList.take n=(cur.toList.take n).set o1 v1:=
 ⟨_,zb _ _ _ _ _ _ _ h,by simp,by simp [List.take_set]⟩
theorem HSo.last {base:Nat} {v:Value} {hv:List HV} {w:World} (h:HSo base v hv w) {init:List zx} {x:zx} (e:hv.map (·.1)=init++ [x]):
 ∃g cap i0 vl,v= .slice (some ⟨g,0,none⟩) (i0.length+1) cap/\base<=g/\hv=i0++ [(x,vl)]/\i0.map (·.1)=init/\HSv base g (i0.length+1) cap (i0++ [(x,vl)]) w:=by
 rcases h with ⟨rfl,_⟩ | ⟨g,cap,rfl,hb,hs⟩
 ·simp at e
 ·obtain ⟨i0,l0,rfl,e1,e2⟩:=List.map_eq_append_iff.1 e
  obtain ⟨p,rfl,hp⟩: ∃p,l0= [p]/\p.1=x:=by
   cases l0 with
   | nil=>simp at e2
   | cons p l=>cases l with
     | nil=>exact ⟨p,rfl,by simpa using e2⟩
     | cons q l=>simp at e2
  obtain ⟨p1,p2⟩:=p
  simp only at hp
  subst hp
  have hl:(i0++ [(p1,p2)]).length=i0.length+1:=by simp
  rw [hl] at hs ⊢
  exact ⟨g,cap,i0,p2,rfl,hb,rfl,e1,hs⟩
theorem HSo.below {base:Nat} {v:Value} {hv:List HV} {w w':World} (h:HSo base v hv w) (hb:Below w.heap.size w w'):HSo base v hv w':=by
 rcases h with h | ⟨g,cap,e,hg,hs⟩
 ·exact .inl h
 ·exact .inr ⟨g,cap,e,hg,hs.len,zR hs.row hb (fun k e=>(hs.row.lt k e).2),fun p hp=>zR (hs.lines p hp) hb (fun k e=>((hs.lines p hp).lt k e).2),hs.apart⟩
theorem RdM.below {S:Nat} {st:Rd} {v:Value} {hv:List HV} {w w':World} (h:RdM S st v hv w) (hb:Below w.heap.size w w'):RdM S st v hv w':=⟨(hb.block S h.lt).trans h.blk,h.hso.below hb,h.hs⟩
abbrev kh (v:Value) (en:Nat) (gr:Int) (f t:Nat) (b:Bool):Obj:= .cells #[v,.int .i64 (en:Int),.int .i64 gr,.int .i64 (f:Int),.int .i64 (t:Int),.bool b] 88 (0,0)
abbrev jy (h:zx):Obj:= .cells #[.int .i64 (h.fr:Int),.int .i64 (h.fc:Int),.int .i64 (h.tr:Int),.int .i64 (h.tc:Int),.slice none 0 0] 61 (0,0)
abbrev qC (h:zx) (a:Option Addr) (c:Nat):Obj:= .cells #[.int .i64 (h.fr:Int),.int .i64 (h.fc:Int),.int .i64 (h.tr:Int),.int .i64 (h.tc:Int),.slice a h.lines.length c] 61 (0,0)
def inl (a b:ByteArray):List zk:=if checkI a b=0 then inlineM a b else []
theorem GC (a b:ByteArray) (w:World):
 Calls prog 83 #[.string a,.string b] w fun e w'=> ∃al cl,e= .returned (.tuple #[.slice al (inl a b).length cl,.int .i64 (checkI a b:Nat)])/\w'.ownsRow w.heap.size 101 2 (.slice al (inl a b).length cl) (inl a b).length (zg (inl a b))/\Below w.heap.size w w':=by
 unfold inl
 by_cases h:checkI a b=0
 ·rw [if_pos h,h]
  exact EB w h
 ·rw [if_neg h]
  refine (Ex w rfl h).mono ?_
  rintro e w' ⟨rfl,rfl⟩
  exact ⟨none,0,rfl,World.ownsRow_nil _ _ _ _,Below.refl _ _⟩
def nlB (s:ByteArray) (i:Nat):Bool:=(s.data.toList.take i).contains 10
theorem JU: ∀l:List UInt8,decide (0<=Lib.indexByte l 10)=l.contains 10
 | []=>by simp [Lib.indexByte]
 | b::l=>by
   have ih:=JU l
   have hg:=Lib.indexByte_ge l 10
   rw [Lib.indexByte]
   by_cases hb:b=10
   ·subst hb;simp
   ·have hb':(b==10)=false:=by simpa using hb
    rw [hb',List.contains_cons]
    have:((10:UInt8)==b)=false:=by simp;exact fun e=>hb e.symm
    rw [this,Bool.false_or,<-ih]
    by_cases hm:Lib.indexByte l 10= -1
    ·simp [hm]
    ·have h0:0<=Lib.indexByte l 10:=by omega
     simp [hm,h0]
     omega
theorem Vq (s:ByteArray):qA s=nlB s s.size:=by
 unfold qA nlB
 rw [JU,List.take_of_length_le (show s.data.toList.length<=s.size from Nat.le_refl _)]
theorem DL (s:ByteArray) (i:Nat) (h:i<s.size):nlB s (i+1)=(nlB s i || decide (s.data[i]'h=10)):=by
 unfold nlB
 have h':i<s.data.toList.length:=h
 rw [List.take_succ_eq_append_getElem h',List.contains_append]
 congr 1
 simp [Array.getElem_toList]
 exact ⟨fun e=>e.symm,fun e=>e.symm⟩
theorem Wp (s:ByteArray):s.toList.isEmpty=decide (s.size=0):=by
 obtain ⟨⟨l⟩⟩:=s
 cases l<;>simp [ByteArray.size]
theorem Qt (x:UInt8):(((x.toNat:Nat):Int)==10)=decide (x=10):=by
 by_cases h:x=10
 ·subst h;rfl
 ·have h1:x.toNat≠10:=by
   intro e
   apply h
   exact UInt8.toNat_inj.1 (by rw [e];rfl)
  simp [h]
  omega
theorem De (s:ByteArray) (i:Nat) (h:i<s.size):nlB s (i+1)=(nlB s i || (((s[i]'h).toNat:Nat):Int)==10):=by
 rw [DL s i h,Qt]
 rfl
theorem Fz (l:List UInt8) (t:ByteArray):(⟨l.toArray⟩:ByteArray)++t=⟨(l++t.data.toList).toArray⟩:=by
 apply ByteArray.ext
 simp [ByteArray.data_append]
theorem QA {base n c:Nat} {w:World} {a:Option Addr} {R:List zk} (h:w.ownsRow base 101 2 (.slice a n c) n (zg R)) {i:Nat} (hi:i<R.length):
 ∃g,a=some ⟨g,0,none⟩/\g<w.heap.size/\w.cell? ⟨g,i*2,none⟩=some (.int .u8 (R[i].kind:Nat))/\w.cell? ⟨g,i*2+1,none⟩=some (.string R[i].text):=by
 have hl:(zg R).length=n*2:=h.1
 rw [zG] at hl
 obtain ⟨g,cap,e,_,hg,_⟩:=zv h (by omega)
 cases e
 obtain ⟨s0,s1⟩:=yR R i hi
 exact ⟨g,rfl,hg,(h.cellAt (i*2) (by omega)).trans s0,(h.cellAt (i*2+1) (by omega)).trans s1⟩
end Go.Proofs.YtcclgodahlinbaaGreatDoor
