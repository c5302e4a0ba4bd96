/- Part 4: what the law's walk leans on. -/
import Derived.Shelf.Small.Wraps
import Derived.Shelf.Strconv.Itoa4
import Derived.Shelf.Strconv.ErrVarAll
import Derived.Shelf.Strconv.ParseIntPublic10
import Derived.Shelf.Strings.Shaped
import Derived.Shelf.Strconv.AppendInt10
import Derived.Shelf.Bits.Mul64
import Derived.Test.YtkhdocdddicgpaaGreatDoorProg
import Derived.Test.YtkhdocdddicgpaaGreatDoorYt3
namespace Go.Proofs
open Go.Shelf
def Tryz.lays103_ren:Go.Shelf.Ren:=⟨fun | 103=>94 | 210=>134 | 206=>138 | n=>n,fun | 9=>9 | 4=>4 | 24=>131 | 3=>3 | n=>n,fun | n=>n⟩
theorem Tryz.lays103:Go.Proofs.Lays.n103 Tryz.prog Tryz.lays103_ren:={
 mixed:=by kernel_rfl
 f103:=Tryz.func94.trans (congrArg some (by kernel_rfl))
 f206:=Tryz.func138.trans (congrArg some (by kernel_rfl))
 f210:=Tryz.func134.trans (congrArg some (by kernel_rfl))
 t3:=Tryz.underlying3
 a3:=Tryz.isAgg3
 z3:=Tryz.sizeOf3
 v3:=Tryz.zeroValue3
 t4:=Tryz.underlying4
 a4:=Tryz.isAgg4
 z4:=Tryz.sizeOf4
 v4:=Tryz.zeroValue4
 t9:=Tryz.underlying9
 a9:=Tryz.isAgg9
 z9:=Tryz.sizeOf9
 v9:=Tryz.zeroValue9
 t24:=Tryz.underlying131
 a24:=Tryz.isAgg131
 z24:=Tryz.sizeOf131
 v24:=Tryz.zeroValue131 }
open Go.RowKit in
theorem Tryz.strings_CutPrefix (s p:ByteArray) (w:World) :
 Calls Tryz.prog 94 #[.string s,.string p] w fun e w'=>e = .returned (.tuple #[.string ⟨(Lib.trimPrefix s.data.toList p.data.toList).toArray⟩,.bool (Lib.hasPrefix s.data.toList p.data.toList)])∧w'=w:=Any.strings_CutPrefix Tryz.lays103 s p w
def Tryz.laysM171_ren:Go.Shelf.Ren:=⟨fun | 171=>98 | 243=>136 | 246=>162 | 283=>192 | 284=>193 | 285=>194 | 286=>195 | 129=>184 | 317=>220 | 318=>221 | 319=>222 | 320=>223 | 337=>230 | 338=>231 | n=>n,fun | 3=>3 | 9=>9 | 2=>2 | 4=>4 | 171=>231 | 0=>0 | 53=>170 | 37=>128 | 5=>5 | 173=>233 | 212=>259 | 51=>199 | 20=>20 | 213=>260 | 46=>169 | 232=>275 | 233=>276 | n=>n,fun | 17=>3 | 18=>6 | 19=>7 | n=>n⟩
theorem Tryz.laysM171:Go.Proofs.LaysM.n171 Tryz.prog Tryz.laysM171_ren:={
 mixed:=by kernel_rfl
 f129:=Tryz.func184.trans (congrArg some (by kernel_rfl))
 f171:=Tryz.func98.trans (congrArg some (by kernel_rfl))
 f243:=Tryz.func136.trans (congrArg some (by kernel_rfl))
 f246:=Tryz.func162.trans (congrArg some (by kernel_rfl))
 f283:=Tryz.func192.trans (congrArg some (by kernel_rfl))
 f284:=Tryz.func193.trans (congrArg some (by kernel_rfl))
 f285:=Tryz.func194.trans (congrArg some (by kernel_rfl))
 f286:=Tryz.func195.trans (congrArg some (by kernel_rfl))
 f317:=Tryz.func220.trans (congrArg some (by kernel_rfl))
 f318:=Tryz.func221.trans (congrArg some (by kernel_rfl))
 f319:=Tryz.func222.trans (congrArg some (by kernel_rfl))
 f320:=Tryz.func223.trans (congrArg some (by kernel_rfl))
 f337:=Tryz.func230.trans (congrArg some (by kernel_rfl))
 f338:=Tryz.func231.trans (congrArg some (by kernel_rfl))
 t0:=Tryz.underlying0
 a0:=Tryz.isAgg0
 z0:=Tryz.sizeOf0
 v0:=Tryz.zeroValue0
 t2:=Tryz.underlying2
 a2:=Tryz.isAgg2
 z2:=Tryz.sizeOf2
 v2:=Tryz.zeroValue2
 t3:=Tryz.underlying3
 a3:=Tryz.isAgg3
 z3:=Tryz.sizeOf3
 v3:=Tryz.zeroValue3
 t4:=Tryz.underlying4
 a4:=Tryz.isAgg4
 z4:=Tryz.sizeOf4
 v4:=Tryz.zeroValue4
 t5:=Tryz.underlying5
 a5:=Tryz.isAgg5
 z5:=Tryz.sizeOf5
 v5:=Tryz.zeroValue5
 t9:=Tryz.underlying9
 a9:=Tryz.isAgg9
 z9:=Tryz.sizeOf9
 v9:=Tryz.zeroValue9
 t20:=Tryz.underlying20
 a20:=Tryz.isAgg20
 z20:=Tryz.sizeOf20
 v20:=Tryz.zeroValue20
 t37:=Tryz.underlying128
 a37:=Tryz.isAgg128
 z37:=Tryz.sizeOf128
 v37:=Tryz.zeroValue128
 t46:=Tryz.underlying169
 a46:=Tryz.isAgg169
 z46:=Tryz.sizeOf169
 v46:=Tryz.zeroValue169
 t51:=Tryz.underlying199
 a51:=Tryz.isAgg199
 z51:=Tryz.sizeOf199
 v51:=Tryz.zeroValue199
 t53:=Tryz.underlying170
 a53:=Tryz.isAgg170
 z53:=Tryz.sizeOf170
 v53:=Tryz.zeroValue170
 t171:=Tryz.underlying231
 a171:=Tryz.isAgg231
 z171:=Tryz.sizeOf231
 v171:=Tryz.zeroValue231
 t173:=Tryz.underlying233
 a173:=Tryz.isAgg233
 z173:=Tryz.sizeOf233
 v173:=Tryz.zeroValue233
 t212:=Tryz.underlying259
 a212:=Tryz.isAgg259
 z212:=Tryz.sizeOf259
 v212:=Tryz.zeroValue259
 t213:=Tryz.underlying260
 a213:=Tryz.isAgg260
 z213:=Tryz.sizeOf260
 t232:=Tryz.underlying275
 a232:=Tryz.isAgg275
 z232:=Tryz.sizeOf275
 v232:=Tryz.zeroValue275
 t233:=Tryz.underlying276
 a233:=Tryz.isAgg276
 z233:=Tryz.sizeOf276
 v233:=Tryz.zeroValue276
 g17:=by kernel_rfl
 g18:=by kernel_rfl
 g19:=by kernel_rfl
 i0:=by kernel_rfl
 i2:=by kernel_rfl
 i3:=by kernel_rfl
 i4:=by kernel_rfl
 i5:=by kernel_rfl
 i9:=by kernel_rfl
 i20:=by kernel_rfl
 i37:=by kernel_rfl
 i46:=by kernel_rfl
 i51:=by kernel_rfl
 i53:=by kernel_rfl
 i171:=by kernel_rfl
 i173:=by kernel_rfl
 i212:=by kernel_rfl
 i232:=by kernel_rfl
 i233:=by kernel_rfl
 m17:=by kernel_rfl
 m18:=by kernel_rfl
 m19:=by kernel_rfl }
open Go.RowKit Go.Sort Go.Lib in
theorem Tryz.strconv_Itoa (n : Int) (h0 : -9223372036854775808 ≤ n) (h1 : n ≤ 9223372036854775807) (w : World) (htab : Lib.TabIs Tryz.prog w "internal/strconv.uint64pow10" .u64 Lib.pow10Tab) :
 Calls Tryz.prog 98 #[.int .i64 n] w fun e w'=>e = .returned (.string ⟨(Lib.itoa n).toArray⟩)∧∃ k os,w'=grow (w.drewN k) os:=Any.strconv_Itoa Tryz.laysM171 n h0 h1 w htab
def Tryz.laysM173_ren:Go.Shelf.Ren:=⟨fun | 173=>202 | 246=>162 | 283=>192 | 284=>193 | 285=>194 | 286=>195 | 129=>184 | 317=>220 | 318=>221 | 319=>222 | 320=>223 | 337=>230 | 338=>231 | n=>n,fun | 2=>2 | 3=>3 | 9=>9 | 4=>4 | 171=>231 | 0=>0 | 53=>170 | 37=>128 | 5=>5 | 173=>233 | 212=>259 | 51=>199 | 20=>20 | 213=>260 | 46=>169 | 232=>275 | 233=>276 | n=>n,fun | 17=>3 | 18=>6 | 19=>7 | n=>n⟩
theorem Tryz.laysM173:Go.Proofs.LaysM.n173 Tryz.prog Tryz.laysM173_ren:={
 mixed:=by kernel_rfl
 f129:=Tryz.func184.trans (congrArg some (by kernel_rfl))
 f173:=Tryz.func202.trans (congrArg some (by kernel_rfl))
 f246:=Tryz.func162.trans (congrArg some (by kernel_rfl))
 f283:=Tryz.func192.trans (congrArg some (by kernel_rfl))
 f284:=Tryz.func193.trans (congrArg some (by kernel_rfl))
 f285:=Tryz.func194.trans (congrArg some (by kernel_rfl))
 f286:=Tryz.func195.trans (congrArg some (by kernel_rfl))
 f317:=Tryz.func220.trans (congrArg some (by kernel_rfl))
 f318:=Tryz.func221.trans (congrArg some (by kernel_rfl))
 f319:=Tryz.func222.trans (congrArg some (by kernel_rfl))
 f320:=Tryz.func223.trans (congrArg some (by kernel_rfl))
 f337:=Tryz.func230.trans (congrArg some (by kernel_rfl))
 f338:=Tryz.func231.trans (congrArg some (by kernel_rfl))
 t0:=Tryz.underlying0
 a0:=Tryz.isAgg0
 z0:=Tryz.sizeOf0
 v0:=Tryz.zeroValue0
 t2:=Tryz.underlying2
 a2:=Tryz.isAgg2
 z2:=Tryz.sizeOf2
 v2:=Tryz.zeroValue2
 t3:=Tryz.underlying3
 a3:=Tryz.isAgg3
 z3:=Tryz.sizeOf3
 v3:=Tryz.zeroValue3
 t4:=Tryz.underlying4
 a4:=Tryz.isAgg4
 z4:=Tryz.sizeOf4
 v4:=Tryz.zeroValue4
 t5:=Tryz.underlying5
 a5:=Tryz.isAgg5
 z5:=Tryz.sizeOf5
 v5:=Tryz.zeroValue5
 t9:=Tryz.underlying9
 a9:=Tryz.isAgg9
 z9:=Tryz.sizeOf9
 v9:=Tryz.zeroValue9
 t20:=Tryz.underlying20
 a20:=Tryz.isAgg20
 z20:=Tryz.sizeOf20
 v20:=Tryz.zeroValue20
 t37:=Tryz.underlying128
 a37:=Tryz.isAgg128
 z37:=Tryz.sizeOf128
 v37:=Tryz.zeroValue128
 t46:=Tryz.underlying169
 a46:=Tryz.isAgg169
 z46:=Tryz.sizeOf169
 v46:=Tryz.zeroValue169
 t51:=Tryz.underlying199
 a51:=Tryz.isAgg199
 z51:=Tryz.sizeOf199
 v51:=Tryz.zeroValue199
 t53:=Tryz.underlying170
 a53:=Tryz.isAgg170
 z53:=Tryz.sizeOf170
 v53:=Tryz.zeroValue170
 t171:=Tryz.underlying231
 a171:=Tryz.isAgg231
 z171:=Tryz.sizeOf231
 v171:=Tryz.zeroValue231
 t173:=Tryz.underlying233
 a173:=Tryz.isAgg233
 z173:=Tryz.sizeOf233
 v173:=Tryz.zeroValue233
 t212:=Tryz.underlying259
 a212:=Tryz.isAgg259
 z212:=Tryz.sizeOf259
 v212:=Tryz.zeroValue259
 t213:=Tryz.underlying260
 a213:=Tryz.isAgg260
 z213:=Tryz.sizeOf260
 t232:=Tryz.underlying275
 a232:=Tryz.isAgg275
 z232:=Tryz.sizeOf275
 v232:=Tryz.zeroValue275
 t233:=Tryz.underlying276
 a233:=Tryz.isAgg276
 z233:=Tryz.sizeOf276
 v233:=Tryz.zeroValue276
 g17:=by kernel_rfl
 g18:=by kernel_rfl
 g19:=by kernel_rfl
 i0:=by kernel_rfl
 i2:=by kernel_rfl
 i3:=by kernel_rfl
 i4:=by kernel_rfl
 i5:=by kernel_rfl
 i9:=by kernel_rfl
 i20:=by kernel_rfl
 i37:=by kernel_rfl
 i46:=by kernel_rfl
 i51:=by kernel_rfl
 i53:=by kernel_rfl
 i171:=by kernel_rfl
 i173:=by kernel_rfl
 i212:=by kernel_rfl
 i232:=by kernel_rfl
 i233:=by kernel_rfl
 m17:=by kernel_rfl
 m18:=by kernel_rfl
 m19:=by kernel_rfl }
open Go.RowKit Go.Sort Go.Lib in
theorem Tryz.strconv_FormatInt_10 (n : Int) (h0 : -9223372036854775808 ≤ n) (h1 : n ≤ 9223372036854775807) (w : World) (htab : Lib.TabIs Tryz.prog w "internal/strconv.uint64pow10" .u64 Lib.pow10Tab) :
 Calls Tryz.prog 202 #[.int .i64 n,.int .i64 10] w fun e w'=>e = .returned (.string ⟨(Lib.itoa n).toArray⟩)∧∃ k os,w'=grow (w.drewN k) os:=Any.strconv_FormatInt_10 Tryz.laysM173 n h0 h1 w htab
def Tryz.laysC172_ren:Go.Shelf.Ren:=⟨fun | 172=>105 | 244=>139 | 245=>140 | 247=>166 | 279=>167 | 280=>168 | 281=>169 | 282=>170 | 287=>197 | 316=>198 | 171=>98 | 205=>199 | 321=>224 | 322=>225 | 243=>136 | 246=>162 | 283=>192 | 284=>193 | 285=>194 | 286=>195 | 129=>184 | 317=>220 | 318=>221 | 319=>222 | 320=>223 | 337=>230 | 338=>231 | n=>n,fun | 9=>9 | 3=>3 | 75=>134 | 76=>135 | 4=>4 | 5=>5 | 167=>206 | 37=>128 | 0=>0 | 85=>189 | 2=>2 | 168=>207 | 53=>170 | 175=>235 | 46=>169 | 210=>238 | 127=>179 | 145=>268 | 143=>266 | 21=>21 | 171=>231 | 173=>233 | 212=>259 | 51=>199 | 20=>20 | 213=>260 | 232=>275 | 233=>276 | 80=>140 | n=>n,fun | 15=>0 | 16=>1 | 17=>3 | 18=>6 | 19=>7 | n=>n⟩
theorem Tryz.laysC172:Go.Proofs.LaysC.n172 Tryz.prog Tryz.laysC172_ren:={
 mixed:=by kernel_rfl
 f129:=Tryz.func184.trans (congrArg some (by kernel_rfl))
 f171:=Tryz.func98.trans (congrArg some (by kernel_rfl))
 f172:=Tryz.func105.trans (congrArg some (by kernel_rfl))
 f205:=Tryz.func199.trans (congrArg some (by kernel_rfl))
 f243:=Tryz.func136.trans (congrArg some (by kernel_rfl))
 f244:=Tryz.func139.trans (congrArg some (by kernel_rfl))
 f245:=Tryz.func140.trans (congrArg some (by kernel_rfl))
 f246:=Tryz.func162.trans (congrArg some (by kernel_rfl))
 f247:=Tryz.func166.trans (congrArg some (by kernel_rfl))
 f279:=Tryz.func167.trans (congrArg some (by kernel_rfl))
 f280:=Tryz.func168.trans (congrArg some (by kernel_rfl))
 f281:=Tryz.func169.trans (congrArg some (by kernel_rfl))
 f282:=Tryz.func170.trans (congrArg some (by kernel_rfl))
 f283:=Tryz.func192.trans (congrArg some (by kernel_rfl))
 f284:=Tryz.func193.trans (congrArg some (by kernel_rfl))
 f285:=Tryz.func194.trans (congrArg some (by kernel_rfl))
 f286:=Tryz.func195.trans (congrArg some (by kernel_rfl))
 f287:=Tryz.func197.trans (congrArg some (by kernel_rfl))
 f316:=Tryz.func198.trans (congrArg some (by kernel_rfl))
 f317:=Tryz.func220.trans (congrArg some (by kernel_rfl))
 f318:=Tryz.func221.trans (congrArg some (by kernel_rfl))
 f319:=Tryz.func222.trans (congrArg some (by kernel_rfl))
 f320:=Tryz.func223.trans (congrArg some (by kernel_rfl))
 f321:=Tryz.func224.trans (congrArg some (by kernel_rfl))
 f322:=Tryz.func225.trans (congrArg some (by kernel_rfl))
 f337:=Tryz.func230.trans (congrArg some (by kernel_rfl))
 f338:=Tryz.func231.trans (congrArg some (by kernel_rfl))
 t0:=Tryz.underlying0
 a0:=Tryz.isAgg0
 z0:=Tryz.sizeOf0
 v0:=Tryz.zeroValue0
 t2:=Tryz.underlying2
 a2:=Tryz.isAgg2
 z2:=Tryz.sizeOf2
 v2:=Tryz.zeroValue2
 t3:=Tryz.underlying3
 a3:=Tryz.isAgg3
 z3:=Tryz.sizeOf3
 v3:=Tryz.zeroValue3
 t4:=Tryz.underlying4
 a4:=Tryz.isAgg4
 z4:=Tryz.sizeOf4
 v4:=Tryz.zeroValue4
 t5:=Tryz.underlying5
 a5:=Tryz.isAgg5
 z5:=Tryz.sizeOf5
 v5:=Tryz.zeroValue5
 t9:=Tryz.underlying9
 a9:=Tryz.isAgg9
 z9:=Tryz.sizeOf9
 v9:=Tryz.zeroValue9
 t20:=Tryz.underlying20
 a20:=Tryz.isAgg20
 z20:=Tryz.sizeOf20
 v20:=Tryz.zeroValue20
 t21:=Tryz.underlying21
 a21:=Tryz.isAgg21
 z21:=Tryz.sizeOf21
 v21:=Tryz.zeroValue21
 t37:=Tryz.underlying128
 a37:=Tryz.isAgg128
 z37:=Tryz.sizeOf128
 v37:=Tryz.zeroValue128
 t46:=Tryz.underlying169
 a46:=Tryz.isAgg169
 z46:=Tryz.sizeOf169
 v46:=Tryz.zeroValue169
 t51:=Tryz.underlying199
 a51:=Tryz.isAgg199
 z51:=Tryz.sizeOf199
 v51:=Tryz.zeroValue199
 t53:=Tryz.underlying170
 a53:=Tryz.isAgg170
 z53:=Tryz.sizeOf170
 v53:=Tryz.zeroValue170
 t75:=Tryz.underlying134
 a75:=Tryz.isAgg134
 z75:=Tryz.sizeOf134
 v75:=Tryz.zeroValue134
 t76:=Tryz.underlying135
 a76:=Tryz.isAgg135
 z76:=Tryz.sizeOf135
 v76:=Tryz.zeroValue135
 t85:=Tryz.underlying189
 a85:=Tryz.isAgg189
 z85:=Tryz.sizeOf189
 v85:=Tryz.zeroValue189
 t127:=Tryz.underlying179
 a127:=Tryz.isAgg179
 z127:=Tryz.sizeOf179
 v127:=Tryz.zeroValue179
 t143:=Tryz.underlying266
 a143:=Tryz.isAgg266
 z143:=Tryz.sizeOf266
 v143:=Tryz.zeroValue266
 t145:=Tryz.underlying268
 a145:=Tryz.isAgg268
 z145:=Tryz.sizeOf268
 v145:=Tryz.zeroValue268
 t167:=Tryz.underlying206
 a167:=Tryz.isAgg206
 z167:=Tryz.sizeOf206
 v167:=Tryz.zeroValue206
 t168:=Tryz.underlying207
 a168:=Tryz.isAgg207
 z168:=Tryz.sizeOf207
 v168:=Tryz.zeroValue207
 t171:=Tryz.underlying231
 a171:=Tryz.isAgg231
 z171:=Tryz.sizeOf231
 v171:=Tryz.zeroValue231
 t173:=Tryz.underlying233
 a173:=Tryz.isAgg233
 z173:=Tryz.sizeOf233
 v173:=Tryz.zeroValue233
 t175:=Tryz.underlying235
 a175:=Tryz.isAgg235
 z175:=Tryz.sizeOf235
 v175:=Tryz.zeroValue235
 t210:=Tryz.underlying238
 a210:=Tryz.isAgg238
 z210:=Tryz.sizeOf238
 v210:=Tryz.zeroValue238
 t212:=Tryz.underlying259
 a212:=Tryz.isAgg259
 z212:=Tryz.sizeOf259
 v212:=Tryz.zeroValue259
 t213:=Tryz.underlying260
 a213:=Tryz.isAgg260
 z213:=Tryz.sizeOf260
 t232:=Tryz.underlying275
 a232:=Tryz.isAgg275
 z232:=Tryz.sizeOf275
 v232:=Tryz.zeroValue275
 t233:=Tryz.underlying276
 a233:=Tryz.isAgg276
 z233:=Tryz.sizeOf276
 v233:=Tryz.zeroValue276
 g15:=by kernel_rfl
 g16:=by kernel_rfl
 g17:=by kernel_rfl
 g18:=by kernel_rfl
 g19:=by kernel_rfl
 t80:=Tryz.underlying140
 a80:=Tryz.isAgg140
 z80:=Tryz.sizeOf140
 v80:=Tryz.zeroValue140
 i0:=by kernel_rfl
 i2:=by kernel_rfl
 i3:=by kernel_rfl
 i4:=by kernel_rfl
 i5:=by kernel_rfl
 i9:=by kernel_rfl
 i20:=by kernel_rfl
 i21:=by kernel_rfl
 i37:=by kernel_rfl
 i46:=by kernel_rfl
 i51:=by kernel_rfl
 i53:=by kernel_rfl
 i75:=by kernel_rfl
 i76:=by kernel_rfl
 i80:=by kernel_rfl
 i85:=by kernel_rfl
 i127:=by kernel_rfl
 i143:=by kernel_rfl
 i145:=by kernel_rfl
 i167:=by kernel_rfl
 i168:=by kernel_rfl
 i171:=by kernel_rfl
 i173:=by kernel_rfl
 i175:=by kernel_rfl
 i210:=by kernel_rfl
 i212:=by kernel_rfl
 i232:=by kernel_rfl
 i233:=by kernel_rfl
 m15:=by kernel_rfl
 m16:=by kernel_rfl
 m17:=by kernel_rfl
 m18:=by kernel_rfl
 m19:=by kernel_rfl
 c0:=by kernel_rfl
 c2:=by kernel_rfl
 c3:=by kernel_rfl
 c4:=by kernel_rfl
 c5:=by kernel_rfl
 c9:=by kernel_rfl
 c20:=by kernel_rfl
 c21:=by kernel_rfl
 c37:=by kernel_rfl
 c46:=by kernel_rfl
 c51:=by kernel_rfl
 c53:=by kernel_rfl
 c75:=by kernel_rfl
 c76:=by kernel_rfl
 c80:=by kernel_rfl
 c85:=by kernel_rfl
 c127:=by kernel_rfl
 c143:=by kernel_rfl
 c145:=by kernel_rfl
 c167:=by kernel_rfl
 c168:=by kernel_rfl
 c171:=by kernel_rfl
 c173:=by kernel_rfl
 c175:=by kernel_rfl
 c210:=by kernel_rfl
 c212:=by kernel_rfl
 c213:=by kernel_rfl
 c232:=by kernel_rfl
 c233:=by kernel_rfl }
open Go.RowKit in
theorem Tryz.strconv_Atoi_ok (s:ByteArray) (hmax:s.size≤9223372036854775806) (v:Int) (h:Lib.atoiAll s.data.toList = .ok v) (w:World) :
 Calls Tryz.prog 105 #[.string s] w fun e w'=>e = .returned (.tuple #[.int .i64 v,.nilIface])∧(w'=w∨∃ t,w'=Lib.bytesWorld w 5 t):=Any.strconv_Atoi_ok Tryz.laysC172 s hmax v h w
open Go.RowKit in
theorem Tryz.strconv_Atoi_syntax (s:ByteArray) (hlim:s.size≤281474976710656) (h:Lib.atoiAll s.data.toList=Lib.atoiAll []) (ev:Value) (w:World) (hv:w.cell? ⟨0,0,none⟩=some ev) (hev:ev = .nilIface∨∃ te pe,ev = .iface te pe) :
 Calls Tryz.prog 105 #[.string s] w fun e w'=>∃ N,e = .returned (.tuple #[.int .i64 (0),.iface 207 (.pointer (some ⟨N,0,none⟩))])∧w.heap.size≤N∧w'.heap[N]?=some (.cells #[.string ⟨#[65,116,111,105]⟩,.string s,ev] 238 (0,0))∧Below w.heap.size w w':=Any.strconv_Atoi_syntax Tryz.laysC172 s hlim h ev w hv hev
open Go.RowKit in
theorem Tryz.strconv_Atoi_range (s:ByteArray) (hlim:s.size≤281474976710656) (h:Lib.atoiAll s.data.toList = .range) (ev:Value) (w:World) (hv:w.cell? ⟨1,0,none⟩=some ev) (hev:ev = .nilIface∨∃ te pe,ev = .iface te pe) :
 Calls Tryz.prog 105 #[.string s] w fun e w'=>∃ N,e = .returned (.tuple #[.int .i64 (Lib.atoiSat s.data.toList),.iface 207 (.pointer (some ⟨N,0,none⟩))])∧w.heap.size≤N∧w'.heap[N]?=some (.cells #[.string ⟨#[65,116,111,105]⟩,.string s,ev] 238 (0,0))∧Below w.heap.size w w':=Any.strconv_Atoi_range Tryz.laysC172 s hlim h ev w hv hev
def Tryz.laysC174_ren:Go.Shelf.Ren:=⟨fun | 174=>152 | 247=>166 | 245=>140 | 287=>197 | 279=>167 | 280=>168 | 281=>169 | 282=>170 | 321=>224 | 322=>225 | 316=>198 | 171=>98 | 205=>199 | 243=>136 | 246=>162 | 283=>192 | 284=>193 | 285=>194 | 286=>195 | 129=>184 | 317=>220 | 318=>221 | 319=>222 | 320=>223 | 337=>230 | 338=>231 | n=>n,fun | 9=>9 | 3=>3 | 2=>2 | 75=>134 | 85=>189 | 4=>4 | 167=>206 | 5=>5 | 53=>170 | 175=>235 | 46=>169 | 168=>207 | 37=>128 | 0=>0 | 210=>238 | 21=>21 | 127=>179 | 145=>268 | 143=>266 | 171=>231 | 173=>233 | 212=>259 | 51=>199 | 20=>20 | 213=>260 | 232=>275 | 233=>276 | 80=>140 | n=>n,fun | 15=>0 | 16=>1 | 17=>3 | 18=>6 | 19=>7 | n=>n⟩
theorem Tryz.laysC174:Go.Proofs.LaysC.n174 Tryz.prog Tryz.laysC174_ren:={
 mixed:=by kernel_rfl
 f129:=Tryz.func184.trans (congrArg some (by kernel_rfl))
 f171:=Tryz.func98.trans (congrArg some (by kernel_rfl))
 f174:=Tryz.func152.trans (congrArg some (by kernel_rfl))
 f205:=Tryz.func199.trans (congrArg some (by kernel_rfl))
 f243:=Tryz.func136.trans (congrArg some (by kernel_rfl))
 f245:=Tryz.func140.trans (congrArg some (by kernel_rfl))
 f246:=Tryz.func162.trans (congrArg some (by kernel_rfl))
 f247:=Tryz.func166.trans (congrArg some (by kernel_rfl))
 f279:=Tryz.func167.trans (congrArg some (by kernel_rfl))
 f280:=Tryz.func168.trans (congrArg some (by kernel_rfl))
 f281:=Tryz.func169.trans (congrArg some (by kernel_rfl))
 f282:=Tryz.func170.trans (congrArg some (by kernel_rfl))
 f283:=Tryz.func192.trans (congrArg some (by kernel_rfl))
 f284:=Tryz.func193.trans (congrArg some (by kernel_rfl))
 f285:=Tryz.func194.trans (congrArg some (by kernel_rfl))
 f286:=Tryz.func195.trans (congrArg some (by kernel_rfl))
 f287:=Tryz.func197.trans (congrArg some (by kernel_rfl))
 f316:=Tryz.func198.trans (congrArg some (by kernel_rfl))
 f317:=Tryz.func220.trans (congrArg some (by kernel_rfl))
 f318:=Tryz.func221.trans (congrArg some (by kernel_rfl))
 f319:=Tryz.func222.trans (congrArg some (by kernel_rfl))
 f320:=Tryz.func223.trans (congrArg some (by kernel_rfl))
 f321:=Tryz.func224.trans (congrArg some (by kernel_rfl))
 f322:=Tryz.func225.trans (congrArg some (by kernel_rfl))
 f337:=Tryz.func230.trans (congrArg some (by kernel_rfl))
 f338:=Tryz.func231.trans (congrArg some (by kernel_rfl))
 t0:=Tryz.underlying0
 a0:=Tryz.isAgg0
 z0:=Tryz.sizeOf0
 v0:=Tryz.zeroValue0
 t2:=Tryz.underlying2
 a2:=Tryz.isAgg2
 z2:=Tryz.sizeOf2
 v2:=Tryz.zeroValue2
 t3:=Tryz.underlying3
 a3:=Tryz.isAgg3
 z3:=Tryz.sizeOf3
 v3:=Tryz.zeroValue3
 t4:=Tryz.underlying4
 a4:=Tryz.isAgg4
 z4:=Tryz.sizeOf4
 v4:=Tryz.zeroValue4
 t5:=Tryz.underlying5
 a5:=Tryz.isAgg5
 z5:=Tryz.sizeOf5
 v5:=Tryz.zeroValue5
 t9:=Tryz.underlying9
 a9:=Tryz.isAgg9
 z9:=Tryz.sizeOf9
 v9:=Tryz.zeroValue9
 t20:=Tryz.underlying20
 a20:=Tryz.isAgg20
 z20:=Tryz.sizeOf20
 v20:=Tryz.zeroValue20
 t21:=Tryz.underlying21
 a21:=Tryz.isAgg21
 z21:=Tryz.sizeOf21
 v21:=Tryz.zeroValue21
 t37:=Tryz.underlying128
 a37:=Tryz.isAgg128
 z37:=Tryz.sizeOf128
 v37:=Tryz.zeroValue128
 t46:=Tryz.underlying169
 a46:=Tryz.isAgg169
 z46:=Tryz.sizeOf169
 v46:=Tryz.zeroValue169
 t51:=Tryz.underlying199
 a51:=Tryz.isAgg199
 z51:=Tryz.sizeOf199
 v51:=Tryz.zeroValue199
 t53:=Tryz.underlying170
 a53:=Tryz.isAgg170
 z53:=Tryz.sizeOf170
 v53:=Tryz.zeroValue170
 t75:=Tryz.underlying134
 a75:=Tryz.isAgg134
 z75:=Tryz.sizeOf134
 v75:=Tryz.zeroValue134
 t85:=Tryz.underlying189
 a85:=Tryz.isAgg189
 z85:=Tryz.sizeOf189
 v85:=Tryz.zeroValue189
 t127:=Tryz.underlying179
 a127:=Tryz.isAgg179
 z127:=Tryz.sizeOf179
 v127:=Tryz.zeroValue179
 t143:=Tryz.underlying266
 a143:=Tryz.isAgg266
 z143:=Tryz.sizeOf266
 v143:=Tryz.zeroValue266
 t145:=Tryz.underlying268
 a145:=Tryz.isAgg268
 z145:=Tryz.sizeOf268
 v145:=Tryz.zeroValue268
 t167:=Tryz.underlying206
 a167:=Tryz.isAgg206
 z167:=Tryz.sizeOf206
 v167:=Tryz.zeroValue206
 t168:=Tryz.underlying207
 a168:=Tryz.isAgg207
 z168:=Tryz.sizeOf207
 v168:=Tryz.zeroValue207
 t171:=Tryz.underlying231
 a171:=Tryz.isAgg231
 z171:=Tryz.sizeOf231
 v171:=Tryz.zeroValue231
 t173:=Tryz.underlying233
 a173:=Tryz.isAgg233
 z173:=Tryz.sizeOf233
 v173:=Tryz.zeroValue233
 t175:=Tryz.underlying235
 a175:=Tryz.isAgg235
 z175:=Tryz.sizeOf235
 v175:=Tryz.zeroValue235
 t210:=Tryz.underlying238
 a210:=Tryz.isAgg238
 z210:=Tryz.sizeOf238
 v210:=Tryz.zeroValue238
 t212:=Tryz.underlying259
 a212:=Tryz.isAgg259
 z212:=Tryz.sizeOf259
 v212:=Tryz.zeroValue259
 t213:=Tryz.underlying260
 a213:=Tryz.isAgg260
 z213:=Tryz.sizeOf260
 t232:=Tryz.underlying275
 a232:=Tryz.isAgg275
 z232:=Tryz.sizeOf275
 v232:=Tryz.zeroValue275
 t233:=Tryz.underlying276
 a233:=Tryz.isAgg276
 z233:=Tryz.sizeOf276
 v233:=Tryz.zeroValue276
 g15:=by kernel_rfl
 g16:=by kernel_rfl
 g17:=by kernel_rfl
 g18:=by kernel_rfl
 g19:=by kernel_rfl
 t80:=Tryz.underlying140
 a80:=Tryz.isAgg140
 z80:=Tryz.sizeOf140
 v80:=Tryz.zeroValue140
 i0:=by kernel_rfl
 i2:=by kernel_rfl
 i3:=by kernel_rfl
 i4:=by kernel_rfl
 i5:=by kernel_rfl
 i9:=by kernel_rfl
 i20:=by kernel_rfl
 i21:=by kernel_rfl
 i37:=by kernel_rfl
 i46:=by kernel_rfl
 i51:=by kernel_rfl
 i53:=by kernel_rfl
 i75:=by kernel_rfl
 i80:=by kernel_rfl
 i85:=by kernel_rfl
 i127:=by kernel_rfl
 i143:=by kernel_rfl
 i145:=by kernel_rfl
 i167:=by kernel_rfl
 i168:=by kernel_rfl
 i171:=by kernel_rfl
 i173:=by kernel_rfl
 i175:=by kernel_rfl
 i210:=by kernel_rfl
 i212:=by kernel_rfl
 i232:=by kernel_rfl
 i233:=by kernel_rfl
 m15:=by kernel_rfl
 m16:=by kernel_rfl
 m17:=by kernel_rfl
 m18:=by kernel_rfl
 m19:=by kernel_rfl
 c0:=by kernel_rfl
 c2:=by kernel_rfl
 c3:=by kernel_rfl
 c4:=by kernel_rfl
 c5:=by kernel_rfl
 c9:=by kernel_rfl
 c20:=by kernel_rfl
 c21:=by kernel_rfl
 c37:=by kernel_rfl
 c46:=by kernel_rfl
 c51:=by kernel_rfl
 c53:=by kernel_rfl
 c75:=by kernel_rfl
 c80:=by kernel_rfl
 c85:=by kernel_rfl
 c127:=by kernel_rfl
 c143:=by kernel_rfl
 c145:=by kernel_rfl
 c167:=by kernel_rfl
 c168:=by kernel_rfl
 c171:=by kernel_rfl
 c173:=by kernel_rfl
 c175:=by kernel_rfl
 c210:=by kernel_rfl
 c212:=by kernel_rfl
 c213:=by kernel_rfl
 c232:=by kernel_rfl
 c233:=by kernel_rfl }
open Go.RowKit in
theorem Tryz.strconv_ParseInt_10_at64_ok (s:ByteArray) (hmax:s.size≤9223372036854775806) (v:Int) (h:Lib.parseIntB 64 s.data.toList = .ok v) (w:World) :
 Calls Tryz.prog 152 #[.string s,.int .i64 10,.int .i64 64] w fun e w'=>e = .returned (.tuple #[.int .i64 v,.nilIface])∧(w'=w∨∃ t,w'=Lib.bytesWorld w 5 t):=Any.strconv_ParseInt_10_at64_ok Tryz.laysC174 s hmax v h w
def Tryz.lays217_ren:Go.Shelf.Ren:=⟨fun | 217=>210 | 266=>228 | n=>n,fun | 9=>9 | 5=>5 | 3=>3 | n=>n,fun | n=>n⟩
theorem Tryz.lays217:Go.Proofs.Lays.n217 Tryz.prog Tryz.lays217_ren:={
 mixed:=by kernel_rfl
 f217:=Tryz.func210.trans (congrArg some (by kernel_rfl))
 f266:=Tryz.func228.trans (congrArg some (by kernel_rfl))
 t3:=Tryz.underlying3
 a3:=Tryz.isAgg3
 z3:=Tryz.sizeOf3
 v3:=Tryz.zeroValue3
 t5:=Tryz.underlying5
 a5:=Tryz.isAgg5
 z5:=Tryz.sizeOf5
 v5:=Tryz.zeroValue5
 t9:=Tryz.underlying9
 a9:=Tryz.isAgg9
 z9:=Tryz.sizeOf9
 v9:=Tryz.zeroValue9 }
open Go.RowKit Go.Lib in
theorem Tryz.stringslite_IndexByte (s:ByteArray) (c:Int) (w:World) :
 Calls Tryz.prog 210 #[.string s,.int .u8 c] w fun e w'=>e = .returned (.int .i64 (Lib.indexByte s.data.toList c.toNat.toUInt8))∧w'=w:=Any.stringslite_IndexByte Tryz.lays217 s c w
def Tryz.laysM288_ren:Go.Shelf.Ren:=⟨fun | 288=>232 | 283=>192 | 284=>193 | 285=>194 | 286=>195 | 129=>184 | 317=>220 | 318=>221 | 319=>222 | 320=>223 | 337=>230 | 338=>231 | n=>n,fun | 37=>128 | 53=>170 | 3=>3 | 4=>4 | 9=>9 | 171=>231 | 0=>0 | 173=>233 | 212=>259 | 51=>199 | 5=>5 | 20=>20 | 213=>260 | 46=>169 | 232=>275 | 233=>276 | n=>n,fun | 17=>3 | 18=>6 | 19=>7 | n=>n⟩
theorem Tryz.laysM288:Go.Proofs.LaysM.n288 Tryz.prog Tryz.laysM288_ren:={
 mixed:=by kernel_rfl
 f129:=Tryz.func184.trans (congrArg some (by kernel_rfl))
 f283:=Tryz.func192.trans (congrArg some (by kernel_rfl))
 f284:=Tryz.func193.trans (congrArg some (by kernel_rfl))
 f285:=Tryz.func194.trans (congrArg some (by kernel_rfl))
 f286:=Tryz.func195.trans (congrArg some (by kernel_rfl))
 f288:=Tryz.func232.trans (congrArg some (by kernel_rfl))
 f317:=Tryz.func220.trans (congrArg some (by kernel_rfl))
 f318:=Tryz.func221.trans (congrArg some (by kernel_rfl))
 f319:=Tryz.func222.trans (congrArg some (by kernel_rfl))
 f320:=Tryz.func223.trans (congrArg some (by kernel_rfl))
 f337:=Tryz.func230.trans (congrArg some (by kernel_rfl))
 f338:=Tryz.func231.trans (congrArg some (by kernel_rfl))
 t0:=Tryz.underlying0
 a0:=Tryz.isAgg0
 z0:=Tryz.sizeOf0
 v0:=Tryz.zeroValue0
 t3:=Tryz.underlying3
 a3:=Tryz.isAgg3
 z3:=Tryz.sizeOf3
 v3:=Tryz.zeroValue3
 t4:=Tryz.underlying4
 a4:=Tryz.isAgg4
 z4:=Tryz.sizeOf4
 v4:=Tryz.zeroValue4
 t5:=Tryz.underlying5
 a5:=Tryz.isAgg5
 z5:=Tryz.sizeOf5
 v5:=Tryz.zeroValue5
 t9:=Tryz.underlying9
 a9:=Tryz.isAgg9
 z9:=Tryz.sizeOf9
 v9:=Tryz.zeroValue9
 t20:=Tryz.underlying20
 a20:=Tryz.isAgg20
 z20:=Tryz.sizeOf20
 v20:=Tryz.zeroValue20
 t37:=Tryz.underlying128
 a37:=Tryz.isAgg128
 z37:=Tryz.sizeOf128
 v37:=Tryz.zeroValue128
 t46:=Tryz.underlying169
 a46:=Tryz.isAgg169
 z46:=Tryz.sizeOf169
 v46:=Tryz.zeroValue169
 t51:=Tryz.underlying199
 a51:=Tryz.isAgg199
 z51:=Tryz.sizeOf199
 v51:=Tryz.zeroValue199
 t53:=Tryz.underlying170
 a53:=Tryz.isAgg170
 z53:=Tryz.sizeOf170
 v53:=Tryz.zeroValue170
 t171:=Tryz.underlying231
 a171:=Tryz.isAgg231
 z171:=Tryz.sizeOf231
 v171:=Tryz.zeroValue231
 t173:=Tryz.underlying233
 a173:=Tryz.isAgg233
 z173:=Tryz.sizeOf233
 v173:=Tryz.zeroValue233
 t212:=Tryz.underlying259
 a212:=Tryz.isAgg259
 z212:=Tryz.sizeOf259
 v212:=Tryz.zeroValue259
 t213:=Tryz.underlying260
 a213:=Tryz.isAgg260
 z213:=Tryz.sizeOf260
 t232:=Tryz.underlying275
 a232:=Tryz.isAgg275
 z232:=Tryz.sizeOf275
 v232:=Tryz.zeroValue275
 t233:=Tryz.underlying276
 a233:=Tryz.isAgg276
 z233:=Tryz.sizeOf276
 v233:=Tryz.zeroValue276
 g17:=by kernel_rfl
 g18:=by kernel_rfl
 g19:=by kernel_rfl
 i0:=by kernel_rfl
 i3:=by kernel_rfl
 i4:=by kernel_rfl
 i5:=by kernel_rfl
 i9:=by kernel_rfl
 i20:=by kernel_rfl
 i37:=by kernel_rfl
 i46:=by kernel_rfl
 i51:=by kernel_rfl
 i53:=by kernel_rfl
 i171:=by kernel_rfl
 i173:=by kernel_rfl
 i212:=by kernel_rfl
 i232:=by kernel_rfl
 i233:=by kernel_rfl
 m17:=by kernel_rfl
 m18:=by kernel_rfl
 m19:=by kernel_rfl }
open Go.RowKit Go.Sort Go.Lib in
theorem Tryz.internal_strconv_AppendUint_10 (B n u : Nat) (hu64 : u < 18446744073709551616) (sv : Value) (xs : List Value) (w : World) (hown : w.ownsRow B 5 1 sv n xs) (hBw : B ≤ w.heap.size) (hlim : n + 20 ≤ 140737488355328) (htab : Lib.TabIs Tryz.prog w "internal/strconv.uint64pow10" .u64 Lib.pow10Tab) :
 Calls Tryz.prog 232 #[sv,.int .u64 u,.int .i64 10] w fun e w'=>∃ v',e = .returned v'∧w'.ownsRow B 5 1 v' (n+(Lib.decDigits u).length) (xs++Lib.byteCells (Lib.decDigits u))∧Below B w w'∧Lib.OthersKept 5 none w w':=Any.internal_strconv_AppendUint_10 Tryz.laysM288 B n u hu64 sv xs w hown hBw hlim htab
def Tryz.lays101_ren:Go.Shelf.Ren:=⟨fun | 101=>151 | 208=>186 | 206=>138 | n=>n,fun | 9=>9 | 4=>4 | 3=>3 | n=>n,fun | n=>n⟩
theorem Tryz.lays101:Go.Proofs.Lays.n101 Tryz.prog Tryz.lays101_ren:={
 mixed:=by kernel_rfl
 f101:=Tryz.func151.trans (congrArg some (by kernel_rfl))
 f206:=Tryz.func138.trans (congrArg some (by kernel_rfl))
 f208:=Tryz.func186.trans (congrArg some (by kernel_rfl))
 t3:=Tryz.underlying3
 a3:=Tryz.isAgg3
 z3:=Tryz.sizeOf3
 v3:=Tryz.zeroValue3
 t4:=Tryz.underlying4
 a4:=Tryz.isAgg4
 z4:=Tryz.sizeOf4
 v4:=Tryz.zeroValue4
 t9:=Tryz.underlying9
 a9:=Tryz.isAgg9
 z9:=Tryz.sizeOf9
 v9:=Tryz.zeroValue9 }
open Go.RowKit Go.Lib in
theorem Tryz.strings_TrimPrefix (s p:ByteArray) (w:World) :
 Calls Tryz.prog 151 #[.string s,.string p] w fun e w'=>e = .returned (.string ⟨(Lib.trimPrefix s.data.toList p.data.toList).toArray⟩)∧w'=w:=Any.strings_TrimPrefix Tryz.lays101 s p w
def Tryz.lays264_ren:Go.Shelf.Ren:=⟨fun | 264=>128 | n=>n,fun | 53=>170 | 46=>169 | n=>n,fun | n=>n⟩
theorem Tryz.lays264:Go.Proofs.Lays.n264 Tryz.prog Tryz.lays264_ren:={
 mixed:=by kernel_rfl
 f264:=Tryz.func128.trans (congrArg some (by kernel_rfl))
 t46:=Tryz.underlying169
 a46:=Tryz.isAgg169
 z46:=Tryz.sizeOf169
 v46:=Tryz.zeroValue169
 t53:=Tryz.underlying170
 a53:=Tryz.isAgg170
 z53:=Tryz.sizeOf170
 v53:=Tryz.zeroValue170 }
open Go.RowKit Go.Lib in
theorem Tryz.bits_Mul64 (x y:Nat) (hx:x<18446744073709551616) (hy:y<18446744073709551616) (w:World) :
 Calls Tryz.prog 128 #[.int .u64 x,.int .u64 y] w fun e w'=>e = .returned (.tuple #[.int .u64 ((x*y/18446744073709551616:Nat):Int),.int .u64 ((x*y%18446744073709551616:Nat):Int)])∧w'=w:=Any.bits_Mul64 Tryz.lays264 x y hx hy w
end Go.Proofs
set_option linter.unusedVariables false
set_option linter.unusedSimpArgs false
namespace Go.Proofs.YtkhdocdddicgpaaGreatDoor
open Go.RowKit
theorem mul_sz (a b:Int):sz (isNeg a != isNeg b) (a.natAbs*b.natAbs)=a*b:=by
 unfold sz isNeg
 rw [Int.natCast_mul]
 by_cases h1:a<0 <;> by_cases h2:b<0
 · rw [show ((a.natAbs:Nat):Int) = -a from by omega,show ((b.natAbs:Nat):Int) = -b from by omega];simp [h1,h2] <;> grind
 · rw [show ((a.natAbs:Nat):Int) = -a from by omega,show ((b.natAbs:Nat):Int)=b from by omega];simp [h1,h2] <;> grind
 · rw [show ((a.natAbs:Nat):Int)=a from by omega,show ((b.natAbs:Nat):Int) = -b from by omega];simp [h1,h2] <;> grind
 · rw [show ((a.natAbs:Nat):Int)=a from by omega,show ((b.natAbs:Nat):Int)=b from by omega];simp [h1,h2] <;> grind
theorem mul64 (x y q r:Nat) (hx:x<18446744073709551616) (hy:y<18446744073709551616) (hq:Hid (x*y/18446744073709551616=q)) (hr:Hid (x*y%18446744073709551616=r)) (w:World) :
 Calls Tryz.prog 128 #[.int .u64 x,.int .u64 y] w fun e w'=>e = .returned (.tuple #[.int .u64 q,.int .u64 r])∧w'=w:=by
 rw [← hq.out, ← hr.out]
 exact Tryz.bits_Mul64 x y hx hy w
theorem abs_u64 {s:Int} {m:Nat} (h:Hid (s.natAbs=m∧m<1000000000000000000)):m<18446744073709551616:=by have:=h.out;omega
theorem mag_q (n:Int) (m:Nat) (w:World) (h:Hid (n.natAbs=m∧m<1000000000000000000)) :
 Calls Tryz.prog 129 #[.int .i64 n] w fun e w'=>e = .returned (.int .u64 (m:Int))∧w'=w:=by
 obtain ⟨h1,h2⟩:=h.out
 subst h1
 exact (magnitude_any n (by omega) (by omega) w).mono fun e w' ⟨h1,h2⟩=>⟨h1,h2.symm⟩
theorem small_mul (a b:Int) (h:a.natAbs*b.natAbs<1000000000000000000) : -9223372036854775808≤a*b∧a*b≤9223372036854775807∧(a*b).natAbs<1000000000000000000:=by
 have:=Int.natAbs_mul a b
 omega
theorem big_mul (x y q r:Nat) (h:¬ x*y<1000000000000000000) (hq:x*y/18446744073709551616=q) (hr:x*y%18446744073709551616=r) (hq0:q=0):¬ r<1000000000000000000:=by omega
theorem little_mul (x y q r:Nat) (h:x*y<1000000000000000000) (hq:x*y/18446744073709551616=q) (hr:x*y%18446744073709551616=r):q=0∧r<1000000000000000000:=by omega
set_option maxRecDepth 100000 in
set_option maxHeartbeats 12800000 in
theorem Times_int (P:Nat→Prop) (s1 s2:Int) (p1 p2:Option Addr) (a b:Int) (w:World) (hP:∀ k,w.heap.size≤k→P k) (ha:IsInt P w (.agg #[.int .i64 s1,.pointer p1]) a) (hb:IsInt P w (.agg #[.int .i64 s2,.pointer p2]) b)
 (la:(Nm.ds 1000000000 a.natAbs).length≤1000) (lb:(Nm.ds 1000000000 b.natAbs).length≤1000) :
 Calls Tryz.prog 90 #[.agg #[.int .i64 s1,.pointer p1],.agg #[.int .i64 s2,.pointer p2]] w (IntPost P (a*b) w):=by
 have HA:=Lib.hid ha
 have HB:=Lib.hid hb
 have HP:=Lib.hid hP
 clear ha hb hP
 have HV0:=mul_sz a b
 obtain ⟨na,hna⟩:∃ na,isNeg a=na:=⟨_,rfl⟩
 obtain ⟨nb,hnb⟩:∃ nb,isNeg b=nb:=⟨_,rfl⟩
 rw [hna,hnb] at HV0
 have HV:=Lib.hid HV0
 have HNA:=Lib.hid hna
 have HNB:=Lib.hid hnb
 clear hna hnb HV0
 cases h1:p1.isNone <;> cases h2:p2.isNone
 case true.true =>
  have hs1:s1=a∧a.natAbs<1000000000000000000:=by
   rcases HA.out.ptr with ⟨h1,h2,_⟩ | ⟨_,g,h⟩
   · exact ⟨h2,h1⟩
   · rw [h] at h1;cases h1
  have hs2:s2=b∧b.natAbs<1000000000000000000:=by
   rcases HB.out.ptr with ⟨h1,h2,_⟩ | ⟨_,g,h⟩
   · exact ⟨h2,h1⟩
   · rw [h] at h2;cases h2
  obtain ⟨rfl,hs1⟩:=hs1
  obtain ⟨rfl,hs2⟩:=hs2
  obtain ⟨n1,hn1⟩:∃ n,s1.natAbs=n:=⟨_,rfl⟩
  obtain ⟨n2,hn2⟩:∃ n,s2.natAbs=n:=⟨_,rfl⟩
  obtain ⟨q,hq⟩:∃ q,n1*n2/18446744073709551616=q:=⟨_,rfl⟩
  obtain ⟨r,hr⟩:∃ r,n1*n2%18446744073709551616=r:=⟨_,rfl⟩
  have HS1:=Lib.hid (show s1.natAbs=n1∧n1<1000000000000000000 from ⟨hn1,by omega⟩)
  have HS2:=Lib.hid (show s2.natAbs=n2∧n2<1000000000000000000 from ⟨hn2,by omega⟩)
  clear hs1 hs2
  have HQ:=Lib.hid hq
  have HR:=Lib.hid hr
  by_cases hlt:n1*n2<1000000000000000000
  · obtain ⟨hq0,hr0⟩:=little_mul _ _ q r hlt hq hr
    have HM:=Lib.hid (small_mul s1 s2 (by rw [hn1,hn2];exact hlt))
    clear hn1 hn2
    clear hq hr hlt
    have g1:((q:Int)==0)=true:=by simp [hq0]
    have g2:decide ((r:Int)<1000000000000000000)=true:=by simp;omega
    have hwr:wrap64 (s1*s2)=s1*s2:=by unfold wrap64;have:=HM.out;omega
    have HG2:=Lib.hid (And.intro trivial g2)
    have HG1:=Lib.hid (And.intro trivial g1)
    clear hq0 hr0 g2 g1
    go_enter Tryz.func90,Tryz.ntmps90
    go_wp2_with fail
    go_region_held3 (fun w'=>w'.cell? ⟨w.heap.size,0,none⟩=some (.int .i64 s1)∧w'.cell? ⟨w.heap.size+1,0,none⟩=some (.int .i64 s2)) (first | ((try dsimp only);(repeat' apply And.intro);all_goals assumption) | go_keep) (first | (go_at_call 129;refine (mag_q _ _ _ (by first | exact HS1 | exact HS2)).mono ?_;rintro e w' ⟨rfl,rfl⟩) | (go_at_call 128;refine (mul64 n1 n2 q r (abs_u64 HS1) (abs_u64 HS2) HQ HR _).mono ?_;rintro e w' ⟨rfl,rfl⟩))
    have g2:=HG2.out.2
    have g1:=HG1.out.2
    go_wp2
    clear g1 g2
    refine bodyPost_ret (v := .agg #[.int .i64 (s1*s2),.pointer none]) (by simp [results,Tryz.results90,go_sem]) rfl ?_
    exact ⟨_,rfl,.inl ⟨HM.out.2.2,rfl⟩,(boxes3 _ _ _ _).drew⟩
  · have HBIG:=Lib.hid (big_mul _ _ q r hlt hq hr)
    clear hq hr hlt hn1 hn2
    by_cases hq0:q=0
    · have g1:((q:Int)==0)=true:=by simp [hq0]
      have g2:decide ((r:Int)<1000000000000000000)=false:=by have:=HBIG.out hq0;simp;omega
      have HG2:=Lib.hid (And.intro trivial g2)
      have HG1:=Lib.hid (And.intro trivial g1)
      clear hq0 g2 g1
      go_enter Tryz.func90,Tryz.ntmps90
      go_wp2_with fail
      go_region_held3 (fun w'=>w'.cell? ⟨w.heap.size,0,none⟩=some (.int .i64 s1)∧w'.cell? ⟨w.heap.size+1,0,none⟩=some (.int .i64 s2)) (first | ((try dsimp only);(repeat' apply And.intro);all_goals assumption) | go_keep) (first | (go_at_call 129;refine (mag_q _ _ _ (by first | exact HS1 | exact HS2)).mono ?_;rintro e w' ⟨rfl,rfl⟩) | (go_at_call 128;refine (mul64 n1 n2 q r (abs_u64 HS1) (abs_u64 HS2) HQ HR _).mono ?_;rintro e w' ⟨rfl,rfl⟩))
      have g2:=HG2.out.2
      have g1:=HG1.out.2
      go_wp2_with fail
      clear g1 g2
      have hS0:=St.of HA.out HB.out (.int .i64 0) (.pointer none) 107 107 107
      have hS0:=hS0.drew
      have HA0:=Lib.hid (HA.out.bar3 hS0.1)
      have HB0:=Lib.hid (HB.out.bar3 hS0.1)
      go_region_held3 (fun w'=>w'.cell? ⟨w.heap.size,0,none⟩=some (.int .i64 s1)∧w'.cell? ⟨w.heap.size,1,none⟩=some (.pointer p1)∧w'.cell? ⟨w.heap.size+1,0,none⟩=some (.int .i64 s2)∧w'.cell? ⟨w.heap.size+1,1,none⟩=some (.pointer p2))
       (first | ((try dsimp only);(repeat' apply And.intro);all_goals (first | assumption | (rw [cell_set2 _ _ _ _ _ _ (by omega)];assumption))) | go_keep)
       (first | (go_at_call 131;refine (isNegative_any (Bar3 P w) _ s1 _ (by exact HA0.out.kept (.drew _ _))).mono ?_;rintro e w1 ⟨rfl,hb1⟩;rw [HNA.out];have hS1:=hS0.drew.next hb1 (Nat.le_refl _);obtain ⟨c0,c1,c2,c3,c4,c5,c6,c7⟩:=hS1.cells) | (go_at_call 131;refine (isNegative_any (Bar3 P w) _ s2 _ (by exact HB.out.bar3 hS1.1)).mono ?_;rintro e w2 ⟨rfl,hb2⟩;rw [HNB.out];have hS2:=hS1.next hb2 (Nat.le_refl _);obtain ⟨d0,d1,d2,d3,d4,d5,d6,d7⟩:=hS2.cells) | (go_at_call 133;refine (limbs_any (Bar3 P w) _ s1 _ (by intro k hk;exact Bar3.new HP.out k (Nat.le_trans hS2.2.1 hk)) (by exact HA.out.bar3 hS2.1)).mono ?_;rintro e w3 ⟨v1,rfl,hv1,hi1,hb3⟩;have hS3:=hS2.next hb3 (Nat.le_refl _);obtain ⟨e0,e1,e2,e3,e4,e5,e6,e7⟩:=hS3.cells;obtain ⟨a1,m1,k1,rfl⟩:=hv1.slice) | (go_at_call 133;refine (limbs_any (Bar3 P w) _ s2 _ (by intro k hk;exact Bar3.new HP.out k (Nat.le_trans hS3.2.1 hk)) (by exact HB.out.bar3 hS3.1)).mono ?_;rintro e w4 ⟨v2,rfl,hv2,hi2,hb4⟩;have hS4:=hS3.next hb4 (Nat.le_refl _);obtain ⟨f0,f1,f2,f3,f4,f5,f6,f7⟩:=hS4.cells;obtain ⟨a2,m2,k2,rfl⟩:=hv2.slice) | (go_at_call 132;refine (product_any _ _ s1.natAbs s2.natAbs _ (by exact hv1.kept hi1 (.all hb4)) hv2 la lb).mono ?_;rintro e w5 ⟨v3,rfl,hv3,hf3,hb5⟩;have hS5:=hS4.next hb5 (Nat.le_refl _);obtain ⟨g0,g1,g2,g3,g4,g5,g6,g7⟩:=hS5.cells;obtain ⟨a3,m3,k3,rfl⟩:=IsNat.slice hv3) | (go_at_call 130;refine (signed_any (Bar3 P w) (na != nb) _ _ _ (by intro k hk;exact Bar3.new HP.out k (Nat.le_trans hS5.2.1 hk)) hv3 (In.fresh hf3 (by intro k hk;exact Bar3.new HP.out k (Nat.le_trans hS4.2.1 hk)))).mono ?_;rintro e w6 ⟨v6,rfl,hv6,hb6⟩;have hS6:=hS5.next hb6 (Nat.le_refl _);obtain ⟨l0,l1,l2,l3,l4,l5,l6,l7⟩:=hS6.cells;obtain ⟨s,p,rfl⟩:=hv6.form))
      rw [HV.out] at hv6
      have HW:=Lib.hid hv6
      clear hv1 hv2 hv3 hv6 hi1 hi2 hf3 hb1 hb2 hb3 hb4 hb5 hb6 c0 c1 c2 c3 c4 c5 c6 c7 d0 d1 d2 d3 d4 d5 d6 d7 e0 e1 e2 e3 e4 e5 e6 e7 f0 f1 f2 f3 f4 f5 f6 f7 g0 g1 g2 g3 g4 g5 g6 g7 l0 l1 l2 l3
      go_wp2
      refine bodyPost_ret (v := .agg #[.int .i64 s,.pointer p]) (by simp [results,Tryz.results90,go_sem,l4,l5]) rfl ?_
      exact IntPost.three hS6.1 HW.out
    · have g1:((q:Int)==0)=false:=by rw [beq_eq_false_iff_ne];omega
      clear hq0
      go_enter Tryz.func90,Tryz.ntmps90
      go_wp2_with fail
      go_region_held3 (fun w'=>w'.cell? ⟨w.heap.size,0,none⟩=some (.int .i64 s1)∧w'.cell? ⟨w.heap.size+1,0,none⟩=some (.int .i64 s2)) (first | ((try dsimp only);(repeat' apply And.intro);all_goals assumption) | go_keep) (first | (go_at_call 129;refine (mag_q _ _ _ (by first | exact HS1 | exact HS2)).mono ?_;rintro e w' ⟨rfl,rfl⟩) | (go_at_call 128;refine (mul64 n1 n2 q r (abs_u64 HS1) (abs_u64 HS2) HQ HR _).mono ?_;rintro e w' ⟨rfl,rfl⟩))
      go_wp2_with fail
      clear g1
      have hS0:=St.of HA.out HB.out (.int .i64 0) (.pointer none) 107 107 107
      have hS0:=hS0.drew
      have HA0:=Lib.hid (HA.out.bar3 hS0.1)
      have HB0:=Lib.hid (HB.out.bar3 hS0.1)
      go_region_held3 (fun w'=>w'.cell? ⟨w.heap.size,0,none⟩=some (.int .i64 s1)∧w'.cell? ⟨w.heap.size,1,none⟩=some (.pointer p1)∧w'.cell? ⟨w.heap.size+1,0,none⟩=some (.int .i64 s2)∧w'.cell? ⟨w.heap.size+1,1,none⟩=some (.pointer p2))
       (first | ((try dsimp only);(repeat' apply And.intro);all_goals (first | assumption | (rw [cell_set2 _ _ _ _ _ _ (by omega)];assumption))) | go_keep)
       (first | (go_at_call 131;refine (isNegative_any (Bar3 P w) _ s1 _ (by exact HA0.out.kept (.drew _ _))).mono ?_;rintro e w1 ⟨rfl,hb1⟩;rw [HNA.out];have hS1:=hS0.drew.next hb1 (Nat.le_refl _);obtain ⟨c0,c1,c2,c3,c4,c5,c6,c7⟩:=hS1.cells) | (go_at_call 131;refine (isNegative_any (Bar3 P w) _ s2 _ (by exact HB.out.bar3 hS1.1)).mono ?_;rintro e w2 ⟨rfl,hb2⟩;rw [HNB.out];have hS2:=hS1.next hb2 (Nat.le_refl _);obtain ⟨d0,d1,d2,d3,d4,d5,d6,d7⟩:=hS2.cells) | (go_at_call 133;refine (limbs_any (Bar3 P w) _ s1 _ (by intro k hk;exact Bar3.new HP.out k (Nat.le_trans hS2.2.1 hk)) (by exact HA.out.bar3 hS2.1)).mono ?_;rintro e w3 ⟨v1,rfl,hv1,hi1,hb3⟩;have hS3:=hS2.next hb3 (Nat.le_refl _);obtain ⟨e0,e1,e2,e3,e4,e5,e6,e7⟩:=hS3.cells;obtain ⟨a1,m1,k1,rfl⟩:=hv1.slice) | (go_at_call 133;refine (limbs_any (Bar3 P w) _ s2 _ (by intro k hk;exact Bar3.new HP.out k (Nat.le_trans hS3.2.1 hk)) (by exact HB.out.bar3 hS3.1)).mono ?_;rintro e w4 ⟨v2,rfl,hv2,hi2,hb4⟩;have hS4:=hS3.next hb4 (Nat.le_refl _);obtain ⟨f0,f1,f2,f3,f4,f5,f6,f7⟩:=hS4.cells;obtain ⟨a2,m2,k2,rfl⟩:=hv2.slice) | (go_at_call 132;refine (product_any _ _ s1.natAbs s2.natAbs _ (by exact hv1.kept hi1 (.all hb4)) hv2 la lb).mono ?_;rintro e w5 ⟨v3,rfl,hv3,hf3,hb5⟩;have hS5:=hS4.next hb5 (Nat.le_refl _);obtain ⟨g0,g1,g2,g3,g4,g5,g6,g7⟩:=hS5.cells;obtain ⟨a3,m3,k3,rfl⟩:=IsNat.slice hv3) | (go_at_call 130;refine (signed_any (Bar3 P w) (na != nb) _ _ _ (by intro k hk;exact Bar3.new HP.out k (Nat.le_trans hS5.2.1 hk)) hv3 (In.fresh hf3 (by intro k hk;exact Bar3.new HP.out k (Nat.le_trans hS4.2.1 hk)))).mono ?_;rintro e w6 ⟨v6,rfl,hv6,hb6⟩;have hS6:=hS5.next hb6 (Nat.le_refl _);obtain ⟨l0,l1,l2,l3,l4,l5,l6,l7⟩:=hS6.cells;obtain ⟨s,p,rfl⟩:=hv6.form))
      rw [HV.out] at hv6
      have HW:=Lib.hid hv6
      clear hv1 hv2 hv3 hv6 hi1 hi2 hf3 hb1 hb2 hb3 hb4 hb5 hb6 c0 c1 c2 c3 c4 c5 c6 c7 d0 d1 d2 d3 d4 d5 d6 d7 e0 e1 e2 e3 e4 e5 e6 e7 f0 f1 f2 f3 f4 f5 f6 f7 g0 g1 g2 g3 g4 g5 g6 g7 l0 l1 l2 l3
      go_wp2
      refine bodyPost_ret (v := .agg #[.int .i64 s,.pointer p]) (by simp [results,Tryz.results90,go_sem,l4,l5]) rfl ?_
      exact IntPost.three hS6.1 HW.out
 all_goals
  go_enter Tryz.func90,Tryz.ntmps90
  go_wp2_with fail
  have hS0:=St.of HA.out HB.out (.int .i64 0) (.pointer none) 107 107 107
  have HA0:=Lib.hid (HA.out.bar3 hS0.1)
  have HB0:=Lib.hid (HB.out.bar3 hS0.1)
  go_region_held3 (fun w'=>w'.cell? ⟨w.heap.size,0,none⟩=some (.int .i64 s1)∧w'.cell? ⟨w.heap.size,1,none⟩=some (.pointer p1)∧w'.cell? ⟨w.heap.size+1,0,none⟩=some (.int .i64 s2)∧w'.cell? ⟨w.heap.size+1,1,none⟩=some (.pointer p2))
   (first | ((try dsimp only);(repeat' apply And.intro);all_goals (first | assumption | (rw [cell_set2 _ _ _ _ _ _ (by omega)];assumption))) | go_keep)
   (first | (go_at_call 131;refine (isNegative_any (Bar3 P w) _ a _ (by exact HA0.out.kept (.drew _ _))).mono ?_;rintro e w1 ⟨rfl,hb1⟩;rw [HNA.out];have hS1:=hS0.drew.next hb1 (Nat.le_refl _);obtain ⟨c0,c1,c2,c3,c4,c5,c6,c7⟩:=hS1.cells) | (go_at_call 131;refine (isNegative_any (Bar3 P w) _ b _ (by exact HB.out.bar3 hS1.1)).mono ?_;rintro e w2 ⟨rfl,hb2⟩;rw [HNB.out];have hS2:=hS1.next hb2 (Nat.le_refl _);obtain ⟨d0,d1,d2,d3,d4,d5,d6,d7⟩:=hS2.cells) | (go_at_call 133;refine (limbs_any (Bar3 P w) _ a _ (by intro k hk;exact Bar3.new HP.out k (Nat.le_trans hS2.2.1 hk)) (by exact HA.out.bar3 hS2.1)).mono ?_;rintro e w3 ⟨v1,rfl,hv1,hi1,hb3⟩;have hS3:=hS2.next hb3 (Nat.le_refl _);obtain ⟨e0,e1,e2,e3,e4,e5,e6,e7⟩:=hS3.cells;obtain ⟨a1,m1,k1,rfl⟩:=hv1.slice) | (go_at_call 133;refine (limbs_any (Bar3 P w) _ b _ (by intro k hk;exact Bar3.new HP.out k (Nat.le_trans hS3.2.1 hk)) (by exact HB.out.bar3 hS3.1)).mono ?_;rintro e w4 ⟨v2,rfl,hv2,hi2,hb4⟩;have hS4:=hS3.next hb4 (Nat.le_refl _);obtain ⟨f0,f1,f2,f3,f4,f5,f6,f7⟩:=hS4.cells;obtain ⟨a2,m2,k2,rfl⟩:=hv2.slice) | (go_at_call 132;refine (product_any _ _ a.natAbs b.natAbs _ (by exact hv1.kept hi1 (.all hb4)) hv2 la lb).mono ?_;rintro e w5 ⟨v3,rfl,hv3,hf3,hb5⟩;have hS5:=hS4.next hb5 (Nat.le_refl _);obtain ⟨g0,g1,g2,g3,g4,g5,g6,g7⟩:=hS5.cells;obtain ⟨a3,m3,k3,rfl⟩:=IsNat.slice hv3) | (go_at_call 130;refine (signed_any (Bar3 P w) (na != nb) _ _ _ (by intro k hk;exact Bar3.new HP.out k (Nat.le_trans hS5.2.1 hk)) hv3 (In.fresh hf3 (by intro k hk;exact Bar3.new HP.out k (Nat.le_trans hS4.2.1 hk)))).mono ?_;rintro e w6 ⟨v6,rfl,hv6,hb6⟩;have hS6:=hS5.next hb6 (Nat.le_refl _);obtain ⟨l0,l1,l2,l3,l4,l5,l6,l7⟩:=hS6.cells;obtain ⟨s,p,rfl⟩:=hv6.form))
  rw [HV.out] at hv6
  have HW:=Lib.hid hv6
  clear hv1 hv2 hv3 hv6 hi1 hi2 hf3 hb1 hb2 hb3 hb4 hb5 hb6 c0 c1 c2 c3 c4 c5 c6 c7 d0 d1 d2 d3 d4 d5 d6 d7 e0 e1 e2 e3 e4 e5 e6 e7 f0 f1 f2 f3 f4 f5 f6 f7 g0 g1 g2 g3 g4 g5 g6 g7 l0 l1 l2 l3
  go_wp2
  refine bodyPost_ret (v := .agg #[.int .i64 s,.pointer p]) (by simp [results,Tryz.results90,go_sem,l4,l5]) rfl ?_
  exact IntPost.three hS6.1 HW.out
theorem Times_any (P:Nat→Prop) (x y:Value) (a b:Int) (w:World) (hP:∀ k,w.heap.size≤k→P k) (ha:IsInt P w x a) (hb:IsInt P w y b)
 (la:(Nm.ds 1000000000 a.natAbs).length≤1000) (lb:(Nm.ds 1000000000 b.natAbs).length≤1000) :
 Calls Tryz.prog 90 #[x,y] w (IntPost P (a*b) w):=by
 obtain ⟨s1,p1,rfl⟩:=ha.form
 obtain ⟨s2,p2,rfl⟩:=hb.form
 exact Times_int P s1 s2 p1 p2 a b w hP ha hb la lb
end Go.Proofs.YtkhdocdddicgpaaGreatDoor
