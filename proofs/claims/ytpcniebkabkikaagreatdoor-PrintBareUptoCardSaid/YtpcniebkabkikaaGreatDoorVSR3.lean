/- DERIVED: THE SHELF's CONTRACTS AT THIS DUMP, IN PLAIN WORDS (tools/lay-plain.mjs out of 'TryzShelfC.lean', which tools/lay-shelf.mjs wrote): THE SAME DECLARATIONS UNDER THE SAME NAMES: 'import', 'namespace', 'open', 'def', 'theorem' AND NOTHING ELSE: no command of the shelf's: FOR A HAND-IN. Each laying: the table of numbers ('.._ren') and one theorem, a field a fact of the dump's own or the kerne -/
import Derived.Shelf.Strings.Builder1
import Derived.Shelf.Strings.Builder2
import Derived.Shelf.Strings.BuilderF
import Derived.Shelf.Strings.BuilderK
import Derived.Shelf.Strconv.Itoa0
import Derived.Shelf.Strconv.Itoa1
import Derived.Shelf.LaysM
import Derived.Shelf.Strconv.Itoa2
import Derived.Shelf.Strconv.Itoa3
import Derived.Shelf.Strconv.Itoa4
import Derived.Shelf.Strconv.ParseIntEmpty
import Derived.Shelf.Strconv.Clone
import Derived.Shelf.Strconv.SyntaxError
import Derived.Shelf.LaysC
import Derived.Shelf.Strconv.ToError
import Derived.Shelf.Strconv.Lower
import Derived.Shelf.Strconv.ParseUint10
import Derived.Shelf.Strconv.ParseUint10Empty
import Derived.Shelf.Strconv.ParseUint10Any
import Derived.Shelf.Strconv.ParseInt10
import Derived.Shelf.Strconv.RangeError
import Derived.Shelf.Strconv.ToErrorRange
import Derived.Shelf.Strconv.ParseUintEmpty
import Derived.Shelf.Strconv.ParseUint10b64
import Derived.Shelf.Strconv.ParseUint10b32
import Derived.Shelf.Strconv.ParseUint10b16
import Derived.Shelf.Strconv.ParseUint10b8
import Derived.Shelf.Strconv.ParseUint10At
import Derived.Shelf.Strconv.ParseInt10At64
import Derived.Shelf.Strconv.ParseInt10At32
import Derived.Shelf.Strconv.ParseInt10At16
import Derived.Shelf.Strconv.ParseInt10At8
import Derived.Shelf.Strconv.ParseInt10All
import Derived.Shelf.Strconv.ParseIntPublic10
import Derived.Shelf.Strings.Prefix
import Derived.Shelf.Bits.Mul64
import Derived.Shelf.Strings.Repeat
import Derived.Shelf.Slices.Turned
import Derived.Shelf.Slices.Equal
import Derived.Ground.SlgnProg
import Derived.Shelf.SlicesE.Equal
import Derived.Test.YtpcniebkabkikaaGreatDoorProg
import Derived.Test.YtpcniebkabkikaaGreatDoorVSR2
import Derived.Below
import Derived.Laws.OwnMore
import Derived.RegionTactic
import Derived.Deep.Draws
import Derived.RangeFuncNested
import Derived.RangeFuncBound
import Derived.RangeFuncCalls
import Derived.RangeFuncLeaves
import Derived.OwnWalkIn
import Derived.TacticsInMore
import Derived.LoopNIn
import Derived.LoopIn
import Derived.ScopeJumps
import Derived.WalkMore
import Derived.Maps.OwnIn
import Derived.Maps.AppendAt
namespace Go.Proofs
open Go.Shelf
def Tryz.lays170_ren:Go.Shelf.Ren:=⟨fun | 170=>103 | n=>n,fun | 70=>76 | 3=>3 | 0=>0 | 72=>79 | 37=>77 | 5=>5 | n=>n,fun | n=>n⟩
theorem Tryz.lays170:Go.Proofs.Lays.n170 Tryz.prog Tryz.lays170_ren:={
  mixed:=by kernel_rfl
  f170:=Tryz.func103.trans (congrArg some (by kernel_rfl))
  t0:=Tryz.underlying0
  a0:=Tryz.isAgg0
  z0:=Tryz.sizeOf0
  v0:=Tryz.zeroValue0
  t3:=Tryz.underlying3
  a3:=Tryz.isAgg3
  z3:=Tryz.sizeOf3
  v3:=Tryz.zeroValue3
  t37:=Tryz.underlying77
  a37:=Tryz.isAgg77
  z37:=Tryz.sizeOf77
  v37:=Tryz.zeroValue77
  t70:=Tryz.underlying76
  a70:=Tryz.isAgg76
  z70:=Tryz.sizeOf76
  v70:=Tryz.zeroValue76
  t72:=Tryz.underlying79
  a72:=Tryz.isAgg79
  z72:=Tryz.sizeOf79
  v72:=Tryz.zeroValue79 }
def Tryz.lays169_ren:Go.Shelf.Ren:=⟨fun | 169=>34 | n=>n,fun | 70=>76 | 9=>9 | 0=>0 | 72=>79 | 37=>77 | 127=>109 | 3=>3 | 5=>5 | n=>n,fun | n=>n⟩
theorem Tryz.lays169:Go.Proofs.Lays.n169 Tryz.prog Tryz.lays169_ren:={
  mixed:=by kernel_rfl
  f169:=Tryz.func34.trans (congrArg some (by kernel_rfl))
  t0:=Tryz.underlying0
  a0:=Tryz.isAgg0
  z0:=Tryz.sizeOf0
  v0:=Tryz.zeroValue0
  t3:=Tryz.underlying3
  a3:=Tryz.isAgg3
  z3:=Tryz.sizeOf3
  v3:=Tryz.zeroValue3
  t9:=Tryz.underlying9
  a9:=Tryz.isAgg9
  z9:=Tryz.sizeOf9
  v9:=Tryz.zeroValue9
  t37:=Tryz.underlying77
  a37:=Tryz.isAgg77
  z37:=Tryz.sizeOf77
  v37:=Tryz.zeroValue77
  t70:=Tryz.underlying76
  a70:=Tryz.isAgg76
  z70:=Tryz.sizeOf76
  v70:=Tryz.zeroValue76
  t72:=Tryz.underlying79
  a72:=Tryz.isAgg79
  z72:=Tryz.sizeOf79
  v72:=Tryz.zeroValue79
  t127:=Tryz.underlying109
  a127:=Tryz.isAgg109
  z127:=Tryz.sizeOf109
  v127:=Tryz.zeroValue109 }
theorem Tryz.Builder_Extra_169:Builder.Extra Tryz.prog Tryz.lays169_ren:={
  sizeBuilder:=by kernel_rfl
  liesBuilder:=by kernel_rfl
  t5:=Tryz.underlying5
  a5:=Tryz.isAgg5
  z5:=Tryz.sizeOf5
  v5:=Tryz.zeroValue5
  infoByte:=by kernel_rfl
  cellsByte:=by kernel_rfl
  sizeByte:=by kernel_rfl
  neB5:=by decide }
open Go.RowKit in
theorem Tryz.Builder_Len_f (B b:Nat) (bs:List Value) (w:World) (h:Lib.IsBuilderF 79 5 B b bs w) :
    Calls Tryz.prog 103 #[.pointer (some ⟨b,0,none⟩)] w fun e w'=>e=.returned (.int .i64 bs.length)∧w'=w:=Any.Builder_Len_f Tryz.lays170 B b bs w h
open Go.RowKit in
theorem Tryz.Builder_String_any_k (B b:Nat) (l:List UInt8) (w:World) (h:Lib.IsBuilderF 79 5 B b (Lib.byteCells l) w) (hBw:B≤w.heap.size) :
    Calls Tryz.prog 34 #[.pointer (some ⟨b,0,none⟩)] w fun e w'=>e=.returned (.string ⟨l.toArray⟩)∧(Lib.IsBuilderF 79 5 B b (Lib.byteCells l) w'∧Below B w w'∧Lib.OthersKept 5 (some b) w w'):=Any.Builder_String_any_k Tryz.lays169 Tryz.Builder_Extra_169 B b l w h hBw
def Tryz.laysM171_ren:Go.Shelf.Ren:=⟨fun | 171=>112 | 243=>161 | 246=>198 | 283=>230 | 284=>231 | 285=>232 | 286=>233 | 129=>257 | 317=>256 | 318=>258 | 319=>259 | 320=>260 | 337=>270 | 338=>237 | n=>n,fun | 3=>3 | 9=>9 | 2=>2 | 4=>4 | 171=>253 | 0=>0 | 53=>49 | 37=>77 | 5=>5 | 173=>256 | 212=>273 | 51=>274 | 20=>20 | 213=>275 | 46=>208 | 232=>292 | 233=>277 | n=>n,fun | 17=>1 | 18=>3 | 19=>2 | n=>n⟩
theorem Tryz.laysM171:Go.Proofs.LaysM.n171 Tryz.prog Tryz.laysM171_ren:={
  mixed:=by kernel_rfl
  f129:=Tryz.func257.trans (congrArg some (by kernel_rfl))
  f171:=Tryz.func112.trans (congrArg some (by kernel_rfl))
  f243:=Tryz.func161.trans (congrArg some (by kernel_rfl))
  f246:=Tryz.func198.trans (congrArg some (by kernel_rfl))
  f283:=Tryz.func230.trans (congrArg some (by kernel_rfl))
  f284:=Tryz.func231.trans (congrArg some (by kernel_rfl))
  f285:=Tryz.func232.trans (congrArg some (by kernel_rfl))
  f286:=Tryz.func233.trans (congrArg some (by kernel_rfl))
  f317:=Tryz.func256.trans (congrArg some (by kernel_rfl))
  f318:=Tryz.func258.trans (congrArg some (by kernel_rfl))
  f319:=Tryz.func259.trans (congrArg some (by kernel_rfl))
  f320:=Tryz.func260.trans (congrArg some (by kernel_rfl))
  f337:=Tryz.func270.trans (congrArg some (by kernel_rfl))
  f338:=Tryz.func237.trans (congrArg some (by kernel_rfl))
  t0:=Tryz.underlying0
  a0:=Tryz.isAgg0
  z0:=Tryz.sizeOf0
  v0:=Tryz.zeroValue0
  t2:=Tryz.underlying2
  a2:=Tryz.isAgg2
  z2:=Tryz.sizeOf2
  v2:=Tryz.zeroValue2
  t3:=Tryz.underlying3
  a3:=Tryz.isAgg3
  z3:=Tryz.sizeOf3
  v3:=Tryz.zeroValue3
  t4:=Tryz.underlying4
  a4:=Tryz.isAgg4
  z4:=Tryz.sizeOf4
  v4:=Tryz.zeroValue4
  t5:=Tryz.underlying5
  a5:=Tryz.isAgg5
  z5:=Tryz.sizeOf5
  v5:=Tryz.zeroValue5
  t9:=Tryz.underlying9
  a9:=Tryz.isAgg9
  z9:=Tryz.sizeOf9
  v9:=Tryz.zeroValue9
  t20:=Tryz.underlying20
  a20:=Tryz.isAgg20
  z20:=Tryz.sizeOf20
  v20:=Tryz.zeroValue20
  t37:=Tryz.underlying77
  a37:=Tryz.isAgg77
  z37:=Tryz.sizeOf77
  v37:=Tryz.zeroValue77
  t46:=Tryz.underlying208
  a46:=Tryz.isAgg208
  z46:=Tryz.sizeOf208
  v46:=Tryz.zeroValue208
  t51:=Tryz.underlying274
  a51:=Tryz.isAgg274
  z51:=Tryz.sizeOf274
  v51:=Tryz.zeroValue274
  t53:=Tryz.underlying49
  a53:=Tryz.isAgg49
  z53:=Tryz.sizeOf49
  v53:=Tryz.zeroValue49
  t171:=Tryz.underlying253
  a171:=Tryz.isAgg253
  z171:=Tryz.sizeOf253
  v171:=Tryz.zeroValue253
  t173:=Tryz.underlying256
  a173:=Tryz.isAgg256
  z173:=Tryz.sizeOf256
  v173:=Tryz.zeroValue256
  t212:=Tryz.underlying273
  a212:=Tryz.isAgg273
  z212:=Tryz.sizeOf273
  v212:=Tryz.zeroValue273
  t213:=Tryz.underlying275
  a213:=Tryz.isAgg275
  z213:=Tryz.sizeOf275
  t232:=Tryz.underlying292
  a232:=Tryz.isAgg292
  z232:=Tryz.sizeOf292
  v232:=Tryz.zeroValue292
  t233:=Tryz.underlying277
  a233:=Tryz.isAgg277
  z233:=Tryz.sizeOf277
  v233:=Tryz.zeroValue277
  g17:=by kernel_rfl
  g18:=by kernel_rfl
  g19:=by kernel_rfl
  i0:=by kernel_rfl
  i2:=by kernel_rfl
  i3:=by kernel_rfl
  i4:=by kernel_rfl
  i5:=by kernel_rfl
  i9:=by kernel_rfl
  i20:=by kernel_rfl
  i37:=by kernel_rfl
  i46:=by kernel_rfl
  i51:=by kernel_rfl
  i53:=by kernel_rfl
  i171:=by kernel_rfl
  i173:=by kernel_rfl
  i212:=by kernel_rfl
  i232:=by kernel_rfl
  i233:=by kernel_rfl
  m17:=by kernel_rfl
  m18:=by kernel_rfl
  m19:=by kernel_rfl }
open Go.RowKit Go.Sort Go.Lib in
theorem Tryz.strconv_Itoa (n : Int) (h0 : -9223372036854775808 ≤ n) (h1 : n ≤ 9223372036854775807) (w : World) (htab : Lib.TabIs Tryz.prog w "internal/strconv.uint64pow10" .u64 Lib.pow10Tab) :
    Calls Tryz.prog 112 #[.int .i64 n] w fun e w'=>e=.returned (.string ⟨(Lib.itoa n).toArray⟩)∧∃ k os,w'=grow (w.drewN k) os:=Any.strconv_Itoa Tryz.laysM171 n h0 h1 w htab
def Tryz.lays171_ren:Go.Shelf.Ren:=⟨fun | 171=>112 | 243=>161 | 246=>198 | 283=>230 | 284=>231 | 285=>232 | 286=>233 | 129=>257 | 317=>256 | 318=>258 | 319=>259 | 320=>260 | 337=>270 | 338=>237 | n=>n,fun | 3=>3 | 9=>9 | 2=>2 | 4=>4 | 171=>253 | 0=>0 | 53=>49 | 37=>77 | 5=>5 | 173=>256 | 212=>273 | 51=>274 | 20=>20 | 213=>275 | 46=>208 | 232=>292 | 233=>277 | n=>n,fun | 17=>1 | 18=>3 | 19=>2 | n=>n⟩
theorem Tryz.lays171:Go.Proofs.Lays.n171 Tryz.prog Tryz.lays171_ren:={
  mixed:=by kernel_rfl
  f129:=Tryz.func257.trans (congrArg some (by kernel_rfl))
  f171:=Tryz.func112.trans (congrArg some (by kernel_rfl))
  f243:=Tryz.func161.trans (congrArg some (by kernel_rfl))
  f246:=Tryz.func198.trans (congrArg some (by kernel_rfl))
  f283:=Tryz.func230.trans (congrArg some (by kernel_rfl))
  f284:=Tryz.func231.trans (congrArg some (by kernel_rfl))
  f285:=Tryz.func232.trans (congrArg some (by kernel_rfl))
  f286:=Tryz.func233.trans (congrArg some (by kernel_rfl))
  f317:=Tryz.func256.trans (congrArg some (by kernel_rfl))
  f318:=Tryz.func258.trans (congrArg some (by kernel_rfl))
  f319:=Tryz.func259.trans (congrArg some (by kernel_rfl))
  f320:=Tryz.func260.trans (congrArg some (by kernel_rfl))
  f337:=Tryz.func270.trans (congrArg some (by kernel_rfl))
  f338:=Tryz.func237.trans (congrArg some (by kernel_rfl))
  t0:=Tryz.underlying0
  a0:=Tryz.isAgg0
  z0:=Tryz.sizeOf0
  v0:=Tryz.zeroValue0
  t2:=Tryz.underlying2
  a2:=Tryz.isAgg2
  z2:=Tryz.sizeOf2
  v2:=Tryz.zeroValue2
  t3:=Tryz.underlying3
  a3:=Tryz.isAgg3
  z3:=Tryz.sizeOf3
  v3:=Tryz.zeroValue3
  t4:=Tryz.underlying4
  a4:=Tryz.isAgg4
  z4:=Tryz.sizeOf4
  v4:=Tryz.zeroValue4
  t5:=Tryz.underlying5
  a5:=Tryz.isAgg5
  z5:=Tryz.sizeOf5
  v5:=Tryz.zeroValue5
  t9:=Tryz.underlying9
  a9:=Tryz.isAgg9
  z9:=Tryz.sizeOf9
  v9:=Tryz.zeroValue9
  t20:=Tryz.underlying20
  a20:=Tryz.isAgg20
  z20:=Tryz.sizeOf20
  v20:=Tryz.zeroValue20
  t37:=Tryz.underlying77
  a37:=Tryz.isAgg77
  z37:=Tryz.sizeOf77
  v37:=Tryz.zeroValue77
  t46:=Tryz.underlying208
  a46:=Tryz.isAgg208
  z46:=Tryz.sizeOf208
  v46:=Tryz.zeroValue208
  t51:=Tryz.underlying274
  a51:=Tryz.isAgg274
  z51:=Tryz.sizeOf274
  v51:=Tryz.zeroValue274
  t53:=Tryz.underlying49
  a53:=Tryz.isAgg49
  z53:=Tryz.sizeOf49
  v53:=Tryz.zeroValue49
  t171:=Tryz.underlying253
  a171:=Tryz.isAgg253
  z171:=Tryz.sizeOf253
  v171:=Tryz.zeroValue253
  t173:=Tryz.underlying256
  a173:=Tryz.isAgg256
  z173:=Tryz.sizeOf256
  v173:=Tryz.zeroValue256
  t212:=Tryz.underlying273
  a212:=Tryz.isAgg273
  z212:=Tryz.sizeOf273
  v212:=Tryz.zeroValue273
  t213:=Tryz.underlying275
  a213:=Tryz.isAgg275
  z213:=Tryz.sizeOf275
  t232:=Tryz.underlying292
  a232:=Tryz.isAgg292
  z232:=Tryz.sizeOf292
  v232:=Tryz.zeroValue292
  t233:=Tryz.underlying277
  a233:=Tryz.isAgg277
  z233:=Tryz.sizeOf277
  v233:=Tryz.zeroValue277
  g17:=by kernel_rfl
  g18:=by kernel_rfl
  g19:=by kernel_rfl }
open Go.RowKit Go.Sort Go.Lib in
theorem Tryz.strconv_Itoa_small (i:Nat) (hi:i<100) (w:World) :
    Calls Tryz.prog 112 #[.int .i64 i] w fun e w'=>e=.returned (.string ⟨(Lib.decDigits i).toArray⟩)∧w'=w:=Any.strconv_Itoa_small Tryz.lays171 i hi w
def Tryz.laysM173_ren:Go.Shelf.Ren:=⟨fun | 173=>176 | 246=>198 | 283=>230 | 284=>231 | 285=>232 | 286=>233 | 129=>257 | 317=>256 | 318=>258 | 319=>259 | 320=>260 | 337=>270 | 338=>237 | n=>n,fun | 2=>2 | 3=>3 | 9=>9 | 4=>4 | 171=>253 | 0=>0 | 53=>49 | 37=>77 | 5=>5 | 173=>256 | 212=>273 | 51=>274 | 20=>20 | 213=>275 | 46=>208 | 232=>292 | 233=>277 | n=>n,fun | 17=>1 | 18=>3 | 19=>2 | n=>n⟩
theorem Tryz.laysM173:Go.Proofs.LaysM.n173 Tryz.prog Tryz.laysM173_ren:={
  mixed:=by kernel_rfl
  f129:=Tryz.func257.trans (congrArg some (by kernel_rfl))
  f173:=Tryz.func176.trans (congrArg some (by kernel_rfl))
  f246:=Tryz.func198.trans (congrArg some (by kernel_rfl))
  f283:=Tryz.func230.trans (congrArg some (by kernel_rfl))
  f284:=Tryz.func231.trans (congrArg some (by kernel_rfl))
  f285:=Tryz.func232.trans (congrArg some (by kernel_rfl))
  f286:=Tryz.func233.trans (congrArg some (by kernel_rfl))
  f317:=Tryz.func256.trans (congrArg some (by kernel_rfl))
  f318:=Tryz.func258.trans (congrArg some (by kernel_rfl))
  f319:=Tryz.func259.trans (congrArg some (by kernel_rfl))
  f320:=Tryz.func260.trans (congrArg some (by kernel_rfl))
  f337:=Tryz.func270.trans (congrArg some (by kernel_rfl))
  f338:=Tryz.func237.trans (congrArg some (by kernel_rfl))
  t0:=Tryz.underlying0
  a0:=Tryz.isAgg0
  z0:=Tryz.sizeOf0
  v0:=Tryz.zeroValue0
  t2:=Tryz.underlying2
  a2:=Tryz.isAgg2
  z2:=Tryz.sizeOf2
  v2:=Tryz.zeroValue2
  t3:=Tryz.underlying3
  a3:=Tryz.isAgg3
  z3:=Tryz.sizeOf3
  v3:=Tryz.zeroValue3
  t4:=Tryz.underlying4
  a4:=Tryz.isAgg4
  z4:=Tryz.sizeOf4
  v4:=Tryz.zeroValue4
  t5:=Tryz.underlying5
  a5:=Tryz.isAgg5
  z5:=Tryz.sizeOf5
  v5:=Tryz.zeroValue5
  t9:=Tryz.underlying9
  a9:=Tryz.isAgg9
  z9:=Tryz.sizeOf9
  v9:=Tryz.zeroValue9
  t20:=Tryz.underlying20
  a20:=Tryz.isAgg20
  z20:=Tryz.sizeOf20
  v20:=Tryz.zeroValue20
  t37:=Tryz.underlying77
  a37:=Tryz.isAgg77
  z37:=Tryz.sizeOf77
  v37:=Tryz.zeroValue77
  t46:=Tryz.underlying208
  a46:=Tryz.isAgg208
  z46:=Tryz.sizeOf208
  v46:=Tryz.zeroValue208
  t51:=Tryz.underlying274
  a51:=Tryz.isAgg274
  z51:=Tryz.sizeOf274
  v51:=Tryz.zeroValue274
  t53:=Tryz.underlying49
  a53:=Tryz.isAgg49
  z53:=Tryz.sizeOf49
  v53:=Tryz.zeroValue49
  t171:=Tryz.underlying253
  a171:=Tryz.isAgg253
  z171:=Tryz.sizeOf253
  v171:=Tryz.zeroValue253
  t173:=Tryz.underlying256
  a173:=Tryz.isAgg256
  z173:=Tryz.sizeOf256
  v173:=Tryz.zeroValue256
  t212:=Tryz.underlying273
  a212:=Tryz.isAgg273
  z212:=Tryz.sizeOf273
  v212:=Tryz.zeroValue273
  t213:=Tryz.underlying275
  a213:=Tryz.isAgg275
  z213:=Tryz.sizeOf275
  t232:=Tryz.underlying292
  a232:=Tryz.isAgg292
  z232:=Tryz.sizeOf292
  v232:=Tryz.zeroValue292
  t233:=Tryz.underlying277
  a233:=Tryz.isAgg277
  z233:=Tryz.sizeOf277
  v233:=Tryz.zeroValue277
  g17:=by kernel_rfl
  g18:=by kernel_rfl
  g19:=by kernel_rfl
  i0:=by kernel_rfl
  i2:=by kernel_rfl
  i3:=by kernel_rfl
  i4:=by kernel_rfl
  i5:=by kernel_rfl
  i9:=by kernel_rfl
  i20:=by kernel_rfl
  i37:=by kernel_rfl
  i46:=by kernel_rfl
  i51:=by kernel_rfl
  i53:=by kernel_rfl
  i171:=by kernel_rfl
  i173:=by kernel_rfl
  i212:=by kernel_rfl
  i232:=by kernel_rfl
  i233:=by kernel_rfl
  m17:=by kernel_rfl
  m18:=by kernel_rfl
  m19:=by kernel_rfl }
open Go.RowKit Go.Sort Go.Lib in
theorem Tryz.strconv_FormatInt_10 (n : Int) (h0 : -9223372036854775808 ≤ n) (h1 : n ≤ 9223372036854775807) (w : World) (htab : Lib.TabIs Tryz.prog w "internal/strconv.uint64pow10" .u64 Lib.pow10Tab) :
    Calls Tryz.prog 176 #[.int .i64 n,.int .i64 10] w fun e w'=>e=.returned (.string ⟨(Lib.itoa n).toArray⟩)∧∃ k os,w'=grow (w.drewN k) os:=Any.strconv_FormatInt_10 Tryz.laysM173 n h0 h1 w htab
def Tryz.laysM316_ren:Go.Shelf.Ren:=⟨fun | 316=>222 | n=>n,fun | 9=>9 | 3=>3 | 4=>4 | 37=>77 | 0=>0 | 127=>109 | 5=>5 | n=>n,fun | n=>n⟩
theorem Tryz.laysM316:Go.Proofs.LaysM.n316 Tryz.prog Tryz.laysM316_ren:={
  mixed:=by kernel_rfl
  f316:=Tryz.func222.trans (congrArg some (by kernel_rfl))
  t0:=Tryz.underlying0
  a0:=Tryz.isAgg0
  z0:=Tryz.sizeOf0
  v0:=Tryz.zeroValue0
  t3:=Tryz.underlying3
  a3:=Tryz.isAgg3
  z3:=Tryz.sizeOf3
  v3:=Tryz.zeroValue3
  t4:=Tryz.underlying4
  a4:=Tryz.isAgg4
  z4:=Tryz.sizeOf4
  v4:=Tryz.zeroValue4
  t9:=Tryz.underlying9
  a9:=Tryz.isAgg9
  z9:=Tryz.sizeOf9
  v9:=Tryz.zeroValue9
  t37:=Tryz.underlying77
  a37:=Tryz.isAgg77
  z37:=Tryz.sizeOf77
  v37:=Tryz.zeroValue77
  t127:=Tryz.underlying109
  a127:=Tryz.isAgg109
  z127:=Tryz.sizeOf109
  v127:=Tryz.zeroValue109
  t5:=Tryz.underlying5
  a5:=Tryz.isAgg5
  z5:=Tryz.sizeOf5
  v5:=Tryz.zeroValue5
  i0:=by kernel_rfl
  i3:=by kernel_rfl
  i4:=by kernel_rfl
  i5:=by kernel_rfl
  i9:=by kernel_rfl
  i37:=by kernel_rfl
  i127:=by kernel_rfl }
open Go.RowKit in
theorem Tryz.stringslite_Clone (s:ByteArray) (w:World) (hlim:s.size≤281474976710656) :
    Calls Tryz.prog 222 #[.string s] w fun e w'=>e=.returned (.string s)∧Below w.heap.size w w':=Any.stringslite_Clone Tryz.laysM316 s w hlim
def Tryz.laysC174_ren:Go.Shelf.Ren:=⟨fun | 174=>252 | 247=>268 | 245=>269 | 287=>272 | 279=>273 | 280=>274 | 281=>275 | 282=>276 | 321=>277 | 322=>278 | 316=>222 | 171=>112 | 205=>279 | 243=>161 | 246=>198 | 283=>230 | 284=>231 | 285=>232 | 286=>233 | 129=>257 | 317=>256 | 318=>258 | 319=>259 | 320=>260 | 337=>270 | 338=>237 | n=>n,fun | 9=>9 | 3=>3 | 2=>2 | 75=>136 | 85=>270 | 4=>4 | 167=>286 | 5=>5 | 53=>49 | 175=>287 | 46=>208 | 168=>289 | 37=>77 | 0=>0 | 210=>295 | 21=>21 | 127=>109 | 145=>299 | 143=>297 | 171=>253 | 173=>256 | 212=>273 | 51=>274 | 20=>20 | 213=>275 | 232=>292 | 233=>277 | 80=>83 | n=>n,fun | 15=>5 | 16=>6 | 17=>1 | 18=>3 | 19=>2 | n=>n⟩
theorem Tryz.laysC174:Go.Proofs.LaysC.n174 Tryz.prog Tryz.laysC174_ren:={
  mixed:=by kernel_rfl
  f129:=Tryz.func257.trans (congrArg some (by kernel_rfl))
  f171:=Tryz.func112.trans (congrArg some (by kernel_rfl))
  f174:=Tryz.func252.trans (congrArg some (by kernel_rfl))
  f205:=Tryz.func279.trans (congrArg some (by kernel_rfl))
  f243:=Tryz.func161.trans (congrArg some (by kernel_rfl))
  f245:=Tryz.func269.trans (congrArg some (by kernel_rfl))
  f246:=Tryz.func198.trans (congrArg some (by kernel_rfl))
  f247:=Tryz.func268.trans (congrArg some (by kernel_rfl))
  f279:=Tryz.func273.trans (congrArg some (by kernel_rfl))
  f280:=Tryz.func274.trans (congrArg some (by kernel_rfl))
  f281:=Tryz.func275.trans (congrArg some (by kernel_rfl))
  f282:=Tryz.func276.trans (congrArg some (by kernel_rfl))
  f283:=Tryz.func230.trans (congrArg some (by kernel_rfl))
  f284:=Tryz.func231.trans (congrArg some (by kernel_rfl))
  f285:=Tryz.func232.trans (congrArg some (by kernel_rfl))
  f286:=Tryz.func233.trans (congrArg some (by kernel_rfl))
  f287:=Tryz.func272.trans (congrArg some (by kernel_rfl))
  f316:=Tryz.func222.trans (congrArg some (by kernel_rfl))
  f317:=Tryz.func256.trans (congrArg some (by kernel_rfl))
  f318:=Tryz.func258.trans (congrArg some (by kernel_rfl))
  f319:=Tryz.func259.trans (congrArg some (by kernel_rfl))
  f320:=Tryz.func260.trans (congrArg some (by kernel_rfl))
  f321:=Tryz.func277.trans (congrArg some (by kernel_rfl))
  f322:=Tryz.func278.trans (congrArg some (by kernel_rfl))
  f337:=Tryz.func270.trans (congrArg some (by kernel_rfl))
  f338:=Tryz.func237.trans (congrArg some (by kernel_rfl))
  t0:=Tryz.underlying0
  a0:=Tryz.isAgg0
  z0:=Tryz.sizeOf0
  v0:=Tryz.zeroValue0
  t2:=Tryz.underlying2
  a2:=Tryz.isAgg2
  z2:=Tryz.sizeOf2
  v2:=Tryz.zeroValue2
  t3:=Tryz.underlying3
  a3:=Tryz.isAgg3
  z3:=Tryz.sizeOf3
  v3:=Tryz.zeroValue3
  t4:=Tryz.underlying4
  a4:=Tryz.isAgg4
  z4:=Tryz.sizeOf4
  v4:=Tryz.zeroValue4
  t5:=Tryz.underlying5
  a5:=Tryz.isAgg5
  z5:=Tryz.sizeOf5
  v5:=Tryz.zeroValue5
  t9:=Tryz.underlying9
  a9:=Tryz.isAgg9
  z9:=Tryz.sizeOf9
  v9:=Tryz.zeroValue9
  t20:=Tryz.underlying20
  a20:=Tryz.isAgg20
  z20:=Tryz.sizeOf20
  v20:=Tryz.zeroValue20
  t21:=Tryz.underlying21
  a21:=Tryz.isAgg21
  z21:=Tryz.sizeOf21
  v21:=Tryz.zeroValue21
  t37:=Tryz.underlying77
  a37:=Tryz.isAgg77
  z37:=Tryz.sizeOf77
  v37:=Tryz.zeroValue77
  t46:=Tryz.underlying208
  a46:=Tryz.isAgg208
  z46:=Tryz.sizeOf208
  v46:=Tryz.zeroValue208
  t51:=Tryz.underlying274
  a51:=Tryz.isAgg274
  z51:=Tryz.sizeOf274
  v51:=Tryz.zeroValue274
  t53:=Tryz.underlying49
  a53:=Tryz.isAgg49
  z53:=Tryz.sizeOf49
  v53:=Tryz.zeroValue49
  t75:=Tryz.underlying136
  a75:=Tryz.isAgg136
  z75:=Tryz.sizeOf136
  v75:=Tryz.zeroValue136
  t85:=Tryz.underlying270
  a85:=Tryz.isAgg270
  z85:=Tryz.sizeOf270
  v85:=Tryz.zeroValue270
  t127:=Tryz.underlying109
  a127:=Tryz.isAgg109
  z127:=Tryz.sizeOf109
  v127:=Tryz.zeroValue109
  t143:=Tryz.underlying297
  a143:=Tryz.isAgg297
  z143:=Tryz.sizeOf297
  v143:=Tryz.zeroValue297
  t145:=Tryz.underlying299
  a145:=Tryz.isAgg299
  z145:=Tryz.sizeOf299
  v145:=Tryz.zeroValue299
  t167:=Tryz.underlying286
  a167:=Tryz.isAgg286
  z167:=Tryz.sizeOf286
  v167:=Tryz.zeroValue286
  t168:=Tryz.underlying289
  a168:=Tryz.isAgg289
  z168:=Tryz.sizeOf289
  v168:=Tryz.zeroValue289
  t171:=Tryz.underlying253
  a171:=Tryz.isAgg253
  z171:=Tryz.sizeOf253
  v171:=Tryz.zeroValue253
  t173:=Tryz.underlying256
  a173:=Tryz.isAgg256
  z173:=Tryz.sizeOf256
  v173:=Tryz.zeroValue256
  t175:=Tryz.underlying287
  a175:=Tryz.isAgg287
  z175:=Tryz.sizeOf287
  v175:=Tryz.zeroValue287
  t210:=Tryz.underlying295
  a210:=Tryz.isAgg295
  z210:=Tryz.sizeOf295
  v210:=Tryz.zeroValue295
  t212:=Tryz.underlying273
  a212:=Tryz.isAgg273
  z212:=Tryz.sizeOf273
  v212:=Tryz.zeroValue273
  t213:=Tryz.underlying275
  a213:=Tryz.isAgg275
  z213:=Tryz.sizeOf275
  t232:=Tryz.underlying292
  a232:=Tryz.isAgg292
  z232:=Tryz.sizeOf292
  v232:=Tryz.zeroValue292
  t233:=Tryz.underlying277
  a233:=Tryz.isAgg277
  z233:=Tryz.sizeOf277
  v233:=Tryz.zeroValue277
  g15:=by kernel_rfl
  g16:=by kernel_rfl
  g17:=by kernel_rfl
  g18:=by kernel_rfl
  g19:=by kernel_rfl
  t80:=Tryz.underlying83
  a80:=Tryz.isAgg83
  z80:=Tryz.sizeOf83
  v80:=Tryz.zeroValue83
  i0:=by kernel_rfl
  i2:=by kernel_rfl
  i3:=by kernel_rfl
  i4:=by kernel_rfl
  i5:=by kernel_rfl
  i9:=by kernel_rfl
  i20:=by kernel_rfl
  i21:=by kernel_rfl
  i37:=by kernel_rfl
  i46:=by kernel_rfl
  i51:=by kernel_rfl
  i53:=by kernel_rfl
  i75:=by kernel_rfl
  i80:=by kernel_rfl
  i85:=by kernel_rfl
  i127:=by kernel_rfl
  i143:=by kernel_rfl
  i145:=by kernel_rfl
  i167:=by kernel_rfl
  i168:=by kernel_rfl
  i171:=by kernel_rfl
  i173:=by kernel_rfl
  i175:=by kernel_rfl
  i210:=by kernel_rfl
  i212:=by kernel_rfl
  i232:=by kernel_rfl
  i233:=by kernel_rfl
  m15:=by kernel_rfl
  m16:=by kernel_rfl
  m17:=by kernel_rfl
  m18:=by kernel_rfl
  m19:=by kernel_rfl
  c0:=by kernel_rfl
  c2:=by kernel_rfl
  c3:=by kernel_rfl
  c4:=by kernel_rfl
  c5:=by kernel_rfl
  c9:=by kernel_rfl
  c20:=by kernel_rfl
  c21:=by kernel_rfl
  c37:=by kernel_rfl
  c46:=by kernel_rfl
  c51:=by kernel_rfl
  c53:=by kernel_rfl
  c75:=by kernel_rfl
  c80:=by kernel_rfl
  c85:=by kernel_rfl
  c127:=by kernel_rfl
  c143:=by kernel_rfl
  c145:=by kernel_rfl
  c167:=by kernel_rfl
  c168:=by kernel_rfl
  c171:=by kernel_rfl
  c173:=by kernel_rfl
  c175:=by kernel_rfl
  c210:=by kernel_rfl
  c212:=by kernel_rfl
  c213:=by kernel_rfl
  c232:=by kernel_rfl
  c233:=by kernel_rfl }
open Go.RowKit in
theorem Tryz.strconv_ParseInt_10_at64_ok (s:ByteArray) (hmax:s.size≤9223372036854775806) (v:Int) (h:Lib.parseIntB 64 s.data.toList=.ok v) (w:World) :
    Calls Tryz.prog 252 #[.string s,.int .i64 10,.int .i64 64] w fun e w'=>e=.returned (.tuple #[.int .i64 v,.nilIface])∧(w'=w ∨ ∃ t,w'=Lib.bytesWorld w 5 t):=Any.strconv_ParseInt_10_at64_ok Tryz.laysC174 s hmax v h w
open Go.RowKit in
theorem Tryz.strconv_ParseInt_10_at64_range (s:ByteArray) (hlim:s.size≤281474976710656) (h:Lib.parseIntB 64 s.data.toList=.range) (ev:Value) (w:World) (hv:w.cell? ⟨6,0,none⟩=some ev) (hev:ev=.nilIface ∨ ∃ te pe,ev=.iface te pe) :
    Calls Tryz.prog 252 #[.string s,.int .i64 10,.int .i64 64] w fun e w'=>∃ N,e=.returned (.tuple #[.int .i64 (Lib.intSat 64 s.data.toList),.iface 289 (.pointer (some ⟨N,0,none⟩))])∧w.heap.size≤N∧w'.heap[N]?=some (.cells #[.string ⟨#[80,97,114,115,101,73,110,116]⟩,.string s,ev] 295 (0,0))∧Below w.heap.size w w':=Any.strconv_ParseInt_10_at64_range Tryz.laysC174 s hlim h ev w hv hev
def Tryz.lays105_ren:Go.Shelf.Ren:=⟨fun | 105=>205 | 212=>239 | 99=>240 | 165=>241 | 166=>83 | 170=>103 | 169=>34 | 263=>263 | 264=>264 | 206=>265 | 240=>141 | 241=>266 | 276=>179 | 277=>271 | n=>n,fun | 9=>9 | 3=>3 | 4=>4 | 20=>20 | 0=>0 | 46=>208 | 109=>259 | 5=>5 | 72=>79 | 76=>137 | 51=>274 | 146=>278 | 53=>49 | 148=>280 | 70=>76 | 37=>77 | 75=>136 | 127=>109 | 164=>219 | 80=>83 | n=>n,fun | n=>n⟩
theorem Tryz.lays105:Go.Proofs.Lays.n105 Tryz.prog Tryz.lays105_ren:={
  mixed:=by kernel_rfl
  f99:=Tryz.func240.trans (congrArg some (by kernel_rfl))
  f105:=Tryz.func205.trans (congrArg some (by kernel_rfl))
  f165:=Tryz.func241.trans (congrArg some (by kernel_rfl))
  f166:=Tryz.func83.trans (congrArg some (by kernel_rfl))
  f169:=Tryz.func34.trans (congrArg some (by kernel_rfl))
  f170:=Tryz.func103.trans (congrArg some (by kernel_rfl))
  f206:=Tryz.func265.trans (congrArg some (by kernel_rfl))
  f212:=Tryz.func239.trans (congrArg some (by kernel_rfl))
  f240:=Tryz.func141.trans (congrArg some (by kernel_rfl))
  f241:=Tryz.func266.trans (congrArg some (by kernel_rfl))
  f263:=Tryz.func263.trans (congrArg some (by kernel_rfl))
  f264:=Tryz.func264.trans (congrArg some (by kernel_rfl))
  f276:=Tryz.func179.trans (congrArg some (by kernel_rfl))
  f277:=Tryz.func271.trans (congrArg some (by kernel_rfl))
  t0:=Tryz.underlying0
  a0:=Tryz.isAgg0
  z0:=Tryz.sizeOf0
  v0:=Tryz.zeroValue0
  t3:=Tryz.underlying3
  a3:=Tryz.isAgg3
  z3:=Tryz.sizeOf3
  v3:=Tryz.zeroValue3
  t4:=Tryz.underlying4
  a4:=Tryz.isAgg4
  z4:=Tryz.sizeOf4
  v4:=Tryz.zeroValue4
  t5:=Tryz.underlying5
  a5:=Tryz.isAgg5
  z5:=Tryz.sizeOf5
  v5:=Tryz.zeroValue5
  t9:=Tryz.underlying9
  a9:=Tryz.isAgg9
  z9:=Tryz.sizeOf9
  v9:=Tryz.zeroValue9
  t20:=Tryz.underlying20
  a20:=Tryz.isAgg20
  z20:=Tryz.sizeOf20
  v20:=Tryz.zeroValue20
  t37:=Tryz.underlying77
  a37:=Tryz.isAgg77
  z37:=Tryz.sizeOf77
  v37:=Tryz.zeroValue77
  t46:=Tryz.underlying208
  a46:=Tryz.isAgg208
  z46:=Tryz.sizeOf208
  v46:=Tryz.zeroValue208
  t51:=Tryz.underlying274
  a51:=Tryz.isAgg274
  z51:=Tryz.sizeOf274
  v51:=Tryz.zeroValue274
  t53:=Tryz.underlying49
  a53:=Tryz.isAgg49
  z53:=Tryz.sizeOf49
  v53:=Tryz.zeroValue49
  t70:=Tryz.underlying76
  a70:=Tryz.isAgg76
  z70:=Tryz.sizeOf76
  v70:=Tryz.zeroValue76
  t72:=Tryz.underlying79
  a72:=Tryz.isAgg79
  z72:=Tryz.sizeOf79
  v72:=Tryz.zeroValue79
  t75:=Tryz.underlying136
  a75:=Tryz.isAgg136
  z75:=Tryz.sizeOf136
  v75:=Tryz.zeroValue136
  t76:=Tryz.underlying137
  a76:=Tryz.isAgg137
  z76:=Tryz.sizeOf137
  v76:=Tryz.zeroValue137
  t109:=Tryz.underlying259
  a109:=Tryz.isAgg259
  z109:=Tryz.sizeOf259
  v109:=Tryz.zeroValue259
  t127:=Tryz.underlying109
  a127:=Tryz.isAgg109
  z127:=Tryz.sizeOf109
  v127:=Tryz.zeroValue109
  t146:=Tryz.underlying278
  a146:=Tryz.isAgg278
  z146:=Tryz.sizeOf278
  v146:=Tryz.zeroValue278
  t148:=Tryz.underlying280
  a148:=Tryz.isAgg280
  z148:=Tryz.sizeOf280
  v148:=Tryz.zeroValue280
  t164:=Tryz.underlying219
  a164:=Tryz.isAgg219
  z164:=Tryz.sizeOf219
  v164:=Tryz.zeroValue219 }
theorem Tryz.Builder_Extra_105:Builder.Extra Tryz.prog Tryz.lays105_ren:={
  sizeBuilder:=by kernel_rfl
  liesBuilder:=by kernel_rfl
  t5:=Tryz.underlying5
  a5:=Tryz.isAgg5
  z5:=Tryz.sizeOf5
  v5:=Tryz.zeroValue5
  infoByte:=by kernel_rfl
  cellsByte:=by kernel_rfl
  sizeByte:=by kernel_rfl
  neB5:=by decide }
open Go.RowKit Go.Lib in
theorem Tryz.strings_Repeat (s:ByteArray) (c:Nat) (w:World) (hc:c≤9223372036854775807) (hlen:s.size * c≤140737488355328) :
    Calls Tryz.prog 205 #[.string s,.int .i64 c] w fun e w'=>e=.returned (.string ⟨(Lib.repeatL s.data.toList c).toArray⟩)∧Below w.heap.size w w':=Any.strings_Repeat Tryz.lays105 Tryz.Builder_Extra_105 s c w hc hlen
def Tryz.lays110_ren:Go.Shelf.Ren:=⟨fun | 110=>235 | 109=>224 | n=>n,fun | 31=>22 | 9=>9 | 4=>4 | 3=>3 | 0=>0 | n=>n,fun | n=>n⟩
theorem Tryz.lays110:Go.Proofs.Lays.n110 Tryz.prog Tryz.lays110_ren:={
  mixed:=by kernel_rfl
  f109:=Tryz.func224.trans (congrArg some (by kernel_rfl))
  f110:=Tryz.func235.trans (congrArg some (by kernel_rfl))
  t0:=Tryz.underlying0
  a0:=Tryz.isAgg0
  z0:=Tryz.sizeOf0
  v0:=Tryz.zeroValue0
  t3:=Tryz.underlying3
  a3:=Tryz.isAgg3
  z3:=Tryz.sizeOf3
  v3:=Tryz.zeroValue3
  t4:=Tryz.underlying4
  a4:=Tryz.isAgg4
  z4:=Tryz.sizeOf4
  v4:=Tryz.zeroValue4
  t9:=Tryz.underlying9
  a9:=Tryz.isAgg9
  z9:=Tryz.sizeOf9
  v9:=Tryz.zeroValue9
  t31:=Tryz.underlying22
  a31:=Tryz.isAgg22
  z31:=Tryz.sizeOf22
  v31:=Tryz.zeroValue22 }
open Go.Lib in
theorem Tryz.slices_Contains_string (b off n c:Nat) (zs:List ByteArray) (x:ByteArray) (w:World) (hz:n≤zs.length) (hbig:n≤9223372036854775807) (hc:∀ j,j<zs.length→w.cell? ⟨b,off+j,none⟩=some (.string (zs.getD j ByteArray.empty))) :
    Calls Tryz.prog 235 #[.slice (some ⟨b,off,none⟩) n c,.string x] w fun e w'=>e=.returned (.bool (Lib.containsS (zs.take n) x))∧w'=w:=Any.slices_Contains_string Tryz.lays110 b off n c zs x w hz hbig hc
end Go.Proofs
namespace Go.Proofs.YtpcniebkabkikaaGreatDoor
open Go Go.RowKit
def Env (w:World):Prop:=∃ te pe,w.cell? ⟨6,0,none⟩=some (.iface te pe)
theorem Env.lt {w:World} (h:Env w):6<w.heap.size:=by
  obtain ⟨te,pe,h⟩:=h
  exact World.block_lt_of_cell? _ _ h
theorem Env.below {B:Nat} {w w':World} (h:Env w) (hb:Below B w w') (hB:6<B):Env w':=by
  obtain ⟨te,pe,h⟩:=h
  exact ⟨te,pe,(hb.cell (p:=⟨6,0,none⟩) hB).trans h⟩
abbrev tokV (k:Int) (t:ByteArray) (v a:Int):Value:=.agg #[.int .i64 k,.string t,.int .i64 v,.int .i64 a]
set_option maxRecDepth 100000 in
theorem name_key (s:ByteArray) (h:bl s ∈ keysL) (w:World):Calls Tryz.prog 216 #[.string s] w fun e w'=>e=.returned (.tuple #[tokV 2 s 0 0,.int .i64 0])∧Below w.heap.size w w':=by
  go_enter Tryz.func216,Tryz.ntmps216
  go_wp2_with (go_at_call 251;refine (isKeyword_yes s h _).mono ?_;rintro e w' ⟨rfl,rfl⟩)
  exact bodyPost_ret (v:=.tuple #[tokV 2 s 0 0,.int .i64 0]) (by simp [results,Tryz.results216,go_sem]) rfl ⟨rfl,by first | exact ((Below.refl _ _).alloc (Nat.le_refl _) _)⟩
set_option maxRecDepth 100000 in
theorem name_long (s:ByteArray) (h:bl s ∉ keysL) (hl:32<s.size) (w:World):Calls Tryz.prog 216 #[.string s] w fun e w'=>e=.returned (.tuple #[tokV 0 ⟨#[]⟩ 0 0,.int .i64 3])∧Below w.heap.size w w':=by
  go_enter Tryz.func216,Tryz.ntmps216
  go_wp2_with (go_at_call 251;refine (isKeyword_no s h _).mono ?_;rintro e w' ⟨rfl,rfl⟩)
  exact bodyPost_ret (v:=.tuple #[tokV 0 ⟨#[]⟩ 0 0,.int .i64 3]) (by simp [results,Tryz.results216,go_sem]) rfl ⟨rfl,(Below.refl _ _).alloc (Nat.le_refl _) _⟩
set_option maxRecDepth 100000 in
theorem name_ok (s:ByteArray) (h:bl s ∉ keysL) (hl:s.size≤32) (w:World):Calls Tryz.prog 216 #[.string s] w fun e w'=>e=.returned (.tuple #[tokV 1 s 0 0,.int .i64 0])∧Below w.heap.size w w':=by
  go_enter Tryz.func216,Tryz.ntmps216
  go_wp2_with (go_at_call 251;refine (isKeyword_no s h _).mono ?_;rintro e w' ⟨rfl,rfl⟩)
  exact bodyPost_ret (v:=.tuple #[tokV 1 s 0 0,.int .i64 0]) (by simp [results,Tryz.results216,go_sem]) rfl ⟨rfl,(Below.refl _ _).alloc (Nat.le_refl _) _⟩
theorem parse_ok (s:ByteArray) (h0:0<s.size) (hd:∀ x ∈ bl s,digitB x=true) (hs:s.size≤281474976710656) (hv:valD (bl s)≤most) (w:World) :
    Calls Tryz.prog 252 #[.string s,.int .i64 10,.int .i64 64] w fun e w'=>e=.returned (.tuple #[.int .i64 ((valD (bl s):Nat):Int),.nilIface])∧Below w.heap.size w w':=by
  have hne:s.data.toList ≠ []:=by
    intro e
    rw [← bl_length,bl,e] at h0
    exact absurd h0 (by simp)
  have hp:=parse_digits s.data.toList hne hd
  change _=if valD (bl s)≤most then Lib.NumEnd.ok ((valD (bl s):Nat):Int) else _ at hp
  rw [if_pos hv] at hp
  refine (Tryz.strconv_ParseInt_10_at64_ok s (by omega) _ hp w).mono ?_
  rintro e w' ⟨rfl,rfl | ⟨t,rfl⟩⟩
  · exact ⟨rfl,Below.refl _ _⟩
  · exact ⟨rfl,Lib.bytesWorld_below _ _ _⟩
theorem parse_big (s:ByteArray) (h0:0<s.size) (hd:∀ x ∈ bl s,digitB x=true) (hs:s.size≤281474976710656) (hv:most<valD (bl s)) (w:World) (hE:Env w) :
    Calls Tryz.prog 252 #[.string s,.int .i64 10,.int .i64 64] w fun e w'=>∃ z N,e=.returned (.tuple #[.int .i64 z,.iface 289 (.pointer (some ⟨N,0,none⟩))])∧Below w.heap.size w w':=by
  have hne:s.data.toList ≠ []:=by
    intro e
    rw [← bl_length,bl,e] at h0
    exact absurd h0 (by simp)
  have hp:=parse_digits s.data.toList hne hd
  change _=if valD (bl s)≤most then Lib.NumEnd.ok ((valD (bl s):Nat):Int) else _ at hp
  rw [if_neg (by omega)] at hp
  obtain ⟨te,pe,hE⟩:=hE
  refine (Tryz.strconv_ParseInt_10_at64_range s hs hp _ w hE (.inr ⟨te,pe,rfl⟩)).mono ?_
  rintro e w' ⟨N,rfl,_,_,hb⟩
  exact ⟨_,N,rfl,hb⟩
structure TokAt (w:World) (g:Nat) (k:Int) (t:ByteArray) (v a:Int):Prop where
  c0:w.cell? ⟨g,0,none⟩=some (.int .i64 k)
  c1:w.cell? ⟨g,1,none⟩=some (.string t)
  c2:w.cell? ⟨g,2,none⟩=some (.int .i64 v)
  c3:w.cell? ⟨g,3,none⟩=some (.int .i64 a)
  f0:w.frozen? ⟨g,0,none⟩=false
  f1:w.frozen? ⟨g,1,none⟩=false
  f2:w.frozen? ⟨g,2,none⟩=false
  f3:w.frozen? ⟨g,3,none⟩=false
theorem TokAt.new (w:World) (k:Int) (t:ByteArray) (v a:Int) (T:TypeId):TokAt (w.alloc (.cells #[.int .i64 k,.string t,.int .i64 v,.int .i64 a] T)) w.heap.size k t v a :=
  ⟨by simp [go_sem],by simp [go_sem],by simp [go_sem],by simp [go_sem],by simp [go_sem],by simp [go_sem],by simp [go_sem],by simp [go_sem]⟩
theorem TokAt.below {w w':World} {B g:Nat} {k:Int} {t:ByteArray} {v a:Int} (h:TokAt w g k t v a) (hb:Below B w w') (hg:g<B):TokAt w' g k t v a :=
  ⟨(hb.cell (p:=⟨g,0,none⟩) hg).trans h.c0,(hb.cell (p:=⟨g,1,none⟩) hg).trans h.c1,(hb.cell (p:=⟨g,2,none⟩) hg).trans h.c2,(hb.cell (p:=⟨g,3,none⟩) hg).trans h.c3,
   (hb.frozen (p:=⟨g,0,none⟩) hg).trans h.f0,(hb.frozen (p:=⟨g,1,none⟩) hg).trans h.f1,(hb.frozen (p:=⟨g,2,none⟩) hg).trans h.f2,(hb.frozen (p:=⟨g,3,none⟩) hg).trans h.f3⟩
theorem TokAt.lt {w:World} {g:Nat} {k:Int} {t:ByteArray} {v a:Int} (h:TokAt w g k t v a):g<w.heap.size:=World.block_lt_of_cell? _ _ h.c0
theorem set4 {w w1:World} (hB:Below w.heap.size w w1) {g:Nat} (hg:w.heap.size≤g) (x0 x1 x2 x3:Value) :
    Below w.heap.size w ((((w1.setCell ⟨g,0,none⟩ x0).setCell ⟨g,1,none⟩ x1).setCell ⟨g,2,none⟩ x2).setCell ⟨g,3,none⟩ x3) :=
  (((hB.setCell (p:=⟨g,0,none⟩) hg _).setCell (p:=⟨g,1,none⟩) hg _).setCell (p:=⟨g,2,none⟩) hg _).setCell (p:=⟨g,3,none⟩) hg _
set_option maxRecDepth 100000 in
theorem number_ok (s:ByteArray) (h0:0<s.size) (hd:∀ x ∈ bl s,digitB x=true) (hs:s.size≤281474976710656) (hv:valD (bl s)≤most) (w:World) :
    Calls Tryz.prog 220 #[.string s] w fun e w'=>e=.returned (.tuple #[tokV 3 s ((valD (bl s):Nat):Int) 0,.int .i64 0])∧Below w.heap.size w w':=by
  have hcall:=Lib.hid (fun W=>parse_ok s h0 hd hs hv W)
  clear h0 hd hs hv
  generalize valD (bl s)=V at *
  go_enter Tryz.func220,Tryz.ntmps220
  go_wp2_with (go_at_call 252;refine (hcall.out _).mono ?_)
  rintro e w1 ⟨rfl,hb⟩
  have s1:=hb.size
  simp only [World.size_alloc] at s1
  obtain ⟨k0,k1,k2,k3,f0,f1,f2,f3⟩:=(TokAt.new w 0 ⟨#[]⟩ 0 0 151).below hb (by simp)
  have hB:Below w.heap.size w w1:=((Below.refl _ w).alloc (Nat.le_refl _) _).trans (hb.mono (by simp))
  go_wp2
  exact bodyPost_ret (v:=.tuple #[tokV 3 s (V:Int) 0,.int .i64 0]) (by simp [results,Tryz.results220,go_sem,k0,k1,k2,k3]) rfl ⟨rfl,set4 hB (Nat.le_refl _) _ _ _ _⟩
set_option maxRecDepth 100000 in
theorem number_big (s:ByteArray) (h0:0<s.size) (hd:∀ x ∈ bl s,digitB x=true) (hs:s.size≤281474976710656) (hv:most<valD (bl s)) (w:World) (hE:Env w) :
    Calls Tryz.prog 220 #[.string s] w fun e w'=>e=.returned (.tuple #[tokV 0 ⟨#[]⟩ 0 0,.int .i64 3])∧Below w.heap.size w w':=by
  have hlt:=hE.lt
  have hcall:=Lib.hid (parse_big s h0 hd hs hv _ (hE.below ((Below.refl _ w).alloc (Nat.le_refl _) (.cells #[.int .i64 0,.string ⟨#[]⟩,.int .i64 0,.int .i64 0] 151)) hlt))
  clear h0 hd hs hv
  go_enter Tryz.func220,Tryz.ntmps220
  go_wp2_with (go_at_call 252;refine (hcall.out).mono ?_)
  rintro e w1 ⟨z,N,rfl,hb⟩
  have s1:=hb.size
  simp only [World.size_alloc] at s1
  obtain ⟨k0,k1,k2,k3,f0,f1,f2,f3⟩:=(TokAt.new w 0 ⟨#[]⟩ 0 0 151).below hb (by simp)
  have hB:Below w.heap.size w w1:=((Below.refl _ w).alloc (Nat.le_refl _) _).trans (hb.mono (by simp))
  go_wp2
  exact bodyPost_ret (v:=.tuple #[tokV 0 ⟨#[]⟩ 0 0,.int .i64 3]) (by simp [results,Tryz.results220,go_sem,k0,k1,k2,k3]) rfl ⟨rfl,set4 hB (Nat.le_refl _) _ _ _ _⟩
set_option maxRecDepth 100000 in
theorem mark_two (s:ByteArray) (h2:2≤s.size) (hs:s.size≤9223372036854775806) (h:bl (s.extract 0 2) ∈ marksL) (w:World) :
    Calls Tryz.prog 221 #[.string s] w fun e w'=>e=.returned (.tuple #[tokV 4 (s.extract 0 2) 0 0,.int .i64 0])∧Below w.heap.size w w':=by
  have hcall:=Lib.hid (fun W=>isMark_yes (s.extract 0 2) h W)
  have hm:min (2:Int) (s.size:Int)=2:=by omega
  clear h
  go_enter Tryz.func221,Tryz.ntmps221
  go_wp2
  go_loop [4] (fun i=>i=.int .i64 2) (fun i=>(intOf i).toNat)
  case atStart=>rfl
  case round =>
    obtain rfl:=hrel
    go_wp2_with (go_at_call 253;refine (hcall.out _).mono ?_;rintro e w' ⟨rfl,rfl⟩)
    exact bodyPost_ret (v:=.tuple #[tokV 4 (s.extract 0 2) 0 0,.int .i64 0]) (by simp [results,Tryz.results221,go_sem]) rfl ⟨rfl,(Below.refl _ _).alloc (Nat.le_refl _) _⟩
set_option maxRecDepth 100000 in
theorem mark_one (s:ByteArray) (h1:1≤s.size) (hs:s.size≤9223372036854775806) (h:bl (s.extract 0 1) ∈ marksL) (hn:2≤s.size→bl (s.extract 0 2) ∉ marksL) (w:World) :
    Calls Tryz.prog 221 #[.string s] w fun e w'=>e=.returned (.tuple #[tokV 4 (s.extract 0 1) 0 0,.int .i64 0])∧Below w.heap.size w w':=by
  have hcall:=Lib.hid (fun W=>isMark_yes (s.extract 0 1) h W)
  have hcall2:=Lib.hid (fun (h2:2≤s.size) W=>isMark_no (s.extract 0 2) (hn h2) W)
  have hm:(∃ k:Nat,1≤k∧k≤2∧k≤s.size∧min (2:Int) (s.size:Int)=k):=by
    by_cases h2:2≤s.size
    · exact ⟨2,by omega,by omega,by omega,by omega⟩
    · exact ⟨1,by omega,by omega,by omega,by omega⟩
  obtain ⟨k0,hk1,hk2,hk3,hm⟩:=hm
  clear h hn
  go_enter Tryz.func221,Tryz.ntmps221
  go_wp2
  go_loop [4] (fun i=>∃ k:Nat,1≤k∧k≤2∧k≤s.size∧i=.int .i64 k) (fun i=>(intOf i).toNat)
  case atStart=>exact ⟨k0,hk1,hk2,hk3,rfl⟩
  case round =>
    clear hm hk1 hk2 hk3
    obtain ⟨k,hk1,hk2,hk3,rfl⟩:=hrel
    by_cases h2:k=2
    · subst h2
      have hc:=hcall2.out hk3
      go_wp2_with (go_at_call 253;refine (hc _).mono ?_;rintro e w' ⟨rfl,rfl⟩)
      go_round
      case rel=>exact ⟨1,by omega,by omega,by omega,by go_num⟩
      case measure=>simp [intOf]
    · obtain rfl:k=1:=by omega
      go_wp2_with (go_at_call 253;refine (hcall.out _).mono ?_;rintro e w' ⟨rfl,rfl⟩)
      exact bodyPost_ret (v:=.tuple #[tokV 4 (s.extract 0 1) 0 0,.int .i64 0]) (by simp [results,Tryz.results221,go_sem]) rfl ⟨rfl,(Below.refl _ _).alloc (Nat.le_refl _) _⟩
set_option maxRecDepth 100000 in
theorem mark_no (s:ByteArray) (h1:1≤s.size) (hs:s.size≤9223372036854775806) (h:bl (s.extract 0 1) ∉ marksL) (hn:2≤s.size→bl (s.extract 0 2) ∉ marksL) (w:World) :
    Calls Tryz.prog 221 #[.string s] w fun e w'=>e=.returned (.tuple #[tokV 0 ⟨#[]⟩ 0 0,.int .i64 40])∧Below w.heap.size w w':=by
  have hcall:=Lib.hid (fun W=>isMark_no (s.extract 0 1) h W)
  have hcall2:=Lib.hid (fun (h2:2≤s.size) W=>isMark_no (s.extract 0 2) (hn h2) W)
  have hm:(∃ k:Nat,k≤2∧k≤s.size∧min (2:Int) (s.size:Int)=k):=by
    by_cases h2:2≤s.size
    · exact ⟨2,by omega,by omega,by omega⟩
    · exact ⟨1,by omega,by omega,by omega⟩
  obtain ⟨k0,hk2,hk3,hm⟩:=hm
  clear h hn
  go_enter Tryz.func221,Tryz.ntmps221
  go_wp2
  go_loop [4] (fun i=>∃ k:Nat,k≤2∧k≤s.size∧i=.int .i64 k) (fun i=>(intOf i).toNat)
  case atStart=>exact ⟨k0,hk2,hk3,rfl⟩
  case round =>
    clear hm hk2 hk3
    obtain ⟨k,hk2,hk3,rfl⟩:=hrel
    by_cases h2:k=2
    · subst h2
      have hc:=hcall2.out hk3
      go_wp2_with (go_at_call 253;refine (hc _).mono ?_;rintro e w' ⟨rfl,rfl⟩)
      go_round
      case rel=>exact ⟨1,by omega,by omega,by go_num⟩
      case measure=>simp [intOf]
    by_cases h1':k=1
    · subst h1'
      go_wp2_with (go_at_call 253;refine (hcall.out _).mono ?_;rintro e w' ⟨rfl,rfl⟩)
      go_round
      case rel=>exact ⟨0,by omega,by omega,by go_num⟩
      case measure=>simp [intOf]
    · obtain rfl:k=0:=by omega
      go_wp2
      exact bodyPost_ret (v:=.tuple #[tokV 0 ⟨#[]⟩ 0 0,.int .i64 40]) (by simp [results,Tryz.results221,go_sem]) rfl ⟨rfl,(Below.refl _ _).alloc (Nat.le_refl _) _⟩
end Go.Proofs.YtpcniebkabkikaaGreatDoor
namespace Go.Proofs.YtpcniebkabkikaaGreatDoor
open Go Go.RowKit
def TokRes (W:World) (k:Int) (t:ByteArray) (v er:Int) (e:Ending) (W':World):Prop:=e=.returned (.tuple #[tokV k t v 0,.int .i64 er])∧Below W.heap.size W W'
theorem below_box {w w1:World} {o:Obj} (hb:Below (w.alloc o).heap.size (w.alloc o) w1):Below w.heap.size w w1 :=
  ((Below.refl _ w).alloc (Nat.le_refl _) o).trans (hb.mono (by simp))
set_option maxRecDepth 100000 in
theorem first_letter (s:ByteArray) (h0:0<s.size) (hs:s.size≤9223372036854775806) (hl:letterB (s[0]).toNat=true) (k:Int) (t:ByteArray) (v er:Int) (n:Nat) (hn:((bl s).takeWhile nameB).length=n)
    (hcall:∀ W,Env W→Calls Tryz.prog 216 #[.string (s.extract 0 n)] W (TokRes W k t v er)) (w:World) (hE:Env w):Calls Tryz.prog 175 #[.string s] w (TokRes w k t v er):=by
  have hlt:=hE.lt
  have hn2:n≤s.size:=by rw [← hn,← bl_length];exact (List.takeWhile_sublist _).length_le
  have hl1:=Lib.hid (fun W=>hl ▸ isLetter_any (s[0]).toNat W)
  have hr:=Lib.hid (fun W=>hn ▸ run_name s hs W)
  have hc:=Lib.hid (hcall _ (hE.below ((Below.refl _ w).alloc (Nat.le_refl _) (.cells #[.int .i64 0,.string ⟨#[]⟩,.int .i64 0,.int .i64 0] 151)) hlt))
  clear hl hcall hn
  go_enter Tryz.func175,Tryz.ntmps175
  go_wp2_with (first | (go_at_call 215;refine (hl1.out _).mono ?_;rintro e w' ⟨rfl,rfl⟩) | (go_at_call 217;refine (hr.out _).mono ?_;rintro e w' ⟨rfl,rfl⟩) | (go_at_call 216;refine hc.out.mono ?_))
  rintro e w1 ⟨rfl,hb⟩
  have s1:=hb.size
  simp only [World.size_alloc] at s1
  obtain ⟨k0,k1,k2,k3,f0,f1,f2,f3⟩:=(TokAt.new w 0 ⟨#[]⟩ 0 0 151).below hb (by simp)
  have hB:=below_box hb
  clear hb
  go_wp2
  exact bodyPost_ret (v:=.tuple #[tokV k t v 0,.int .i64 er]) (by simp [results,Tryz.results175,go_sem,k0,k1,k2,k3]) rfl ⟨rfl,set4 hB (Nat.le_refl _) _ _ _ _⟩
set_option maxRecDepth 100000 in
theorem first_digit (s:ByteArray) (h0:0<s.size) (hs:s.size≤9223372036854775806) (hl:letterB (s[0]).toNat=false) (hd:digitB (s[0]).toNat=true) (k:Int) (t:ByteArray) (v er:Int) (n:Nat) (hn:((bl s).takeWhile digitB).length=n)
    (hcall:∀ W,Env W→Calls Tryz.prog 220 #[.string (s.extract 0 n)] W (TokRes W k t v er)) (w:World) (hE:Env w):Calls Tryz.prog 175 #[.string s] w (TokRes w k t v er):=by
  have hlt:=hE.lt
  have hn2:n≤s.size:=by rw [← hn,← bl_length];exact (List.takeWhile_sublist _).length_le
  have hl1:=Lib.hid (fun W=>hl ▸ isLetter_any (s[0]).toNat W)
  have hd1:=Lib.hid (fun W=>hd ▸ isDigit_any (s[0]).toNat W)
  have hr:=Lib.hid (fun W=>hn ▸ run_digit s hs W)
  have hc:=Lib.hid (hcall _ (hE.below ((Below.refl _ w).alloc (Nat.le_refl _) (.cells #[.int .i64 0,.string ⟨#[]⟩,.int .i64 0,.int .i64 0] 151)) hlt))
  clear hl hd hcall hn
  go_enter Tryz.func175,Tryz.ntmps175
  go_wp2_with (first | (go_at_call 215;refine (hl1.out _).mono ?_;rintro e w' ⟨rfl,rfl⟩) | (go_at_call 219;refine (hd1.out _).mono ?_;rintro e w' ⟨rfl,rfl⟩) | (go_at_call 217;refine (hr.out _).mono ?_;rintro e w' ⟨rfl,rfl⟩) | (go_at_call 220;refine hc.out.mono ?_))
  rintro e w1 ⟨rfl,hb⟩
  have s1:=hb.size
  simp only [World.size_alloc] at s1
  obtain ⟨k0,k1,k2,k3,f0,f1,f2,f3⟩:=(TokAt.new w 0 ⟨#[]⟩ 0 0 151).below hb (by simp)
  have hB:=below_box hb
  clear hb
  go_wp2
  exact bodyPost_ret (v:=.tuple #[tokV k t v 0,.int .i64 er]) (by simp [results,Tryz.results175,go_sem,k0,k1,k2,k3]) rfl ⟨rfl,set4 hB (Nat.le_refl _) _ _ _ _⟩
set_option maxRecDepth 100000 in
theorem first_mark (s:ByteArray) (h0:0<s.size) (hl:letterB (s[0]).toNat=false) (hd:digitB (s[0]).toNat=false) (k:Int) (t:ByteArray) (v er:Int)
    (hcall:∀ W,Calls Tryz.prog 221 #[.string s] W (TokRes W k t v er)) (w:World):Calls Tryz.prog 175 #[.string s] w (TokRes w k t v er):=by
  have hl1:=Lib.hid (fun W=>hl ▸ isLetter_any (s[0]).toNat W)
  have hd1:=Lib.hid (fun W=>hd ▸ isDigit_any (s[0]).toNat W)
  have hc:=Lib.hid (hcall)
  clear hl hd hcall
  go_enter Tryz.func175,Tryz.ntmps175
  go_wp2_with (first | (go_at_call 215;refine (hl1.out _).mono ?_;rintro e w' ⟨rfl,rfl⟩) | (go_at_call 219;refine (hd1.out _).mono ?_;rintro e w' ⟨rfl,rfl⟩) | (go_at_call 221;refine (hc.out _).mono ?_))
  rintro e w1 ⟨rfl,hb⟩
  have s1:=hb.size
  simp only [World.size_alloc] at s1
  obtain ⟨k0,k1,k2,k3,f0,f1,f2,f3⟩:=(TokAt.new w 0 ⟨#[]⟩ 0 0 151).below hb (by simp)
  have hB:=below_box hb
  clear hb
  go_wp2
  exact bodyPost_ret (v:=.tuple #[tokV k t v 0,.int .i64 er]) (by simp [results,Tryz.results175,go_sem,k0,k1,k2,k3]) rfl ⟨rfl,set4 hB (Nat.le_refl _) _ _ _ _⟩
theorem bl_take (s:ByteArray) (n:Nat):bl (s.extract 0 n)=(bl s).take n:=by rw [bl_extract,List.drop_zero]
theorem size_take (s:ByteArray) (n:Nat) (h:n≤s.size):(s.extract 0 n).size=n:=by rw [← bl_length,bl_take,List.length_take,bl_length];omega
theorem wordL_letter {c:Nat} {r:List Nat} (h:letterB c=true):wordL (c :: r)=(((c :: r).takeWhile nameB).length,if (c :: r).take ((c :: r).takeWhile nameB).length ∈ keysL then 2 else 1):=by rw [wordL,if_pos h]
theorem wordL_digit {c:Nat} {r:List Nat} (hl:letterB c=false) (h:digitB c=true):wordL (c :: r)=(((c :: r).takeWhile digitB).length,3):=by rw [wordL,if_neg (by rw [hl];simp),if_pos h]
theorem wordL_mark {c:Nat} {r:List Nat} (hl:letterB c=false) (h:digitB c=false):wordL (c :: r)=if (c :: r).take 2 ∈ mark2 then (2,4) else if c ∈ mark1 then (1,4) else (0,0):=by rw [wordL,if_neg (by rw [hl];simp),if_neg (by rw [h];simp)]
theorem take2_mark {l:List Nat} (h:2≤l.length):l.take 2 ∈ marksL ↔ l.take 2 ∈ mark2:=by
  match l,h with
  | a :: b :: r,_ =>
    simp only [marksL,List.mem_append,List.take_succ_cons,List.take_zero]
    constructor
    · rintro (h | h)
      · simp [mark1] at h
      · exact h
    · exact .inr
theorem take1_mark (c:Nat):[c] ∈ marksL ↔ c ∈ mark1:=by
  simp [marksL,mark1,mark2]
theorem not_mark2 {l:List Nat} (h:l.length<2):l.take 2 ∉ mark2:=by
  intro hm
  have:(l.take 2).length=2:=(show ∀ m ∈ mark2,m.length=2 by decide) _ hm
  rw [List.length_take] at this
  omega
theorem first_ok (s:ByteArray) (h0:0<s.size) (hs:s.size≤281474976710656) (h:errL (bl s)=0) (w:World) (hE:Env w) :
    Calls Tryz.prog 175 #[.string s] w (TokRes w ((wordL (bl s)).2:Nat) (s.extract 0 (wordL (bl s)).1) ((valL (bl s):Nat):Int) 0):=by
  have hg:=bl_get s 0 h0
  have hle:=wordL_le (bl s)
  rw [bl_length] at hle
  have hbt:=bl_take s (wordL (bl s)).1
  have hst:=size_take s (wordL (bl s)).1 hle
  have h1:=bl_take s 1
  have h2:=bl_take s 2
  have hlen:=bl_length s
  obtain ⟨c,hc⟩:∃ c,(s[0]).toNat=c:=⟨_,rfl⟩
  rw [hc] at hg
  obtain ⟨r,hr⟩:∃ r,bl s=c :: r:=by
    cases hb:bl s with
    | nil=>rw [hb] at hg;simp at hg
    | cons d r=>rw [hb] at hg;simp at hg;exact ⟨r,by rw [hg]⟩
  have hw0:(wordL (bl s)).1 ≠ 0:=by
    intro e;rw [errL,if_pos e] at h;exact absurd h (by decide)
  rw [errL,if_neg hw0] at h
  have hn1:¬ ((wordL (bl s)).2=1∧32<(wordL (bl s)).1):=by
    intro e;rw [if_pos e] at h;exact absurd h (by decide)
  rw [if_neg hn1] at h
  have hn2:¬ ((wordL (bl s)).2=3∧most<valD ((bl s).take (wordL (bl s)).1)):=by
    intro e;rw [if_pos e] at h;exact absurd h (by decide)
  clear h
  by_cases hl:letterB c=true
  · have hw:wordL (bl s)=(((bl s).takeWhile nameB).length,if (bl s).take ((bl s).takeWhile nameB).length ∈ keysL then 2 else 1):=by rw [hr];exact wordL_letter hl
    have hn:((bl s).takeWhile nameB).length=(wordL (bl s)).1:=by rw [hw]
    refine first_letter s h0 (by omega) (by rw [hc];exact hl) _ _ _ _ (wordL (bl s)).1 hn (fun W _=>?_) w hE
    by_cases hk:(bl s).take ((bl s).takeWhile nameB).length ∈ keysL
    · have e2:(wordL (bl s)).2=2:=by rw [hw];exact if_pos hk
      have hv:valL (bl s)=0:=by rw [valL,e2];rfl
      rw [e2,hv]
      exact name_key _ (by rw [hbt,← hn];exact hk) W
    · have e2:(wordL (bl s)).2=1:=by rw [hw];exact if_neg hk
      have hv:valL (bl s)=0:=by rw [valL,e2];rfl
      rw [e2,hv]
      exact name_ok _ (by rw [hbt,← hn];exact hk) (by rw [hst];rw [e2] at hn1;omega) W
  · have hl:letterB c=false:=by simpa using hl
    by_cases hd:digitB c=true
    · have hw:wordL (bl s)=(((bl s).takeWhile digitB).length,3):=by rw [hr];exact wordL_digit hl hd
      have hn:((bl s).takeWhile digitB).length=(wordL (bl s)).1:=by rw [hw]
      have e2:(wordL (bl s)).2=3:=by rw [hw]
      have hv:valL (bl s)=valD (bl (s.extract 0 (wordL (bl s)).1)):=by rw [valL,e2,hbt];rfl
      refine first_digit s h0 (by omega) (by rw [hc];exact hl) (by rw [hc];exact hd) _ _ _ _ (wordL (bl s)).1 hn (fun W _=>?_) w hE
      rw [e2,hv]
      refine number_ok _ (by rw [hst];omega) (fun x hx=>?_) (by rw [hst];omega) ?_ W
      · rw [hbt,← hn,takeWhile_is_take] at hx
        exact mem_takeWhile _ x hx
      · rw [hbt];rw [e2] at hn2;omega
    · have hd:digitB c=false:=by simpa using hd
      have hw:wordL (bl s)=if (bl s).take 2 ∈ mark2 then (2,4) else if c ∈ mark1 then (1,4) else (0,0):=by
        have:=wordL_mark (r:=r) hl hd
        rw [← hr] at this;exact this
      refine first_mark s h0 (by rw [hc];exact hl) (by rw [hc];exact hd) _ _ _ _ (fun W=>?_) w
      have ht1:(bl s).take 1=[c]:=by rw [hr];rfl
      by_cases hm2:(bl s).take 2 ∈ mark2
      · have hsz:2≤s.size:=by
          rw [← hlen]
          rcases Nat.lt_or_ge (bl s).length 2 with hh | hh
          · exact absurd hm2 (not_mark2 hh)
          · exact hh
        rw [if_pos hm2] at hw
        have hv:valL (bl s)=0:=by rw [valL,hw];rfl
        rw [hv,hw]
        exact mark_two s hsz (by omega) (by rw [h2];exact (take2_mark (by rw [hlen];exact hsz)).2 hm2) W
      · rw [if_neg hm2] at hw
        by_cases hm1:c ∈ mark1
        · rw [if_pos hm1] at hw
          have hv:valL (bl s)=0:=by rw [valL,hw];rfl
          rw [hv,hw]
          exact mark_one s h0 (by omega) (by rw [h1,ht1];exact (take1_mark c).2 hm1) (fun hsz=>by rw [h2];exact fun hh=>hm2 ((take2_mark (by rw [hlen];exact hsz)).1 hh)) W
        · rw [if_neg hm1] at hw
          exact absurd (by rw [hw]) hw0
theorem first_bad (s:ByteArray) (h0:0<s.size) (hs:s.size≤281474976710656) (h:errL (bl s) ≠ 0) (w:World) (hE:Env w) :
    Calls Tryz.prog 175 #[.string s] w (TokRes w 0 ⟨#[]⟩ 0 ((errL (bl s):Nat):Int)):=by
  have hg:=bl_get s 0 h0
  have hle:=wordL_le (bl s)
  rw [bl_length] at hle
  have hbt:=bl_take s (wordL (bl s)).1
  have hst:=size_take s (wordL (bl s)).1 hle
  have h1:=bl_take s 1
  have h2:=bl_take s 2
  have hlen:=bl_length s
  obtain ⟨c,hc⟩:∃ c,(s[0]).toNat=c:=⟨_,rfl⟩
  rw [hc] at hg
  obtain ⟨r,hr⟩:∃ r,bl s=c :: r:=by
    cases hb:bl s with
    | nil=>rw [hb] at hg;simp at hg
    | cons d r=>rw [hb] at hg;simp at hg;exact ⟨r,by rw [hg]⟩
  by_cases hl:letterB c=true
  · have hw:wordL (bl s)=(((bl s).takeWhile nameB).length,if (bl s).take ((bl s).takeWhile nameB).length ∈ keysL then 2 else 1):=by rw [hr];exact wordL_letter hl
    have hn:((bl s).takeWhile nameB).length=(wordL (bl s)).1:=by rw [hw]
    have hnm:nameB c=true:=by unfold nameB;rw [hl];rfl
    have hn0:(wordL (bl s)).1 ≠ 0:=by rw [← hn,hr,List.takeWhile_cons,if_pos hnm];simp
    refine first_letter s h0 (by omega) (by rw [hc];exact hl) _ _ _ _ (wordL (bl s)).1 hn (fun W _=>?_) w hE
    by_cases hk:(bl s).take ((bl s).takeWhile nameB).length ∈ keysL
    · have e2:(wordL (bl s)).2=2:=by rw [hw];exact if_pos hk
      exact absurd (by rw [errL,if_neg hn0,e2];simp) h
    · have e2:(wordL (bl s)).2=1:=by rw [hw];exact if_neg hk
      by_cases h32:32<(wordL (bl s)).1
      · have he:errL (bl s)=3:=by rw [errL,if_neg hn0,if_pos ⟨e2,h32⟩]
        rw [he]
        exact name_long _ (by rw [hbt,← hn];exact hk) (by rw [hst];exact h32) W
      · exact absurd (by rw [errL,if_neg hn0,e2,if_neg (by omega),if_neg (by simp)]) h
  · have hl:letterB c=false:=by simpa using hl
    by_cases hd:digitB c=true
    · have hw:wordL (bl s)=(((bl s).takeWhile digitB).length,3):=by rw [hr];exact wordL_digit hl hd
      have hn:((bl s).takeWhile digitB).length=(wordL (bl s)).1:=by rw [hw]
      have e2:(wordL (bl s)).2=3:=by rw [hw]
      have hn0:(wordL (bl s)).1 ≠ 0:=by rw [← hn,hr,List.takeWhile_cons,if_pos hd];simp
      refine first_digit s h0 (by omega) (by rw [hc];exact hl) (by rw [hc];exact hd) _ _ _ _ (wordL (bl s)).1 hn (fun W hEW=>?_) w hE
      by_cases hm:most<valD ((bl s).take (wordL (bl s)).1)
      · have he:errL (bl s)=3:=by rw [errL,if_neg hn0,if_neg (by rw [e2];omega),if_pos ⟨e2,hm⟩]
        rw [he]
        refine number_big _ (by rw [hst];omega) (fun x hx=>?_) (by rw [hst];omega) (by rw [hbt];exact hm) W hEW
        rw [hbt,← hn,takeWhile_is_take] at hx
        exact mem_takeWhile _ x hx
      · exact absurd (by rw [errL,if_neg hn0,if_neg (by rw [e2];omega),if_neg (fun x=>hm x.2)]) h
    · have hd:digitB c=false:=by simpa using hd
      have hw:wordL (bl s)=if (bl s).take 2 ∈ mark2 then (2,4) else if c ∈ mark1 then (1,4) else (0,0):=by
        have:=wordL_mark (r:=r) hl hd
        rw [← hr] at this;exact this
      refine first_mark s h0 (by rw [hc];exact hl) (by rw [hc];exact hd) _ _ _ _ (fun W=>?_) w
      have ht1:(bl s).take 1=[c]:=by rw [hr];rfl
      by_cases hm2:(bl s).take 2 ∈ mark2
      · rw [if_pos hm2] at hw
        exact absurd (by rw [errL,hw];simp) h
      · rw [if_neg hm2] at hw
        by_cases hm1:c ∈ mark1
        · rw [if_pos hm1] at hw
          exact absurd (by rw [errL,hw];simp) h
        · rw [if_neg hm1] at hw
          have he:errL (bl s)=40:=by rw [errL,hw,if_pos rfl]
          rw [he]
          exact mark_no s h0 (by omega) (by rw [h1,ht1];exact fun hh=>hm1 ((take1_mark c).1 hh)) (fun hsz=>by rw [h2];exact fun hh=>hm2 ((take2_mark (by rw [hlen];exact hsz)).1 hh)) W
end Go.Proofs.YtpcniebkabkikaaGreatDoor
namespace Go.Proofs.YtpcniebkabkikaaGreatDoor
open Go Go.RowKit
structure It where
  k:Nat
  t:ByteArray
  v:Nat
  a:Nat
  e:Nat
def It.key (x:It):Tok × Nat:=(⟨x.k,bl x.t,x.v,x.a⟩,x.e)
def It.enc (x:It):Array Value:=#[tokV x.k x.t x.v x.a,.int .i64 (x.e:Int)]
def pt (B5:Nat) (W:World):Option Nat:=match W.cell? ⟨B5,0,none⟩ with
  | some (.slice (some a) _ _)=>some a.block
  | _=>none
structure Keep (n₀ n₁ B5:Nat) (W W':World):Prop where
  below:Below n₀ W W'
  kept:∀ k o,W.heap[k]?=some o→o.isCells=true→n₁≤k→pt B5 W ≠ some k→W'.heap[k]?=some o
  leads:pt B5 W'=pt B5 W ∨ ∃ g,pt B5 W'=some g∧W.heap.size≤g∧g<W'.heap.size
theorem heap_lt {w:World} {b:Nat} {o:Obj} (h:w.heap[b]?=some o):b<w.heap.size:=(Array.getElem?_eq_some_iff.1 h).1
theorem Keep.trans {n₀ n₁ B5:Nat} {A B C:World} (h:Keep n₀ n₁ B5 A B) (k:Keep n₀ n₁ B5 B C):Keep n₀ n₁ B5 A C:=by
  refine ⟨h.below.trans k.below,fun j o ho hc hj hp=>?_,?_⟩
  · have h1:=h.kept j o ho hc hj hp
    refine k.kept j o h1 hc hj ?_
    rcases h.leads with e | ⟨g,e,hg,_⟩
    · rw [e];exact hp
    · rw [e]
      intro e'
      obtain rfl:g=j:=by injection e'
      exact absurd (heap_lt ho) (by omega)
  · rcases k.leads with e | ⟨g,e,hg,hl⟩
    · rcases h.leads with e1 | ⟨g,e1,hg,hl⟩
      · exact .inl (e.trans e1)
      · exact .inr ⟨g,e.trans e1,hg,Nat.lt_of_lt_of_le hl k.below.size⟩
    · exact .inr ⟨g,e,Nat.le_trans h.below.size hg,hl⟩
theorem pt_of_cell {B5:Nat} {W W':World} (h:W'.cell? ⟨B5,0,none⟩=W.cell? ⟨B5,0,none⟩):pt B5 W'=pt B5 W:=by
  unfold pt;rw [h]
theorem keep_b {n₀ n₁ B5:Nat} {w:World} (hn:n₀≤w.heap.size) (hB:B5<w.heap.size) (W:World) (l:Nat) (o o':Obj) (hl:w.heap.size≤l) (h:W.heap[l]?=some o) (hc:o.isCells=false) (hw:o.isWalk=false):Keep n₀ n₁ B5 W (W.putObj l o'):=by
  refine ⟨belowK_b hn W l o o' hl h hc hw,fun k o2 hk hc2 _ _=>?_,.inl (pt_of_cell ?_)⟩
  · rw [World.putObj_heap_other (by intro e;subst e;rw [h] at hk;cases hk;rw [hc] at hc2;cases hc2)]
    exact hk
  · exact World.cell?_of_block (a:=⟨B5,0,none⟩) (World.putObj_heap_other (by show B5 ≠ l;omega))
def PtOk (B5:Nat) (W:World):Prop:=∀ g,pt B5 W=some g→g<W.heap.size
theorem PtOk.keep {n₀ n₁ B5:Nat} {W W':World} (h:PtOk B5 W) (hk:Keep n₀ n₁ B5 W W'):PtOk B5 W':=by
  intro g hg
  rcases hk.leads with e | ⟨g',e,_,hl⟩
  · rw [e] at hg;exact Nat.lt_of_lt_of_le (h g hg) hk.below.size
  · rw [e] at hg;obtain rfl:g'=g:=by injection hg
    exact hl
theorem pt_grow {B5:Nat} {W W':World} (hB:B5<W.heap.size) (hb:Below W.heap.size W W'):pt B5 W'=pt B5 W:=pt_of_cell (hb.cell (p:=⟨B5,0,none⟩) hB)
theorem PtOk.grow {B5:Nat} {W W':World} (h:PtOk B5 W) (hB:B5<W.heap.size) (hb:Below W.heap.size W W'):PtOk B5 W':=by
  intro g hg
  rw [pt_grow hB hb] at hg
  exact Nat.lt_of_lt_of_le (h g hg) hb.size
theorem grown_of_below {W W':World} (hb:Below W.heap.size W W'):W.grownBy W' none:=by
  obtain ⟨h1,h2,h3,h4,h5⟩:=hb
  exact ⟨h1,h2,h3,h4,fun k hk _=>h5 k hk⟩
structure WSt (S0 n₀ n₁ B5:Nat) (s:ByteArray) (J:List It→World→Prop) (a:Nat) (pre:List It) (W:World):Prop where
  items:pre.map It.key++itemsOf (scanL ((bl s).drop a) a)=itemsOf (scanL (bl s) 0)
  at_:a≤s.size
  inv:J pre W
  env:Env W
  ptok:PtOk B5 W
  b5:B5<W.heap.size
  n0:n₀≤W.heap.size
  n1:n₁≤W.heap.size
  s0:S0≤W.heap.size
theorem WSt.grow {S0 n₀ n₁ B5:Nat} {s:ByteArray} {J:List It→World→Prop} {a:Nat} {pre:List It} {W W':World} (h:WSt S0 n₀ n₁ B5 s J a pre W) (hJ:AbidesFrom S0 J) (hb:Below W.heap.size W W'):WSt S0 n₀ n₁ B5 s J a pre W' :=
  ⟨h.items,h.at_,hJ pre W W' none h.inv (grown_of_below hb) (fun r e=>by cases e),h.env.below hb h.env.lt,h.ptok.grow h.b5 hb,Nat.lt_of_lt_of_le h.b5 hb.size,Nat.le_trans h.n0 hb.size,Nat.le_trans h.n1 hb.size,Nat.le_trans h.s0 hb.size⟩
theorem WSt.keep {S0 n₀ n₁ B5:Nat} {s:ByteArray} {J:List It→World→Prop} {a a':Nat} {pre:List It} {x:It} {W W':World} (h:WSt S0 n₀ n₁ B5 s J a pre W) (hn:6<n₀) (hk:Keep n₀ n₁ B5 W W') (hJ:J (pre++[x]) W')
    (hi:itemsOf (scanL ((bl s).drop a) a)=x.key :: itemsOf (scanL ((bl s).drop a') a')) (ha:a'≤s.size):WSt S0 n₀ n₁ B5 s J a' (pre++[x]) W' :=
  ⟨by rw [← h.items,hi,List.map_append,List.append_assoc];rfl,ha,hJ,h.env.below hk.below hn,h.ptok.keep hk,Nat.lt_of_lt_of_le h.b5 hk.below.size,Nat.le_trans h.n0 hk.below.size,Nat.le_trans h.n1 hk.below.size,Nat.le_trans h.s0 hk.below.size⟩
theorem tok_kept {n₀ n₁ B5:Nat} {W W3:World} {k:Int} {t:ByteArray} {v a:Int} (hp:PtOk B5 W) (hB:B5<W.heap.size) (h1:n₁≤W.heap.size)
    (hk:Keep n₀ n₁ B5 (W.alloc (.cells #[.int .i64 k,.string t,.int .i64 v,.int .i64 a] 151)) W3):TokAt W3 W.heap.size k t v a:=by
  have hb:Below W.heap.size W (W.alloc (.cells #[.int .i64 k,.string t,.int .i64 v,.int .i64 a] 151)):=(Below.refl _ _).alloc (Nat.le_refl _) _
  have h3:=hk.kept W.heap.size _ (World.alloc_heap_new W _) rfl h1 (by
    rw [pt_grow hB hb]
    intro e
    exact absurd (hp _ e) (Nat.lt_irrefl _))
  have hn:=TokAt.new W k t v a 151
  have hh:=World.alloc_heap_new W (.cells #[.int .i64 k,.string t,.int .i64 v,.int .i64 a] 151)
  have hc:∀ j,W3.cell? ⟨W.heap.size,j,none⟩=(W.alloc (.cells #[.int .i64 k,.string t,.int .i64 v,.int .i64 a] 151)).cell? ⟨W.heap.size,j,none⟩:=fun j=>World.cell?_of_block (h3.trans hh.symm)
  have hf:∀ j,W3.frozen? ⟨W.heap.size,j,none⟩=(W.alloc (.cells #[.int .i64 k,.string t,.int .i64 v,.int .i64 a] 151)).frozen? ⟨W.heap.size,j,none⟩:=fun j=>World.frozen?_of_block (h3.trans hh.symm)
  exact ⟨(hc 0).trans hn.c0,(hc 1).trans hn.c1,(hc 2).trans hn.c2,(hc 3).trans hn.c3,(hf 0).trans hn.f0,(hf 1).trans hn.f1,(hf 2).trans hn.f2,(hf 3).trans hn.f3⟩
theorem bl_rest (s:ByteArray) (k:Nat):bl (s.extract k s.size)=(bl s).drop k:=by
  rw [bl_extract,List.take_of_length_le (by rw [bl_length];exact Nat.le_refl _)]
theorem gap_le (l:List Nat):gapL l≤l.length:=by
  unfold gapL
  split
  · exact (List.takeWhile_sublist _).length_le
  · exact (List.takeWhile_sublist _).length_le
theorem WSt.gap {S0 n₀ n₁ B5:Nat} {s:ByteArray} {J:List It→World→Prop} {k:Nat} {pre:List It} {W:World} (h:WSt S0 n₀ n₁ B5 s J k pre W):WSt S0 n₀ n₁ B5 s J (k+gapL ((bl s).drop k)) pre W:=by
  have hg:=gap_le ((bl s).drop k)
  rw [List.length_drop,bl_length] at hg
  refine ⟨?_,by have:=h.at_;omega,h.inv,h.env,h.ptok,h.b5,h.n0,h.n1,h.s0⟩
  have:=h.items
  rw [items_gap,List.drop_drop] at this
  exact this
def itAt (s:ByteArray) (k:Nat):It:=⟨(wordL ((bl s).drop k)).2,(s.extract k s.size).extract 0 (wordL ((bl s).drop k)).1,valL ((bl s).drop k),k,0⟩
theorem at_word {s:ByteArray} {k:Nat} (hk:k<s.size) (hg:gapL ((bl s).drop k)=0) (he:errL ((bl s).drop k)=0) :
    itemsOf (scanL ((bl s).drop k) k)=(itAt s k).key :: itemsOf (scanL ((bl s).drop (k+(wordL ((bl s).drop k)).1)) (k+(wordL ((bl s).drop k)).1))∧k+(wordL ((bl s).drop k)).1≤s.size∧0<(wordL ((bl s).drop k)).1∧(itAt s k).t.size=(wordL ((bl s).drop k)).1:=by
  have hw:=errL_word he
  have hle:=wordL_le ((bl s).drop k)
  rw [List.length_drop,bl_length] at hle
  have hst:(itAt s k).t.size=(wordL ((bl s).drop k)).1:=size_take _ _ (by simp;omega)
  refine ⟨?_,by omega,by omega,hst⟩
  have hbt:bl (itAt s k).t=((bl s).drop k).take (wordL ((bl s).drop k)).1:=by
    show bl ((s.extract k s.size).extract 0 _)=_
    rw [bl_take,bl_rest]
  have hkey:(itAt s k).key=(⟨(wordL ((bl s).drop k)).2,((bl s).drop k).take (wordL ((bl s).drop k)).1,valL ((bl s).drop k),k⟩,0):=by
    unfold It.key;rw [hbt];rfl
  rw [hkey,← List.drop_drop]
  clear hkey hbt hst hle hw
  cases hd:(bl s).drop k with
  | nil =>
    have:=congrArg List.length hd
    rw [List.length_drop,bl_length] at this
    simp at this;omega
  | cons c r =>
    rw [hd] at hg he
    obtain ⟨h1,h2⟩:=no_gap hg
    exact items_word k h1 h2 he
theorem at_err {s:ByteArray} {k:Nat} (hk:k<s.size) (hg:gapL ((bl s).drop k)=0) (he:errL ((bl s).drop k) ≠ 0) :
    itemsOf (scanL ((bl s).drop k) k)=[(⟨0,⟨#[]⟩,0,k,errL ((bl s).drop k)⟩:It).key]:=by
  cases hd:(bl s).drop k with
  | nil =>
    have:=congrArg List.length hd
    rw [List.length_drop,bl_length] at this
    simp at this;omega
  | cons c r =>
    rw [hd] at hg he
    obtain ⟨h1,h2⟩:=no_gap hg
    exact items_err k h1 h2 he
theorem at_end {s:ByteArray} {k:Nat} (hk:s.size≤k):itemsOf (scanL ((bl s).drop k) k)=[]:=by
  rw [List.drop_of_length_le (by rw [bl_length];exact hk)]
  exact items_nil k
theorem len_lt {pre:List It} {x:It} {l r:List (Tok × Nat)} (h:pre.map It.key++l=r) (hl:∃ q,l=x.key :: q):pre.length<r.length:=by
  obtain ⟨q,rfl⟩:=hl
  have:=congrArg List.length h
  rw [List.length_append,List.length_map,List.length_cons] at this
  omega
theorem pre_of {pre:List It} {x:It} {l r:List (Tok × Nat)} (h:pre.map It.key++l=r) (hl:∃ q,l=x.key :: q):(pre++[x]).map It.key <+: r:=by
  obtain ⟨q,rfl⟩:=hl
  exact ⟨q,by rw [← h,List.map_append,List.append_assoc];rfl⟩
theorem yield_any {P:Program} {l:Nat} {args:Array Value} {W:World} {R:Ending→World→Prop} {m:Nat} (m':Nat) (h:YieldAt Fence.wide m P l args W R):YieldAt Fence.wide m' P l args W R:=by
  obtain ⟨fn,tmps,assign,body,hy,h1,h2⟩:=h
  exact ⟨fn,tmps,assign,body,hy,h1,fun c cs _=>h2 c cs (room_wide _)⟩
end Go.Proofs.YtpcniebkabkikaaGreatDoor
namespace Go.Proofs.YtpcniebkabkikaaGreatDoor
open Go Go.RowKit
attribute [local go_sem] Oper.semAt_some
def WJ (S0 n₀ n₁ B5:Nat) (s:ByteArray) (l:Nat) (J:List It→World→Prop) (a:Act) (w:World):Prop :=
  ∃ (at_:Nat) (pre:List It) (u5 u6 u7 u8 u9 u10 u11 u12 u13 u14 u15 u16 u17 u18 u19 u20 u21 u22 u23 u24 u25 u26 u27 u28 u29 u30 u31 u32 u33 u34 u35 u36 u37 u38 u39 u40 u41 u42 u43:Value),a={ tmps:=#[.string s,.func (.yield l) #[] #[],undef,undef,.int .i64 (at_:Int),u5,u6,u7,u8,u9,u10,u11,u12,u13,u14,u15,u16,u17,u18,u19,u20,u21,u22,u23,u24,u25,u26,u27,u28,u29,u30,u31,u32,u33,u34,u35,u36,u37,u38,u39,u40,u41,u42,u43],defers:=[] }∧WSt S0 n₀ n₁ B5 s J at_ pre w
theorem jump_ret {l:Nat} {J:Act→World→Prop} {Q:Exit→Act→World→Prop} {a:Act} {w:World}:Exit.jump l J Q .ret a w=Q .ret a w:=rfl
theorem jump_normal {l:Nat} {J:Act→World→Prop} {Q:Exit→Act→World→Prop} {a:Act} {w:World}:Exit.jump l J Q .normal a w=Q .normal a w:=rfl
def wMu (s:ByteArray) (a:Act) (_:World):Nat:=s.size - (intOf (a.tmps.getD 4 undef)).toNat
set_option maxRecDepth 100000 in
set_option maxHeartbeats 2000000 in
theorem walk_iw (n m l n₀ n₁ B5:Nat) (s:ByteArray) (hs:s.size≤65536) (hn₀:6<n₀) (J Jx:List It→World→Prop) (W:World) (hJ:AbidesFrom W.heap.size J)
    (hY:∀ pre x W1,J pre W1→pre.length<(itemsOf (scanL (bl s) 0)).length→YieldAt Fence.wide m Tryz.prog l x.enc W1 fun e W' =>
      (e=.returned (.bool true)∧J (pre++[x]) W'∧Keep n₀ n₁ B5 W1 W') ∨ (e=.returned (.bool false)∧Jx (pre++[x]) W'))
    (hE:Env W) (hpt:PtOk B5 W) (hB5:B5<W.heap.size) (hn0:n₀≤W.heap.size) (hn1:n₁≤W.heap.size) (h0:J [] W) :
    CallsIn Fence.wide n Tryz.prog 183 #[.string s,.func (.yield l) #[] #[]] W fun e W'=>(∃ v,e=.returned v) ∧
      ((∃ ys:List It,ys.map It.key=itemsOf (scanL (bl s) 0)∧J ys W') ∨ (∃ pre:List It,pre.map It.key <+: itemsOf (scanL (bl s) 0)∧Jx pre W')):=by
  have hst:WSt W.heap.size n₀ n₁ B5 s J 0 [] W:=⟨by rw [List.drop_zero];rfl,Nat.zero_le _,h0,hE,hpt,hB5,hn0,hn1,Nat.le_refl _⟩
  clear hE hpt hB5 hn0 hn1 h0
  obtain ⟨S0,hS0⟩:∃ S0,W.heap.size=S0:=⟨_,rfl⟩
  rw [hS0] at hst hJ
  clear hS0
  refine callsIn_of_wp Tryz.func183 rfl trivial ?_ rfl
  simp only [Tryz.ntmps183,List.size_toArray,List.length_cons,List.length_nil,Nat.reduceAdd,Nat.reduceSub,Array.replicate_succ,Array.replicate_zero,List.push_toArray,List.append_toArray,List.nil_append,List.cons_append]
  refine wpIn_wide.2 ?_
  refine wp_scope_jumps 0 (WJ S0 n₀ n₁ B5 s l J) (wMu s) rfl ?first ?pass
  case first =>
    go_wp2
    go_step3
    go_wp2
    refine (wpIn_wide (n:=n)).1 ?_
    gi_loopw [4] (fun i wr=>∃ (k:Nat) (pr:List It),i=.int .i64 k∧WSt S0 n₀ n₁ B5 s J k pr wr ) (fun i _=>s.size - (intOf i).toNat)
    case atStart=>exact ⟨0,[],rfl,hst⟩
    case round =>
      clear hst
      obtain ⟨k,pr,rfl,hst⟩:=hrel
      by_cases hlt:k<s.size
      · have ht0:0<(s.extract k s.size).size:=by simp;omega
        have hts:(s.extract k s.size).size≤65536:=by simp;omega
        have hgc:=gap_any (s.extract k s.size) ht0 (by omega) wr
        rw [bl_rest] at hgc
        by_cases hg:0<gapL ((bl s).drop k)
        · have HS:=Lib.hid hst.gap
          have hk2:=hst.gap.at_
          have hc:=Lib.hid hgc
          clear hst ht0 hts hgc
          generalize gapL ((bl s).drop k)=gp at *
          gi_wp2_with (refine ⟨trivial,(fun h=>by cases h),?_⟩;gi_at_call 223;refine (callsIn_wide.2 hc.out).mono ?_;rintro e w' ⟨rfl,rfl⟩)
          refine wpIn_wide.2 ?_
          go_step3
          exact ⟨rfl,k+gp,pr,_,_,_,_,_,_,_,_,_,_,_,_,_,_,_,_,_,_,_,_,_,_,_,_,_,_,_,_,_,_,_,_,_,_,_,_,_,_,_,by rw [Int.natCast_add],HS.out⟩
        · have hg0:gapL ((bl s).drop k)=0:=by omega
          rw [hg0] at hgc
          have hc:=Lib.hid hgc
          clear hgc hg
          by_cases he:errL ((bl s).drop k)=0
          · have hf:=first_ok (s.extract k s.size) ht0 (by omega) (by rw [bl_rest];exact he) wr hst.env
            rw [bl_rest] at hf
            obtain ⟨hit,hk2,hn0,hsz⟩:=at_word hlt hg0 he
            have HF:=Lib.hid hf
            have HIT:=Lib.hid hit
            have HSZ:=Lib.hid hsz
            have HS:=Lib.hid hst
            clear hf hit hsz hst ht0 hts hg0 he
            obtain ⟨x,hx⟩:∃ x,itAt s k=x:=⟨_,rfl⟩
            have HF2:Hid (Calls Tryz.prog 175 #[.string (s.extract k s.size)] wr (TokRes wr (x.k:Nat) x.t (x.v:Nat) 0)):=by rw [← hx];exact HF
            have hxa:x.a=k:=by rw [← hx];rfl
            have hxe:x.e=0:=by rw [← hx];rfl
            rw [hx] at HIT HSZ
            clear HF hx
            generalize (wordL ((bl s).drop k)).1=nn at *
            gi_wp2_with (first | (refine ⟨trivial,(fun h=>by cases h),?_⟩;gi_at_call 223;refine (callsIn_wide.2 hc.out).mono ?_;rintro e w' ⟨rfl,rfl⟩) | (refine ⟨trivial,(fun h=>by cases h),?_⟩;gi_at_call 175;refine (callsIn_wide.2 HF2.out).mono ?_))
            rintro e w1 ⟨rfl,hb1⟩
            have hs1:=HS.out.grow hJ hb1
            have hs2:=hs1.grow hJ ((Below.refl _ w1).alloc (Nat.le_refl _) (.cells #[.int .i64 (x.k:Nat),.string x.t,.int .i64 (x.v:Nat),.int .i64 (k:Nat)] 151))
            obtain ⟨fn,tmps,assign,body,hy,hR⟩:=yield_any (n - 1) (hY pr x _ hs2.inv (len_lt hs2.items ⟨_,HIT.out⟩))
            have hy':(Instr.yield l #[tokV (x.k:Nat) x.t (x.v:Nat) (k:Nat),.int .i64 0]).run Tryz.prog (w1.alloc (.cells #[.int .i64 (x.k:Nat),.string x.t,.int .i64 (x.v:Nat),.int .i64 (k:Nat)] 151))=.ok (.round l fn tmps assign body) (w1.alloc (.cells #[.int .i64 (x.k:Nat),.string x.t,.int .i64 (x.v:Nat),.int .i64 (k:Nat)] 151)):=by
              unfold It.enc at hy
              rw [hxa,hxe] at hy
              exact hy
            clear hy
            have H1:=Lib.hid hs1
            have H2:=Lib.hid hs2
            have HXA:=Lib.hid hxa
            have HXE:=Lib.hid hxe
            clear hs1 hs2 hb1 hY hxa hxe
            gi_wp2
            refine ⟨(fun h=>by cases h),hR.mono ?_⟩
            rintro e W3 (⟨rfl,hJ3,hk3⟩ | ⟨rfl,hJx3⟩)
            · obtain ⟨k0,k1,k2,k3,f0,f1,f2,f3⟩:=tok_kept H1.out.ptok H1.out.b5 H1.out.n1 hk3
              have HN:=Lib.hid (H2.out.keep hn₀ hk3 hJ3 HIT.out hk2)
              obtain rfl:=HSZ.out
              clear HS H1 H2 hk3 hJ3 hR hy'
              gi_wp2
              refine ⟨⟨k+x.t.size,pr++[x],by rw [Int.natCast_add],HN.out⟩,by simp [intOf];omega⟩
            · have HP:=Lib.hid (pre_of HS.out.items ⟨_,HIT.out⟩)
              clear HS H1 H2 hR hy'
              gi_wp2
              rw [jump_ret]
              refine bodyPost_ret (results_none rfl _ _ _) rfl ?_
              exact ⟨⟨_,rfl⟩,.inr ⟨pr++[x],HP.out,hJx3⟩⟩
          · have hf:=first_bad (s.extract k s.size) ht0 (by omega) (by rw [bl_rest];exact he) wr hst.env
            rw [bl_rest] at hf
            have hit:=at_err hlt hg0 he
            have heb:((errL ((bl s).drop k):Nat):Int) ≠ 0:=by omega
            generalize errL ((bl s).drop k)=er at *
            have heb1:(((er:Nat):Int) != 0)=true:=by simpa using heb
            have heb2:(((er:Nat):Int) == 0)=false:=by simpa using heb
            have HF2:=Lib.hid hf
            have HIT:=Lib.hid hit
            have HS:=Lib.hid hst
            clear hf hit hst ht0 hts hg0 he heb
            gi_wp2_with (first | (refine ⟨trivial,(fun h=>by cases h),?_⟩;gi_at_call 223;refine (callsIn_wide.2 hc.out).mono ?_;rintro e w' ⟨rfl,rfl⟩) | (refine ⟨trivial,(fun h=>by cases h),?_⟩;gi_at_call 175;refine (callsIn_wide.2 HF2.out).mono ?_))
            rintro e w1 ⟨rfl,hb1⟩
            have hs1:=HS.out.grow hJ hb1
            have hs2:=hs1.grow hJ ((Below.refl _ w1).alloc (Nat.le_refl _) (.cells #[.int .i64 0,.string ⟨#[]⟩,.int .i64 0,.int .i64 (k:Nat)] 151))
            obtain ⟨fn,tmps,assign,body,hy,hR⟩:=yield_any (n - 1) (hY pr ⟨0,⟨#[]⟩,0,k,er⟩ _ hs2.inv (len_lt hs2.items ⟨_,HIT.out⟩))
            have hy':(Instr.yield l #[tokV 0 ⟨#[]⟩ 0 (k:Nat),.int .i64 (er:Nat)]).run Tryz.prog (w1.alloc (.cells #[.int .i64 0,.string ⟨#[]⟩,.int .i64 0,.int .i64 (k:Nat)] 151))=.ok (.round l fn tmps assign body) (w1.alloc (.cells #[.int .i64 0,.string ⟨#[]⟩,.int .i64 0,.int .i64 (k:Nat)] 151)):=hy
            clear hy
            have HP:=Lib.hid (pre_of HS.out.items ⟨_,HIT.out⟩)
            have HA:=Lib.hid (show (pr++[(⟨0,⟨#[]⟩,0,k,er⟩:It)]).map It.key=itemsOf (scanL (bl s) 0) by rw [← HS.out.items,HIT.out,List.map_append];rfl)
            clear hs1 hs2 hb1 hY HS HIT
            gi_wp2
            refine ⟨(fun h=>by cases h),hR.mono ?_⟩
            rintro e W3 (⟨rfl,hJ3,hk3⟩ | ⟨rfl,hJx3⟩)
            · clear hR hy' hk3
              gi_wp2
              rw [jump_ret]
              refine bodyPost_ret (results_none rfl _ _ _) rfl ?_
              exact ⟨⟨_,rfl⟩,.inl ⟨_,HA.out,hJ3⟩⟩
            · clear hR hy'
              gi_wp2
              rw [jump_ret]
              refine bodyPost_ret (results_none rfl _ _ _) rfl ?_
              exact ⟨⟨_,rfl⟩,.inr ⟨_,HP.out,hJx3⟩⟩
      · have HA:=Lib.hid (show pr.map It.key=itemsOf (scanL (bl s) 0) by have:=hst.items;rw [at_end (by omega),List.append_nil] at this;exact this)
        have HI:=Lib.hid hst.inv
        clear hst
        gi_wp2
        rw [jump_normal]
        go_end0
        exact ⟨⟨_,rfl⟩,.inl ⟨pr,HA.out,HI.out⟩⟩
  case pass =>
    rintro a w ⟨at_,pre,u5,u6,u7,u8,u9,u10,u11,u12,u13,u14,u15,u16,u17,u18,u19,u20,u21,u22,u23,u24,u25,u26,u27,u28,u29,u30,u31,u32,u33,u34,u35,u36,u37,u38,u39,u40,u41,u42,u43,rfl,hst⟩
    go_wp2
    refine (wpIn_wide (n:=n)).1 ?_
    gi_loopw [4] (fun i wr=>∃ (k:Nat) (pr:List It),i=.int .i64 k∧WSt S0 n₀ n₁ B5 s J k pr wr∧at_≤k) (fun i _=>s.size - (intOf i).toNat)
    case atStart=>exact ⟨at_,pre,rfl,hst,Nat.le_refl _⟩
    case round =>
      clear hst
      obtain ⟨k,pr,rfl,hst,hle⟩:=hrel
      by_cases hlt:k<s.size
      · have ht0:0<(s.extract k s.size).size:=by simp;omega
        have hts:(s.extract k s.size).size≤65536:=by simp;omega
        have hgc:=gap_any (s.extract k s.size) ht0 (by omega) wr
        rw [bl_rest] at hgc
        by_cases hg:0<gapL ((bl s).drop k)
        · have HS:=Lib.hid hst.gap
          have hk2:=hst.gap.at_
          have hc:=Lib.hid hgc
          clear hst ht0 hts hgc
          generalize gapL ((bl s).drop k)=gp at *
          gi_wp2_with (refine ⟨trivial,(fun h=>by cases h),?_⟩;gi_at_call 223;refine (callsIn_wide.2 hc.out).mono ?_;rintro e w' ⟨rfl,rfl⟩)
          refine wpIn_wide.2 ?_
          go_step3
          exact ⟨rfl,⟨k+gp,pr,_,_,_,_,_,_,_,_,_,_,_,_,_,_,_,_,_,_,_,_,_,_,_,_,_,_,_,_,_,_,_,_,_,_,_,_,_,_,_,by rw [Int.natCast_add],HS.out⟩,by simp [wMu,intOf];omega⟩
        · have hg0:gapL ((bl s).drop k)=0:=by omega
          rw [hg0] at hgc
          have hc:=Lib.hid hgc
          clear hgc hg
          by_cases he:errL ((bl s).drop k)=0
          · have hf:=first_ok (s.extract k s.size) ht0 (by omega) (by rw [bl_rest];exact he) wr hst.env
            rw [bl_rest] at hf
            obtain ⟨hit,hk2,hn0,hsz⟩:=at_word hlt hg0 he
            have HF:=Lib.hid hf
            have HIT:=Lib.hid hit
            have HSZ:=Lib.hid hsz
            have HS:=Lib.hid hst
            clear hf hit hsz hst ht0 hts hg0 he
            obtain ⟨x,hx⟩:∃ x,itAt s k=x:=⟨_,rfl⟩
            have HF2:Hid (Calls Tryz.prog 175 #[.string (s.extract k s.size)] wr (TokRes wr (x.k:Nat) x.t (x.v:Nat) 0)):=by rw [← hx];exact HF
            have hxa:x.a=k:=by rw [← hx];rfl
            have hxe:x.e=0:=by rw [← hx];rfl
            rw [hx] at HIT HSZ
            clear HF hx
            generalize (wordL ((bl s).drop k)).1=nn at *
            gi_wp2_with (first | (refine ⟨trivial,(fun h=>by cases h),?_⟩;gi_at_call 223;refine (callsIn_wide.2 hc.out).mono ?_;rintro e w' ⟨rfl,rfl⟩) | (refine ⟨trivial,(fun h=>by cases h),?_⟩;gi_at_call 175;refine (callsIn_wide.2 HF2.out).mono ?_))
            rintro e w1 ⟨rfl,hb1⟩
            have hs1:=HS.out.grow hJ hb1
            have hs2:=hs1.grow hJ ((Below.refl _ w1).alloc (Nat.le_refl _) (.cells #[.int .i64 (x.k:Nat),.string x.t,.int .i64 (x.v:Nat),.int .i64 (k:Nat)] 151))
            obtain ⟨fn,tmps,assign,body,hy,hR⟩:=yield_any (n - 1) (hY pr x _ hs2.inv (len_lt hs2.items ⟨_,HIT.out⟩))
            have hy':(Instr.yield l #[tokV (x.k:Nat) x.t (x.v:Nat) (k:Nat),.int .i64 0]).run Tryz.prog (w1.alloc (.cells #[.int .i64 (x.k:Nat),.string x.t,.int .i64 (x.v:Nat),.int .i64 (k:Nat)] 151))=.ok (.round l fn tmps assign body) (w1.alloc (.cells #[.int .i64 (x.k:Nat),.string x.t,.int .i64 (x.v:Nat),.int .i64 (k:Nat)] 151)):=by
              unfold It.enc at hy
              rw [hxa,hxe] at hy
              exact hy
            clear hy
            have H1:=Lib.hid hs1
            have H2:=Lib.hid hs2
            have HXA:=Lib.hid hxa
            have HXE:=Lib.hid hxe
            clear hs1 hs2 hb1 hY hxa hxe
            gi_wp2
            refine ⟨(fun h=>by cases h),hR.mono ?_⟩
            rintro e W3 (⟨rfl,hJ3,hk3⟩ | ⟨rfl,hJx3⟩)
            · obtain ⟨k0,k1,k2,k3,f0,f1,f2,f3⟩:=tok_kept H1.out.ptok H1.out.b5 H1.out.n1 hk3
              have HN:=Lib.hid (H2.out.keep hn₀ hk3 hJ3 HIT.out hk2)
              obtain rfl:=HSZ.out
              clear HS H1 H2 hk3 hJ3 hR hy'
              gi_wp2
              refine ⟨⟨k+x.t.size,pr++[x],by rw [Int.natCast_add],HN.out,by omega⟩,by simp [intOf];omega⟩
            · have HP:=Lib.hid (pre_of HS.out.items ⟨_,HIT.out⟩)
              clear HS H1 H2 hR hy'
              gi_wp2
              rw [jump_ret]
              refine bodyPost_ret (results_none rfl _ _ _) rfl ?_
              exact ⟨⟨_,rfl⟩,.inr ⟨pr++[x],HP.out,hJx3⟩⟩
          · have hf:=first_bad (s.extract k s.size) ht0 (by omega) (by rw [bl_rest];exact he) wr hst.env
            rw [bl_rest] at hf
            have hit:=at_err hlt hg0 he
            have heb:((errL ((bl s).drop k):Nat):Int) ≠ 0:=by omega
            generalize errL ((bl s).drop k)=er at *
            have heb1:(((er:Nat):Int) != 0)=true:=by simpa using heb
            have heb2:(((er:Nat):Int) == 0)=false:=by simpa using heb
            have HF2:=Lib.hid hf
            have HIT:=Lib.hid hit
            have HS:=Lib.hid hst
            clear hf hit hst ht0 hts hg0 he heb
            gi_wp2_with (first | (refine ⟨trivial,(fun h=>by cases h),?_⟩;gi_at_call 223;refine (callsIn_wide.2 hc.out).mono ?_;rintro e w' ⟨rfl,rfl⟩) | (refine ⟨trivial,(fun h=>by cases h),?_⟩;gi_at_call 175;refine (callsIn_wide.2 HF2.out).mono ?_))
            rintro e w1 ⟨rfl,hb1⟩
            have hs1:=HS.out.grow hJ hb1
            have hs2:=hs1.grow hJ ((Below.refl _ w1).alloc (Nat.le_refl _) (.cells #[.int .i64 0,.string ⟨#[]⟩,.int .i64 0,.int .i64 (k:Nat)] 151))
            obtain ⟨fn,tmps,assign,body,hy,hR⟩:=yield_any (n - 1) (hY pr ⟨0,⟨#[]⟩,0,k,er⟩ _ hs2.inv (len_lt hs2.items ⟨_,HIT.out⟩))
            have hy':(Instr.yield l #[tokV 0 ⟨#[]⟩ 0 (k:Nat),.int .i64 (er:Nat)]).run Tryz.prog (w1.alloc (.cells #[.int .i64 0,.string ⟨#[]⟩,.int .i64 0,.int .i64 (k:Nat)] 151))=.ok (.round l fn tmps assign body) (w1.alloc (.cells #[.int .i64 0,.string ⟨#[]⟩,.int .i64 0,.int .i64 (k:Nat)] 151)):=hy
            clear hy
            have HP:=Lib.hid (pre_of HS.out.items ⟨_,HIT.out⟩)
            have HA:=Lib.hid (show (pr++[(⟨0,⟨#[]⟩,0,k,er⟩:It)]).map It.key=itemsOf (scanL (bl s) 0) by rw [← HS.out.items,HIT.out,List.map_append];rfl)
            clear hs1 hs2 hb1 hY HS HIT
            gi_wp2
            refine ⟨(fun h=>by cases h),hR.mono ?_⟩
            rintro e W3 (⟨rfl,hJ3,hk3⟩ | ⟨rfl,hJx3⟩)
            · clear hR hy' hk3
              gi_wp2
              rw [jump_ret]
              refine bodyPost_ret (results_none rfl _ _ _) rfl ?_
              exact ⟨⟨_,rfl⟩,.inl ⟨_,HA.out,hJ3⟩⟩
            · clear hR hy'
              gi_wp2
              rw [jump_ret]
              refine bodyPost_ret (results_none rfl _ _ _) rfl ?_
              exact ⟨⟨_,rfl⟩,.inr ⟨_,HP.out,hJx3⟩⟩
      · have HA:=Lib.hid (show pr.map It.key=itemsOf (scanL (bl s) 0) by have:=hst.items;rw [at_end (by omega),List.append_nil] at this;exact this)
        have HI:=Lib.hid hst.inv
        clear hst
        gi_wp2
        rw [jump_normal]
        go_end0
        exact ⟨⟨_,rfl⟩,.inl ⟨pr,HA.out,HI.out⟩⟩
end Go.Proofs.YtpcniebkabkikaaGreatDoor
namespace Go.Proofs.YtpcniebkabkikaaGreatDoor
open Go Go.RowKit
attribute [local go_sem] Oper.semAt_some
theorem clone_any (s:ByteArray) (hs:s.size≤281474976710656) (w:World):Calls Tryz.prog 181 #[.string s] w fun e w'=>e=.returned (.string s)∧Below w.heap.size w w':=by
  have hc:=Lib.hid (fun W=>Tryz.stringslite_Clone s W hs)
  go_enter Tryz.func181,Tryz.ntmps181
  go_wp2_with (go_at_call 222;refine (hc.out _).mono ?_;rintro e w1 ⟨rfl,hb⟩)
  go_ret
  exact ⟨rfl,hb⟩
theorem each_long (s:ByteArray) (hs:65536<s.size) (w:World):Calls Tryz.prog 143 #[.string s] w fun e w'=>e=.returned (.func (.func 180) #[] #[])∧w=w':=by
  go_enter Tryz.func143,Tryz.ntmps143
  go_wp2
  go_ret
  exact ⟨rfl,rfl⟩
theorem each_ok (s:ByteArray) (hs:s.size≤65536) (w:World) :
    Calls Tryz.prog 143 #[.string s] w fun e w'=>∃ b,e=.returned (.func (.func 182) #[] #[.pointer (some ⟨b,0,none⟩)])∧w'.cell? ⟨b,0,none⟩=some (.string s)∧w.heap.size≤b∧b<w'.heap.size∧Below w.heap.size w w':=by
  have hc:=Lib.hid (fun W=>clone_any s (by omega) W)
  go_enter Tryz.func143,Tryz.ntmps143
  go_wp2_with (go_at_call 181;refine (hc.out _).mono ?_;rintro e w1 ⟨rfl,hb⟩)
  go_ret
  exact ⟨w1.heap.size,rfl,by simp [go_sem],hb.size,by simp,hb.alloc hb.size _⟩
def allItems (s:ByteArray):List (Tok × Nat):=if 65536<s.size then [(⟨0,[],0,0⟩,3)] else itemsOf (scanL (bl s) 0)
set_option maxRecDepth 100000 in
theorem stops24 (n n₀ n₁ B5 Bo:Nat) (s:ByteArray) (hs:s.size≤65536) (hn₀:6<n₀) (w:World) (hn0:n₀≤w.heap.size) (hn1:n₁≤w.heap.size) (hBo:Bo<w.heap.size) (hB:w.cell? ⟨Bo,0,none⟩=some (.string s)) (hE:Env w) (hpt:PtOk B5 w) (hB5:B5<w.heap.size) :
    SeqStopsK Fence.wide n Tryz.prog 182 #[.pointer (some ⟨Bo,0,none⟩)] It.enc (Keep n₀ n₁ B5) (fun ys=>ys.map It.key=allItems s) (fun pre=>pre.map It.key <+: allItems s) (allItems s).length w:=by
  intro l J Jx W hW hJ _ hY h0
  have hall:allItems s=itemsOf (scanL (bl s) 0):=if_neg (by omega)
  rw [hall] at hY ⊢
  have hcell:=(hW.cell (p:=⟨Bo,0,none⟩) hBo).trans hB
  have hcall:=Lib.hid (fun m=>walk_iw m (n - 1) l n₀ n₁ B5 s hs hn₀ J Jx W hJ hY (hE.below hW hE.lt) (hpt.grow hB5 hW) (Nat.lt_of_lt_of_le hB5 hW.size) (Nat.le_trans hn0 hW.size) (Nat.le_trans hn1 hW.size) h0)
  clear hY hJ hall hn0 hn1 hBo hB hE hpt hB5 hW
  refine callsIn_of_wp Tryz.func182 rfl trivial ?_ rfl
  simp only [Tryz.ntmps182,List.size_toArray,List.length_cons,List.length_nil,Nat.reduceAdd,Nat.reduceSub,Array.replicate_succ,Array.replicate_zero,List.push_toArray,List.append_toArray,List.nil_append,List.cons_append]
  gi_wp2
  refine ⟨trivial,(fun h=>by cases h),(hcall.out _).mono ?_⟩
  rintro e W' ⟨⟨v,rfl⟩,hh⟩
  have HH:=Lib.hid hh
  clear hh
  gi_wp2
  go_end0
  exact ⟨⟨_,rfl⟩,HH.out⟩
set_option maxRecDepth 100000 in
theorem stops22 (n n₀ n₁ B5:Nat) (s:ByteArray) (hs:65536<s.size) (w:World) :
    SeqStopsK Fence.wide n Tryz.prog 180 #[] It.enc (Keep n₀ n₁ B5) (fun ys=>ys.map It.key=allItems s) (fun pre=>pre.map It.key <+: allItems s) (allItems s).length w:=by
  intro l J Jx W hW hJ _ hY h0
  have hall:allItems s=[(⟨0,[],0,0⟩,3)]:=if_pos hs
  rw [hall] at hY ⊢
  obtain ⟨fn,tmps,assign,body,hy,hR⟩:=hY [] ⟨0,⟨#[]⟩,0,0,3⟩ W h0 (by simp)
  have hy':(Instr.yield l #[tokV 0 ⟨#[]⟩ 0 0,.int .i64 3]).run Tryz.prog W=.ok (.round l fn tmps assign body) W:=hy
  clear hy hY hJ hall hs hW h0
  refine callsIn_of_wp Tryz.func180 rfl trivial ?_ rfl
  simp only [Tryz.ntmps180,List.size_toArray,List.length_cons,List.length_nil,Nat.reduceAdd,Nat.reduceSub,Array.replicate_succ,Array.replicate_zero,List.push_toArray,List.append_toArray,List.nil_append,List.cons_append]
  gi_wp2
  refine ⟨(fun h=>by cases h),hR.mono ?_⟩
  rintro e W3 (⟨rfl,hJ3,_⟩ | ⟨rfl,hJx3⟩)
  · gi_wp2
    go_end0
    exact ⟨⟨_,rfl⟩,.inl ⟨_,rfl,hJ3⟩⟩
  · gi_wp2
    go_end0
    exact ⟨⟨_,rfl⟩,.inr ⟨_,List.prefix_rfl,hJx3⟩⟩
end Go.Proofs.YtpcniebkabkikaaGreatDoor
namespace Go.Proofs.YtpcniebkabkikaaGreatDoor
open Go Go.RowKit
attribute [local go_sem] Oper.semAt_some
def EachRes (s:ByteArray) (gf:Nat) (W:World) (e:Ending) (w':World):Prop :=
  ∃ lb,e=.returned (.func (.func gf) #[] lb)∧Below W.heap.size W w'∧∀ (n n₀ n₁ B5:Nat) (w2:World),(∀ b,W.heap.size≤b→b<w'.heap.size→w2.heap[b]?=w'.heap[b]?)→w'.heap.size≤w2.heap.size→6<n₀→n₀≤w2.heap.size→n₁≤w2.heap.size→Env w2→PtOk B5 w2→B5<w2.heap.size →
    SeqStopsK Fence.wide n Tryz.prog gf lb It.enc (Keep n₀ n₁ B5) (fun ys=>ys.map It.key=allItems s) (fun pre=>pre.map It.key <+: allItems s) (allItems s).length w2
theorem each_res (s:ByteArray):∃ gf,(∀ args w,(callFunc gf args).run Tryz.prog w=.ok (.enter gf args) w)∧∀ W,Calls Tryz.prog 143 #[.string s] W (EachRes s gf W):=by
  by_cases hs:65536<s.size
  · refine ⟨180,enters_of Tryz.func180 (by kernel_rfl) rfl,fun W=>(each_long s hs W).mono ?_⟩
    rintro e w' ⟨rfl,rfl⟩
    exact ⟨#[],rfl,Below.refl _ _,fun n n₀ n₁ B5 w2 _ _ _ _ _ _ _ _=>stops22 n n₀ n₁ B5 s hs w2⟩
  · refine ⟨182,enters_of Tryz.func182 (by kernel_rfl) rfl,fun W=>(each_ok s (by omega) W).mono ?_⟩
    rintro e w' ⟨b,rfl,hc,hb0,hb,hB⟩
    exact ⟨_,rfl,hB,fun n n₀ n₁ B5 w2 h2 hsz hn₀ h3 h4 hE hp h5=>stops24 n n₀ n₁ B5 b s (by omega) hn₀ w2 h3 h4 (Nat.lt_of_lt_of_le hb hsz) ((World.cell?_of_block (a:=⟨b,0,none⟩) (h2 b hb0 hb)).trans hc) hE hp h5⟩
def TokB (W:World) (g:Nat) (k:Int) (t:ByteArray) (v a:Int):Prop:=W.heap[g]?=some (.cells #[.int .i64 k,.string t,.int .i64 v,.int .i64 a] 151 (0,0))
theorem TokB.at_ {W:World} {g:Nat} {k:Int} {t:ByteArray} {v a:Int} (h:TokB W g k t v a):TokAt W g k t v a:=by
  unfold TokB at h
  exact ⟨by simp [World.cell?,h],by simp [World.cell?,h],by simp [World.cell?,h],by simp [World.cell?,h],by simp [World.frozen?,h],by simp [World.frozen?,h],by simp [World.frozen?,h],by simp [World.frozen?,h]⟩
theorem tokB_own (g:Nat) (k:Int) (t:ByteArray) (v a:Int):Own (fun (_:Unit) W=>TokB W g k t v a):=by
  intro s X Y row h hg hr
  refine (hg.block g (heap_lt h) (fun e=>?_)).trans h
  obtain ⟨o,ho,hc⟩:=hr g e.symm
  rw [show X.heap[g]?=_ from h] at ho;cases ho;cases hc
def tokCells (ys:List It):List Value:=ys.flatMap fun x=>[.int .i64 (x.k:Nat),.string x.t,.int .i64 (x.v:Nat),.int .i64 (x.a:Nat)]
theorem tokCells_snoc (ys:List It) (x:It):tokCells (ys++[x])=tokCells ys++[.int .i64 (x.k:Nat),.string x.t,.int .i64 (x.v:Nat),.int .i64 (x.a:Nat)]:=by
  simp [tokCells]
theorem pt_box {B5:Nat} {W:World} {T:TypeId} {q:Option Addr} {n c:Nat} (h:Boxed W B5 T (.slice q n c)):pt B5 W=(Value.slice q n c).ownBlock:=by
  unfold pt
  rw [h.cell]
  cases q <;> rfl
theorem ptOk_nil {B5:Nat} {W:World} {T:TypeId} {n c:Nat} (h:Boxed W B5 T (.slice none n c)):PtOk B5 W:=by
  intro g hg
  rw [pt_box h] at hg
  cases hg
theorem keep_alloc {n₀ n₁ B5:Nat} {W:World} (hn:n₀≤W.heap.size) (hB:B5<W.heap.size) (o:Obj):Keep n₀ n₁ B5 W (W.alloc o):=by
  have hb:Below W.heap.size W (W.alloc o):=(Below.refl _ _).alloc (Nat.le_refl _) _
  exact ⟨(Below.refl _ _).alloc hn _,fun k _ hk _ _ _=>(hb.block k (heap_lt hk)).trans hk,.inl (pt_grow hB hb)⟩
theorem keep_append {n₀ n₁ B5:Nat} {W w1:World} {q:Option Addr} {k c m:Nat} {q':Option Addr} {c':Nat} {xs ys:List Value} {tmp:Obj}
    (hv:Boxed W B5 144 (.slice q k c)) (hrow:W.ownsRow n₀ 151 4 (.slice q k c) k xs) (hn:n₀≤W.heap.size) (hB:n₀≤B5) (h1:B5<n₁)
    (hown':w1.ownsRow n₀ 151 4 (.slice q' m c') m ys) (hgrow:(W.alloc tmp).grownBy w1 (Value.slice q k c).ownBlock)
    (hat:(Value.slice q' m c').ownBlock=(Value.slice q k c).ownBlock ∨ (Value.slice q' m c').ownBlock=some (W.alloc tmp).heap.size) :
    Keep n₀ n₁ B5 W (w1.setCell ⟨B5,0,none⟩ (.slice q' m c')):=by
  obtain ⟨b1,b2,_,_,hb⟩:=hv.appended (by decide) hrow hn hB hown' hgrow
  refine ⟨hb,fun j o hj _ hj1 hp=>?_,?_⟩
  · have hlt:=heap_lt hj
    rw [pt_box hv] at hp
    have e1:=(Below.heap_alloc W tmp j hlt).trans hj
    have e2:=(hgrow.block j (by simp;omega) (fun e=>hp e.symm)).trans e1
    exact (Below.heap_setCell w1 ⟨B5,0,none⟩ _ j (by show j ≠ B5;omega)).trans e2
  · rw [pt_box b2,pt_box hv]
    rcases hat with e | e
    · exact .inl e
    · refine .inr ⟨_,e,by simp,?_⟩
      have:=(hown'.lt _ e).2
      simpa using this
theorem info29:∃ i,Tryz.prog.info? 151=some i∧i.zero=some (.agg #[.int .i64 0,.string ⟨#[]⟩,.int .i64 0,.int .i64 0])∧i.size=4∧i.bytes=40:=by
  have h:(Tryz.prog.info? 151).map (fun i=>(i.zero,i.size,i.bytes))=some (some (.agg #[.int .i64 0,.string ⟨#[]⟩,.int .i64 0,.int .i64 0]),4,40):=by kernel_rfl
  cases hi:Tryz.prog.info? 151 with
  | none=>rw [hi] at h;cases h
  | some i =>
    rw [hi] at h
    simp only [Option.map_some,Option.some.injEq,Prod.mk.injEq] at h
    obtain ⟨e1,e2,e3⟩:=h
    exact ⟨i,rfl,e1,e2,e3⟩
end Go.Proofs.YtpcniebkabkikaaGreatDoor
