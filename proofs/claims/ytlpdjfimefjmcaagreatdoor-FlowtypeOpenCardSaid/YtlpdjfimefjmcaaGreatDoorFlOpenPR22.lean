/- DERIVED: THE SHELF's CONTRACTS AT THIS DUMP, IN PLAIN WORDS (tools/lay-plain.mjs out of 'TryzShelfC.lean', which tools/lay-shelf.mjs wrote): THE SAME DECLARATIONS UNDER THE SAME NAMES: 'import', 'namespace', 'open', 'def', 'theorem' AND NOTHING ELSE: no command of the shelf's: FOR A HAND-IN. Each la -/
import Derived.Shelf.Strings.Builder1
import Derived.Shelf.Strings.Builder2
import Derived.Shelf.Strings.BuilderF
import Derived.Shelf.Strings.BuilderK
import Derived.Shelf.Strconv.Itoa0
import Derived.Shelf.Strconv.Itoa1
import Derived.Shelf.LaysM
import Derived.Shelf.Strconv.Itoa2
import Derived.Shelf.Strconv.Itoa3
import Derived.Shelf.Strconv.Itoa4
import Derived.Shelf.Strconv.ParseIntEmpty
import Derived.Shelf.Strconv.Clone
import Derived.Shelf.Strconv.SyntaxError
import Derived.Shelf.LaysC
import Derived.Shelf.Strconv.ToError
import Derived.Shelf.Strconv.Lower
import Derived.Shelf.Strconv.ParseUint10
import Derived.Shelf.Strconv.ParseUint10Empty
import Derived.Shelf.Strconv.ParseUint10Any
import Derived.Shelf.Strconv.ParseInt10
import Derived.Shelf.Strconv.RangeError
import Derived.Shelf.Strconv.ToErrorRange
import Derived.Shelf.Strconv.ParseUintEmpty
import Derived.Shelf.Strconv.ParseUint10b64
import Derived.Shelf.Strconv.ParseUint10b32
import Derived.Shelf.Strconv.ParseUint10b16
import Derived.Shelf.Strconv.ParseUint10b8
import Derived.Shelf.Strconv.ParseUint10At
import Derived.Shelf.Strconv.ParseInt10At64
import Derived.Shelf.Strconv.ParseInt10At32
import Derived.Shelf.Strconv.ParseInt10At16
import Derived.Shelf.Strconv.ParseInt10At8
import Derived.Shelf.Strconv.ParseInt10All
import Derived.Shelf.Strconv.ParseIntPublic10
import Derived.Shelf.Strings.Prefix
import Derived.Shelf.Bits.Mul64
import Derived.Shelf.Strings.Repeat
import Derived.Shelf.Slices.Turned
import Derived.Shelf.Slices.Equal
import Derived.Ground.SlgnProg
import Derived.Shelf.SlicesE.Equal
import Derived.Test.YtlpdjfimefjmcaaGreatDoorProg
import Derived.Test.YtlpdjfimefjmcaaGreatDoorFlOpenPR21
import Derived.Below
import Derived.Laws.OwnMore
import Derived.RegionTactic
import Derived.Deep.Draws
import Derived.RangeFuncNested
import Derived.RangeFuncBound
import Derived.RangeFuncCalls
import Derived.RangeFuncLeaves
import Derived.OwnWalkIn
import Derived.TacticsInMore
import Derived.LoopNIn
import Derived.LoopIn
import Derived.ScopeJumps
import Derived.WalkMore
open Go.Lib (hid)
namespace Go.Proofs
open Go.Shelf
def Tryz.laysM316_ren:Go.Shelf.Ren:=⟨fun | 316=>178 | n=>n,fun | 9=>9 | 3=>3 | 4=>4 | 37=>214 | 0=>0 | 127=>215 | 5=>5 | n=>n,fun | n=>n⟩
theorem Tryz.laysM316:Go.Proofs.LaysM.n316 Tryz.prog Tryz.laysM316_ren:={
 mixed:=by kernel_rfl
 f316:=Tryz.func178.trans (congrArg some (by kernel_rfl))
 t0:=Tryz.underlying0
 a0:=Tryz.isAgg0
 z0:=Tryz.sizeOf0
 v0:=Tryz.zeroValue0
 t3:=Tryz.underlying3
 a3:=Tryz.isAgg3
 z3:=Tryz.sizeOf3
 v3:=Tryz.zeroValue3
 t4:=Tryz.underlying4
 a4:=Tryz.isAgg4
 z4:=Tryz.sizeOf4
 v4:=Tryz.zeroValue4
 t9:=Tryz.underlying9
 a9:=Tryz.isAgg9
 z9:=Tryz.sizeOf9
 v9:=Tryz.zeroValue9
 t37:=Tryz.underlying214
 a37:=Tryz.isAgg214
 z37:=Tryz.sizeOf214
 v37:=Tryz.zeroValue214
 t127:=Tryz.underlying215
 a127:=Tryz.isAgg215
 z127:=Tryz.sizeOf215
 v127:=Tryz.zeroValue215
 t5:=Tryz.underlying5
 a5:=Tryz.isAgg5
 z5:=Tryz.sizeOf5
 v5:=Tryz.zeroValue5
 i0:=by kernel_rfl
 i3:=by kernel_rfl
 i4:=by kernel_rfl
 i5:=by kernel_rfl
 i9:=by kernel_rfl
 i37:=by kernel_rfl
 i127:=by kernel_rfl }
open Go.RowKit in
theorem Tryz.stringslite_Clone (s:ByteArray) (w:World) (hlim:s.size≤281474976710656) :
 Calls Tryz.prog 178 #[.string s] w fun e w'=>e=.returned (.string s)∧Below w.heap.size w w':=Any.stringslite_Clone Tryz.laysM316 s w hlim
def Tryz.laysC174_ren:Go.Shelf.Ren:=⟨fun | 174=>198 | 247=>205 | 245=>206 | 287=>211 | 279=>212 | 280=>213 | 281=>214 | 282=>215 | 321=>216 | 322=>217 | 316=>178 | 171=>219 | 205=>218 | 243=>220 | 246=>221 | 283=>222 | 284=>223 | 285=>224 | 286=>225 | 129=>227 | 317=>226 | 318=>228 | 319=>229 | 320=>230 | 337=>231 | 338=>232 | n=>n,fun | 9=>9 | 3=>3 | 2=>2 | 75=>219 | 85=>220 | 4=>4 | 167=>232 | 5=>5 | 53=>28 | 175=>233 | 46=>105 | 168=>235 | 37=>214 | 0=>0 | 210=>240 | 21=>21 | 127=>215 | 145=>244 | 143=>242 | 171=>246 | 173=>249 | 212=>252 | 51=>144 | 20=>20 | 213=>253 | 232=>256 | 233=>257 | 80=>186 | n=>n,fun | 15=>0 | 16=>1 | 17=>2 | 18=>3 | 19=>4 | n=>n⟩
theorem Tryz.laysC174:Go.Proofs.LaysC.n174 Tryz.prog Tryz.laysC174_ren:={
 mixed:=by kernel_rfl
 f129:=Tryz.func227.trans (congrArg some (by kernel_rfl))
 f171:=Tryz.func219.trans (congrArg some (by kernel_rfl))
 f174:=Tryz.func198.trans (congrArg some (by kernel_rfl))
 f205:=Tryz.func218.trans (congrArg some (by kernel_rfl))
 f243:=Tryz.func220.trans (congrArg some (by kernel_rfl))
 f245:=Tryz.func206.trans (congrArg some (by kernel_rfl))
 f246:=Tryz.func221.trans (congrArg some (by kernel_rfl))
 f247:=Tryz.func205.trans (congrArg some (by kernel_rfl))
 f279:=Tryz.func212.trans (congrArg some (by kernel_rfl))
 f280:=Tryz.func213.trans (congrArg some (by kernel_rfl))
 f281:=Tryz.func214.trans (congrArg some (by kernel_rfl))
 f282:=Tryz.func215.trans (congrArg some (by kernel_rfl))
 f283:=Tryz.func222.trans (congrArg some (by kernel_rfl))
 f284:=Tryz.func223.trans (congrArg some (by kernel_rfl))
 f285:=Tryz.func224.trans (congrArg some (by kernel_rfl))
 f286:=Tryz.func225.trans (congrArg some (by kernel_rfl))
 f287:=Tryz.func211.trans (congrArg some (by kernel_rfl))
 f316:=Tryz.func178.trans (congrArg some (by kernel_rfl))
 f317:=Tryz.func226.trans (congrArg some (by kernel_rfl))
 f318:=Tryz.func228.trans (congrArg some (by kernel_rfl))
 f319:=Tryz.func229.trans (congrArg some (by kernel_rfl))
 f320:=Tryz.func230.trans (congrArg some (by kernel_rfl))
 f321:=Tryz.func216.trans (congrArg some (by kernel_rfl))
 f322:=Tryz.func217.trans (congrArg some (by kernel_rfl))
 f337:=Tryz.func231.trans (congrArg some (by kernel_rfl))
 f338:=Tryz.func232.trans (congrArg some (by kernel_rfl))
 t0:=Tryz.underlying0
 a0:=Tryz.isAgg0
 z0:=Tryz.sizeOf0
 v0:=Tryz.zeroValue0
 t2:=Tryz.underlying2
 a2:=Tryz.isAgg2
 z2:=Tryz.sizeOf2
 v2:=Tryz.zeroValue2
 t3:=Tryz.underlying3
 a3:=Tryz.isAgg3
 z3:=Tryz.sizeOf3
 v3:=Tryz.zeroValue3
 t4:=Tryz.underlying4
 a4:=Tryz.isAgg4
 z4:=Tryz.sizeOf4
 v4:=Tryz.zeroValue4
 t5:=Tryz.underlying5
 a5:=Tryz.isAgg5
 z5:=Tryz.sizeOf5
 v5:=Tryz.zeroValue5
 t9:=Tryz.underlying9
 a9:=Tryz.isAgg9
 z9:=Tryz.sizeOf9
 v9:=Tryz.zeroValue9
 t20:=Tryz.underlying20
 a20:=Tryz.isAgg20
 z20:=Tryz.sizeOf20
 v20:=Tryz.zeroValue20
 t21:=Tryz.underlying21
 a21:=Tryz.isAgg21
 z21:=Tryz.sizeOf21
 v21:=Tryz.zeroValue21
 t37:=Tryz.underlying214
 a37:=Tryz.isAgg214
 z37:=Tryz.sizeOf214
 v37:=Tryz.zeroValue214
 t46:=Tryz.underlying105
 a46:=Tryz.isAgg105
 z46:=Tryz.sizeOf105
 v46:=Tryz.zeroValue105
 t51:=Tryz.underlying144
 a51:=Tryz.isAgg144
 z51:=Tryz.sizeOf144
 v51:=Tryz.zeroValue144
 t53:=Tryz.underlying28
 a53:=Tryz.isAgg28
 z53:=Tryz.sizeOf28
 v53:=Tryz.zeroValue28
 t75:=Tryz.underlying219
 a75:=Tryz.isAgg219
 z75:=Tryz.sizeOf219
 v75:=Tryz.zeroValue219
 t85:=Tryz.underlying220
 a85:=Tryz.isAgg220
 z85:=Tryz.sizeOf220
 v85:=Tryz.zeroValue220
 t127:=Tryz.underlying215
 a127:=Tryz.isAgg215
 z127:=Tryz.sizeOf215
 v127:=Tryz.zeroValue215
 t143:=Tryz.underlying242
 a143:=Tryz.isAgg242
 z143:=Tryz.sizeOf242
 v143:=Tryz.zeroValue242
 t145:=Tryz.underlying244
 a145:=Tryz.isAgg244
 z145:=Tryz.sizeOf244
 v145:=Tryz.zeroValue244
 t167:=Tryz.underlying232
 a167:=Tryz.isAgg232
 z167:=Tryz.sizeOf232
 v167:=Tryz.zeroValue232
 t168:=Tryz.underlying235
 a168:=Tryz.isAgg235
 z168:=Tryz.sizeOf235
 v168:=Tryz.zeroValue235
 t171:=Tryz.underlying246
 a171:=Tryz.isAgg246
 z171:=Tryz.sizeOf246
 v171:=Tryz.zeroValue246
 t173:=Tryz.underlying249
 a173:=Tryz.isAgg249
 z173:=Tryz.sizeOf249
 v173:=Tryz.zeroValue249
 t175:=Tryz.underlying233
 a175:=Tryz.isAgg233
 z175:=Tryz.sizeOf233
 v175:=Tryz.zeroValue233
 t210:=Tryz.underlying240
 a210:=Tryz.isAgg240
 z210:=Tryz.sizeOf240
 v210:=Tryz.zeroValue240
 t212:=Tryz.underlying252
 a212:=Tryz.isAgg252
 z212:=Tryz.sizeOf252
 v212:=Tryz.zeroValue252
 t213:=Tryz.underlying253
 a213:=Tryz.isAgg253
 z213:=Tryz.sizeOf253
 t232:=Tryz.underlying256
 a232:=Tryz.isAgg256
 z232:=Tryz.sizeOf256
 v232:=Tryz.zeroValue256
 t233:=Tryz.underlying257
 a233:=Tryz.isAgg257
 z233:=Tryz.sizeOf257
 v233:=Tryz.zeroValue257
 g15:=by kernel_rfl
 g16:=by kernel_rfl
 g17:=by kernel_rfl
 g18:=by kernel_rfl
 g19:=by kernel_rfl
 t80:=Tryz.underlying186
 a80:=Tryz.isAgg186
 z80:=Tryz.sizeOf186
 v80:=Tryz.zeroValue186
 i0:=by kernel_rfl
 i2:=by kernel_rfl
 i3:=by kernel_rfl
 i4:=by kernel_rfl
 i5:=by kernel_rfl
 i9:=by kernel_rfl
 i20:=by kernel_rfl
 i21:=by kernel_rfl
 i37:=by kernel_rfl
 i46:=by kernel_rfl
 i51:=by kernel_rfl
 i53:=by kernel_rfl
 i75:=by kernel_rfl
 i80:=by kernel_rfl
 i85:=by kernel_rfl
 i127:=by kernel_rfl
 i143:=by kernel_rfl
 i145:=by kernel_rfl
 i167:=by kernel_rfl
 i168:=by kernel_rfl
 i171:=by kernel_rfl
 i173:=by kernel_rfl
 i175:=by kernel_rfl
 i210:=by kernel_rfl
 i212:=by kernel_rfl
 i232:=by kernel_rfl
 i233:=by kernel_rfl
 m15:=by kernel_rfl
 m16:=by kernel_rfl
 m17:=by kernel_rfl
 m18:=by kernel_rfl
 m19:=by kernel_rfl
 c0:=by kernel_rfl
 c2:=by kernel_rfl
 c3:=by kernel_rfl
 c4:=by kernel_rfl
 c5:=by kernel_rfl
 c9:=by kernel_rfl
 c20:=by kernel_rfl
 c21:=by kernel_rfl
 c37:=by kernel_rfl
 c46:=by kernel_rfl
 c51:=by kernel_rfl
 c53:=by kernel_rfl
 c75:=by kernel_rfl
 c80:=by kernel_rfl
 c85:=by kernel_rfl
 c127:=by kernel_rfl
 c143:=by kernel_rfl
 c145:=by kernel_rfl
 c167:=by kernel_rfl
 c168:=by kernel_rfl
 c171:=by kernel_rfl
 c173:=by kernel_rfl
 c175:=by kernel_rfl
 c210:=by kernel_rfl
 c212:=by kernel_rfl
 c213:=by kernel_rfl
 c232:=by kernel_rfl
 c233:=by kernel_rfl }
open Go.RowKit in
theorem Tryz.strconv_ParseInt_10_at64_ok (s:ByteArray) (hmax:s.size≤9223372036854775806) (v:Int) (h:Lib.parseIntB 64 s.data.toList=.ok v) (w:World) :
 Calls Tryz.prog 198 #[.string s,.int .i64 10,.int .i64 64] w fun e w'=>e=.returned (.tuple #[.int .i64 v,.nilIface])∧(w'=w∨∃t,w'=Lib.bytesWorld w 5 t):=Any.strconv_ParseInt_10_at64_ok Tryz.laysC174 s hmax v h w
open Go.RowKit in
theorem Tryz.strconv_ParseInt_10_at64_range (s:ByteArray) (hlim:s.size≤281474976710656) (h:Lib.parseIntB 64 s.data.toList=.range) (ev:Value) (w:World) (hv:w.cell? ⟨1,0,none⟩=some ev) (hev:ev=.nilIface∨∃te pe,ev=.iface te pe) :
 Calls Tryz.prog 198 #[.string s,.int .i64 10,.int .i64 64] w fun e w'=>∃N,e=.returned (.tuple #[.int .i64 (Lib.intSat 64 s.data.toList),.iface 235 (.pointer (some ⟨N,0,none⟩))])∧w.heap.size≤N∧w'.heap[N]?=some (.cells #[.string ⟨#[80,97,114,115,101,73,110,116]⟩,.string s,ev] 240 (0,0))∧Below w.heap.size w w':=Any.strconv_ParseInt_10_at64_range Tryz.laysC174 s hlim h ev w hv hev
end Go.Proofs
namespace Go.Proofs.YtlpdjfimefjmcaaGreatDoor.Q
open Go Go.RowKit
def Env (w:World):Prop:=∃te pe,w.cell? ⟨1,0,none⟩=some (.iface te pe)
theorem Env.lt {w:World} (h:Env w):1<w.heap.size:=by
 obtain ⟨te,pe,h⟩:=h
 exact World.block_lt_of_cell? _ _ h
theorem Env.below {B:Nat} {w w':World} (h:Env w) (hb:Below B w w') (hB:1<B):Env w':=by
 obtain ⟨te,pe,h⟩:=h
 exact ⟨te,pe,(hb.cell (p:=⟨1,0,none⟩) hB).trans h⟩
abbrev tokV (k:Int) (t:ByteArray) (v a:Int):Value:=.agg #[.int .i64 k,.string t,.int .i64 v,.int .i64 a]
set_option maxRecDepth 100000 in
theorem name_key (s:ByteArray) (h:bl s∈keysL) (w:World):Calls Tryz.prog 189 #[.string s] w fun e w'=>e=.returned (.tuple #[tokV 2 s 0 0,.int .i64 0])∧Below w.heap.size w w':=by
 go_enter Tryz.func189,Tryz.ntmps189
 go_wp2_with (go_at_call 197;refine (isKeyword_yes s h _).mono ?_;rintro e w' ⟨rfl,rfl⟩)
 exact bodyPost_ret (v:=.tuple #[tokV 2 s 0 0,.int .i64 0]) (by simp [results,Tryz.results189,go_sem]) rfl ⟨rfl,by first|exact ((Below.refl _ _).alloc (Nat.le_refl _) _)⟩
set_option maxRecDepth 100000 in
theorem name_long (s:ByteArray) (h:bl s ∉ keysL) (hl:32<s.size) (w:World):Calls Tryz.prog 189 #[.string s] w fun e w'=>e=.returned (.tuple #[tokV 0 ⟨#[]⟩ 0 0,.int .i64 3])∧Below w.heap.size w w':=by
 go_enter Tryz.func189,Tryz.ntmps189
 go_wp2_with (go_at_call 197;refine (isKeyword_no s h _).mono ?_;rintro e w' ⟨rfl,rfl⟩)
 exact bodyPost_ret (v:=.tuple #[tokV 0 ⟨#[]⟩ 0 0,.int .i64 3]) (by simp [results,Tryz.results189,go_sem]) rfl ⟨rfl,(Below.refl _ _).alloc (Nat.le_refl _) _⟩
set_option maxRecDepth 100000 in
theorem name_ok (s:ByteArray) (h:bl s ∉ keysL) (hl:s.size≤32) (w:World):Calls Tryz.prog 189 #[.string s] w fun e w'=>e=.returned (.tuple #[tokV 1 s 0 0,.int .i64 0])∧Below w.heap.size w w':=by
 go_enter Tryz.func189,Tryz.ntmps189
 go_wp2_with (go_at_call 197;refine (isKeyword_no s h _).mono ?_;rintro e w' ⟨rfl,rfl⟩)
 exact bodyPost_ret (v:=.tuple #[tokV 1 s 0 0,.int .i64 0]) (by simp [results,Tryz.results189,go_sem]) rfl ⟨rfl,(Below.refl _ _).alloc (Nat.le_refl _) _⟩
theorem parse_ok (s:ByteArray) (h0:0<s.size) (hd:∀x∈bl s,digitB x=true) (hs:s.size≤281474976710656) (hv:valD (bl s)≤most) (w:World) :
 Calls Tryz.prog 198 #[.string s,.int .i64 10,.int .i64 64] w fun e w'=>e=.returned (.tuple #[.int .i64 ((valD (bl s):Nat):Int),.nilIface])∧Below w.heap.size w w':=by
 have hne:s.data.toList≠[]:=by
  intro e
  rw [←bl_length,bl,e] at h0
  exact absurd h0 (by simp)
 have hp:=parse_digits s.data.toList hne hd
 change _=if valD (bl s)≤most then Lib.NumEnd.ok ((valD (bl s):Nat):Int) else _ at hp
 rw [if_pos hv] at hp
 refine (Tryz.strconv_ParseInt_10_at64_ok s (by omega) _ hp w).mono ?_
 rintro e w' ⟨rfl,rfl|⟨t,rfl⟩⟩
 ·exact ⟨rfl,Below.refl _ _⟩
 ·exact ⟨rfl,Lib.bytesWorld_below _ _ _⟩
theorem parse_big (s:ByteArray) (h0:0<s.size) (hd:∀x∈bl s,digitB x=true) (hs:s.size≤281474976710656) (hv:most<valD (bl s)) (w:World) (hE:Env w) :
 Calls Tryz.prog 198 #[.string s,.int .i64 10,.int .i64 64] w fun e w'=>∃z N,e=.returned (.tuple #[.int .i64 z,.iface 235 (.pointer (some ⟨N,0,none⟩))])∧Below w.heap.size w w':=by
 have hne:s.data.toList≠[]:=by
  intro e
  rw [←bl_length,bl,e] at h0
  exact absurd h0 (by simp)
 have hp:=parse_digits s.data.toList hne hd
 change _=if valD (bl s)≤most then Lib.NumEnd.ok ((valD (bl s):Nat):Int) else _ at hp
 rw [if_neg (by omega)] at hp
 obtain ⟨te,pe,hE⟩:=hE
 refine (Tryz.strconv_ParseInt_10_at64_range s hs hp _ w hE (.inr ⟨te,pe,rfl⟩)).mono ?_
 rintro e w' ⟨N,rfl,_,_,hb⟩
 exact ⟨_,N,rfl,hb⟩
structure TokAt (w:World) (g:Nat) (k:Int) (t:ByteArray) (v a:Int):Prop where
 c0:w.cell? ⟨g,0,none⟩=some (.int .i64 k)
 c1:w.cell? ⟨g,1,none⟩=some (.string t)
 c2:w.cell? ⟨g,2,none⟩=some (.int .i64 v)
 c3:w.cell? ⟨g,3,none⟩=some (.int .i64 a)
 f0:w.frozen? ⟨g,0,none⟩=false
 f1:w.frozen? ⟨g,1,none⟩=false
 f2:w.frozen? ⟨g,2,none⟩=false
 f3:w.frozen? ⟨g,3,none⟩=false
theorem TokAt.new (w:World) (k:Int) (t:ByteArray) (v a:Int) (T:TypeId):TokAt (w.alloc (.cells #[.int .i64 k,.string t,.int .i64 v,.int .i64 a] T)) w.heap.size k t v a :=
 ⟨by simp [go_sem],by simp [go_sem],by simp [go_sem],by simp [go_sem],by simp [go_sem],by simp [go_sem],by simp [go_sem],by simp [go_sem]⟩
theorem TokAt.below {w w':World} {B g:Nat} {k:Int} {t:ByteArray} {v a:Int} (h:TokAt w g k t v a) (hb:Below B w w') (hg:g<B):TokAt w' g k t v a :=
 ⟨(hb.cell (p:=⟨g,0,none⟩) hg).trans h.c0,(hb.cell (p:=⟨g,1,none⟩) hg).trans h.c1,(hb.cell (p:=⟨g,2,none⟩) hg).trans h.c2,(hb.cell (p:=⟨g,3,none⟩) hg).trans h.c3,
  (hb.frozen (p:=⟨g,0,none⟩) hg).trans h.f0,(hb.frozen (p:=⟨g,1,none⟩) hg).trans h.f1,(hb.frozen (p:=⟨g,2,none⟩) hg).trans h.f2,(hb.frozen (p:=⟨g,3,none⟩) hg).trans h.f3⟩
theorem set4 {w w1:World} (hB:Below w.heap.size w w1) {g:Nat} (hg:w.heap.size≤g) (x0 x1 x2 x3:Value) :
 Below w.heap.size w ((((w1.setCell ⟨g,0,none⟩ x0).setCell ⟨g,1,none⟩ x1).setCell ⟨g,2,none⟩ x2).setCell ⟨g,3,none⟩ x3) :=
 (((hB.setCell (p:=⟨g,0,none⟩) hg _).setCell (p:=⟨g,1,none⟩) hg _).setCell (p:=⟨g,2,none⟩) hg _).setCell (p:=⟨g,3,none⟩) hg _
set_option maxRecDepth 100000 in
theorem number_ok (s:ByteArray) (h0:0<s.size) (hd:∀x∈bl s,digitB x=true) (hs:s.size≤281474976710656) (hv:valD (bl s)≤most) (w:World) :
 Calls Tryz.prog 192 #[.string s] w fun e w'=>e=.returned (.tuple #[tokV 3 s ((valD (bl s):Nat):Int) 0,.int .i64 0])∧Below w.heap.size w w':=by
 have hcall:=hid (fun W=>parse_ok s h0 hd hs hv W)
 clear h0 hd hs hv
 generalize valD (bl s)=V at *
 go_enter Tryz.func192,Tryz.ntmps192
 go_wp2_with (go_at_call 198;refine (hcall.out _).mono ?_)
 rintro e w1 ⟨rfl,hb⟩
 have s1:=hb.size
 simp only [World.size_alloc] at s1
 obtain ⟨k0,k1,k2,k3,f0,f1,f2,f3⟩:=(TokAt.new w 0 ⟨#[]⟩ 0 0 163).below hb (by simp)
 have hB:Below w.heap.size w w1:=((Below.refl _ w).alloc (Nat.le_refl _) _).trans (hb.mono (by simp))
 go_wp2
 exact bodyPost_ret (v:=.tuple #[tokV 3 s (V:Int) 0,.int .i64 0]) (by simp [results,Tryz.results192,go_sem,k0,k1,k2,k3]) rfl ⟨rfl,set4 hB (Nat.le_refl _) _ _ _ _⟩
set_option maxRecDepth 100000 in
theorem number_big (s:ByteArray) (h0:0<s.size) (hd:∀x∈bl s,digitB x=true) (hs:s.size≤281474976710656) (hv:most<valD (bl s)) (w:World) (hE:Env w) :
 Calls Tryz.prog 192 #[.string s] w fun e w'=>e=.returned (.tuple #[tokV 0 ⟨#[]⟩ 0 0,.int .i64 3])∧Below w.heap.size w w':=by
 have hlt:=hE.lt
 have hcall:=hid (parse_big s h0 hd hs hv _ (hE.below ((Below.refl _ w).alloc (Nat.le_refl _) (.cells #[.int .i64 0,.string ⟨#[]⟩,.int .i64 0,.int .i64 0] 163)) hlt))
 clear h0 hd hs hv
 go_enter Tryz.func192,Tryz.ntmps192
 go_wp2_with (go_at_call 198;refine (hcall.out).mono ?_)
 rintro e w1 ⟨z,N,rfl,hb⟩
 have s1:=hb.size
 simp only [World.size_alloc] at s1
 obtain ⟨k0,k1,k2,k3,f0,f1,f2,f3⟩:=(TokAt.new w 0 ⟨#[]⟩ 0 0 163).below hb (by simp)
 have hB:Below w.heap.size w w1:=((Below.refl _ w).alloc (Nat.le_refl _) _).trans (hb.mono (by simp))
 go_wp2
 exact bodyPost_ret (v:=.tuple #[tokV 0 ⟨#[]⟩ 0 0,.int .i64 3]) (by simp [results,Tryz.results192,go_sem,k0,k1,k2,k3]) rfl ⟨rfl,set4 hB (Nat.le_refl _) _ _ _ _⟩
set_option maxRecDepth 100000 in
theorem mark_two (s:ByteArray) (h2:2≤s.size) (hs:s.size≤9223372036854775806) (h:bl (s.extract 0 2)∈marksL) (w:World) :
 Calls Tryz.prog 193 #[.string s] w fun e w'=>e=.returned (.tuple #[tokV 4 (s.extract 0 2) 0 0,.int .i64 0])∧Below w.heap.size w w':=by
 have hcall:=hid (fun W=>isMark_yes (s.extract 0 2) h W)
 have hm:min (2:Int) (s.size:Int)=2:=by omega
 clear h
 go_enter Tryz.func193,Tryz.ntmps193
 go_wp2
 go_loop [4] (fun i=>i=.int .i64 2) (fun i=>(intOf i).toNat)
 case atStart=>rfl
 case round =>
  obtain rfl:=hrel
  go_wp2_with (go_at_call 199;refine (hcall.out _).mono ?_;rintro e w' ⟨rfl,rfl⟩)
  exact bodyPost_ret (v:=.tuple #[tokV 4 (s.extract 0 2) 0 0,.int .i64 0]) (by simp [results,Tryz.results193,go_sem]) rfl ⟨rfl,(Below.refl _ _).alloc (Nat.le_refl _) _⟩
set_option maxRecDepth 100000 in
theorem mark_one (s:ByteArray) (h1:1≤s.size) (hs:s.size≤9223372036854775806) (h:bl (s.extract 0 1)∈marksL) (hn:2≤s.size→bl (s.extract 0 2) ∉ marksL) (w:World) :
 Calls Tryz.prog 193 #[.string s] w fun e w'=>e=.returned (.tuple #[tokV 4 (s.extract 0 1) 0 0,.int .i64 0])∧Below w.heap.size w w':=by
 have hcall:=hid (fun W=>isMark_yes (s.extract 0 1) h W)
 have hcall2:=hid (fun (h2:2≤s.size) W=>isMark_no (s.extract 0 2) (hn h2) W)
 have hm:(∃k:Nat,1≤k∧k≤2∧k≤s.size∧min (2:Int) (s.size:Int)=k):=by
  by_cases h2:2≤s.size
  ·exact ⟨2,by omega,by omega,by omega,by omega⟩
  ·exact ⟨1,by omega,by omega,by omega,by omega⟩
 obtain ⟨k0,hk1,hk2,hk3,hm⟩:=hm
 clear h hn
 go_enter Tryz.func193,Tryz.ntmps193
 go_wp2
 go_loop [4] (fun i=>∃k:Nat,1≤k∧k≤2∧k≤s.size∧i=.int .i64 k) (fun i=>(intOf i).toNat)
 case atStart=>exact ⟨k0,hk1,hk2,hk3,rfl⟩
 case round =>
  clear hm hk1 hk2 hk3
  obtain ⟨k,hk1,hk2,hk3,rfl⟩:=hrel
  by_cases h2:k=2
  ·subst h2
   have hc:=hcall2.out hk3
   go_wp2_with (go_at_call 199;refine (hc _).mono ?_;rintro e w' ⟨rfl,rfl⟩)
   go_round
   case rel=>exact ⟨1,by omega,by omega,by omega,by go_num⟩
   case measure=>simp [intOf]
  ·obtain rfl:k=1:=by omega
   go_wp2_with (go_at_call 199;refine (hcall.out _).mono ?_;rintro e w' ⟨rfl,rfl⟩)
   exact bodyPost_ret (v:=.tuple #[tokV 4 (s.extract 0 1) 0 0,.int .i64 0]) (by simp [results,Tryz.results193,go_sem]) rfl ⟨rfl,(Below.refl _ _).alloc (Nat.le_refl _) _⟩
set_option maxRecDepth 100000 in
theorem mark_no (s:ByteArray) (h1:1≤s.size) (hs:s.size≤9223372036854775806) (h:bl (s.extract 0 1) ∉ marksL) (hn:2≤s.size→bl (s.extract 0 2) ∉ marksL) (w:World) :
 Calls Tryz.prog 193 #[.string s] w fun e w'=>e=.returned (.tuple #[tokV 0 ⟨#[]⟩ 0 0,.int .i64 40])∧Below w.heap.size w w':=by
 have hcall:=hid (fun W=>isMark_no (s.extract 0 1) h W)
 have hcall2:=hid (fun (h2:2≤s.size) W=>isMark_no (s.extract 0 2) (hn h2) W)
 have hm:(∃k:Nat,k≤2∧k≤s.size∧min (2:Int) (s.size:Int)=k):=by
  by_cases h2:2≤s.size
  ·exact ⟨2,by omega,by omega,by omega⟩
  ·exact ⟨1,by omega,by omega,by omega⟩
 obtain ⟨k0,hk2,hk3,hm⟩:=hm
 clear h hn
 go_enter Tryz.func193,Tryz.ntmps193
 go_wp2
 go_loop [4] (fun i=>∃k:Nat,k≤2∧k≤s.size∧i=.int .i64 k) (fun i=>(intOf i).toNat)
 case atStart=>exact ⟨k0,hk2,hk3,rfl⟩
 case round =>
  clear hm hk2 hk3
  obtain ⟨k,hk2,hk3,rfl⟩:=hrel
  by_cases h2:k=2
  ·subst h2
   have hc:=hcall2.out hk3
   go_wp2_with (go_at_call 199;refine (hc _).mono ?_;rintro e w' ⟨rfl,rfl⟩)
   go_round
   case rel=>exact ⟨1,by omega,by omega,by go_num⟩
   case measure=>simp [intOf]
  by_cases h1':k=1
  ·subst h1'
   go_wp2_with (go_at_call 199;refine (hcall.out _).mono ?_;rintro e w' ⟨rfl,rfl⟩)
   go_round
   case rel=>exact ⟨0,by omega,by omega,by go_num⟩
   case measure=>simp [intOf]
  ·obtain rfl:k=0:=by omega
   go_wp2
   exact bodyPost_ret (v:=.tuple #[tokV 0 ⟨#[]⟩ 0 0,.int .i64 40]) (by simp [results,Tryz.results193,go_sem]) rfl ⟨rfl,(Below.refl _ _).alloc (Nat.le_refl _) _⟩
def TokRes (W:World) (k:Int) (t:ByteArray) (v er:Int) (e:Ending) (W':World):Prop:=e=.returned (.tuple #[tokV k t v 0,.int .i64 er])∧Below W.heap.size W W'
theorem below_box {w w1:World} {o:Obj} (hb:Below (w.alloc o).heap.size (w.alloc o) w1):Below w.heap.size w w1 :=
 ((Below.refl _ w).alloc (Nat.le_refl _) o).trans (hb.mono (by simp))
set_option maxRecDepth 100000 in
theorem first_letter (s:ByteArray) (h0:0<s.size) (hs:s.size≤9223372036854775806) (hl:letterB (s[0]).toNat=true) (k:Int) (t:ByteArray) (v er:Int) (n:Nat) (hn:((bl s).takeWhile nameB).length=n)
 (hcall:∀W,Env W→Calls Tryz.prog 189 #[.string (s.extract 0 n)] W (TokRes W k t v er)) (w:World) (hE:Env w):Calls Tryz.prog 180 #[.string s] w (TokRes w k t v er):=by
 have hlt:=hE.lt
 have hn2:n≤s.size:=by rw [←hn,←bl_length];exact (List.takeWhile_sublist _).length_le
 have hl1:=hid (fun W=>hl ▸ isLetter_any (s[0]).toNat W)
 have hr:=hid (fun W=>hn ▸ run_name s hs W)
 have hc:=hid (hcall _ (hE.below ((Below.refl _ w).alloc (Nat.le_refl _) (.cells #[.int .i64 0,.string ⟨#[]⟩,.int .i64 0,.int .i64 0] 163)) hlt))
 clear hl hcall hn
 go_enter Tryz.func180,Tryz.ntmps180
 go_wp2_with (first|(go_at_call 188;refine (hl1.out _).mono ?_;rintro e w' ⟨rfl,rfl⟩)|(go_at_call 185;refine (hr.out _).mono ?_;rintro e w' ⟨rfl,rfl⟩)|(go_at_call 189;refine hc.out.mono ?_))
 rintro e w1 ⟨rfl,hb⟩
 have s1:=hb.size
 simp only [World.size_alloc] at s1
 obtain ⟨k0,k1,k2,k3,f0,f1,f2,f3⟩:=(TokAt.new w 0 ⟨#[]⟩ 0 0 163).below hb (by simp)
 have hB:=below_box hb
 clear hb
 go_wp2
 exact bodyPost_ret (v:=.tuple #[tokV k t v 0,.int .i64 er]) (by simp [results,Tryz.results180,go_sem,k0,k1,k2,k3]) rfl ⟨rfl,set4 hB (Nat.le_refl _) _ _ _ _⟩
set_option maxRecDepth 100000 in
theorem first_digit (s:ByteArray) (h0:0<s.size) (hs:s.size≤9223372036854775806) (hl:letterB (s[0]).toNat=false) (hd:digitB (s[0]).toNat=true) (k:Int) (t:ByteArray) (v er:Int) (n:Nat) (hn:((bl s).takeWhile digitB).length=n)
 (hcall:∀W,Env W→Calls Tryz.prog 192 #[.string (s.extract 0 n)] W (TokRes W k t v er)) (w:World) (hE:Env w):Calls Tryz.prog 180 #[.string s] w (TokRes w k t v er):=by
 have hlt:=hE.lt
 have hn2:n≤s.size:=by rw [←hn,←bl_length];exact (List.takeWhile_sublist _).length_le
 have hl1:=hid (fun W=>hl ▸ isLetter_any (s[0]).toNat W)
 have hd1:=hid (fun W=>hd ▸ isDigit_any (s[0]).toNat W)
 have hr:=hid (fun W=>hn ▸ run_digit s hs W)
 have hc:=hid (hcall _ (hE.below ((Below.refl _ w).alloc (Nat.le_refl _) (.cells #[.int .i64 0,.string ⟨#[]⟩,.int .i64 0,.int .i64 0] 163)) hlt))
 clear hl hd hcall hn
 go_enter Tryz.func180,Tryz.ntmps180
 go_wp2_with (first|(go_at_call 188;refine (hl1.out _).mono ?_;rintro e w' ⟨rfl,rfl⟩)|(go_at_call 191;refine (hd1.out _).mono ?_;rintro e w' ⟨rfl,rfl⟩)|(go_at_call 185;refine (hr.out _).mono ?_;rintro e w' ⟨rfl,rfl⟩)|(go_at_call 192;refine hc.out.mono ?_))
 rintro e w1 ⟨rfl,hb⟩
 have s1:=hb.size
 simp only [World.size_alloc] at s1
 obtain ⟨k0,k1,k2,k3,f0,f1,f2,f3⟩:=(TokAt.new w 0 ⟨#[]⟩ 0 0 163).below hb (by simp)
 have hB:=below_box hb
 clear hb
 go_wp2
 exact bodyPost_ret (v:=.tuple #[tokV k t v 0,.int .i64 er]) (by simp [results,Tryz.results180,go_sem,k0,k1,k2,k3]) rfl ⟨rfl,set4 hB (Nat.le_refl _) _ _ _ _⟩
set_option maxRecDepth 100000 in
theorem first_mark (s:ByteArray) (h0:0<s.size) (hl:letterB (s[0]).toNat=false) (hd:digitB (s[0]).toNat=false) (k:Int) (t:ByteArray) (v er:Int)
 (hcall:∀W,Calls Tryz.prog 193 #[.string s] W (TokRes W k t v er)) (w:World):Calls Tryz.prog 180 #[.string s] w (TokRes w k t v er):=by
 have hl1:=hid (fun W=>hl ▸ isLetter_any (s[0]).toNat W)
 have hd1:=hid (fun W=>hd ▸ isDigit_any (s[0]).toNat W)
 have hc:=hid (hcall)
 clear hl hd hcall
 go_enter Tryz.func180,Tryz.ntmps180
 go_wp2_with (first|(go_at_call 188;refine (hl1.out _).mono ?_;rintro e w' ⟨rfl,rfl⟩)|(go_at_call 191;refine (hd1.out _).mono ?_;rintro e w' ⟨rfl,rfl⟩)|(go_at_call 193;refine (hc.out _).mono ?_))
 rintro e w1 ⟨rfl,hb⟩
 have s1:=hb.size
 simp only [World.size_alloc] at s1
 obtain ⟨k0,k1,k2,k3,f0,f1,f2,f3⟩:=(TokAt.new w 0 ⟨#[]⟩ 0 0 163).below hb (by simp)
 have hB:=below_box hb
 clear hb
 go_wp2
 exact bodyPost_ret (v:=.tuple #[tokV k t v 0,.int .i64 er]) (by simp [results,Tryz.results180,go_sem,k0,k1,k2,k3]) rfl ⟨rfl,set4 hB (Nat.le_refl _) _ _ _ _⟩
theorem bl_take (s:ByteArray) (n:Nat):bl (s.extract 0 n)=(bl s).take n:=by rw [bl_extract,List.drop_zero]
theorem size_take (s:ByteArray) (n:Nat) (h:n≤s.size):(s.extract 0 n).size=n:=by rw [←bl_length,bl_take,List.length_take,bl_length];omega
theorem wordL_letter {c:Nat} {r:List Nat} (h:letterB c=true):wordL (c::r)=(((c::r).takeWhile nameB).length,if (c::r).take ((c::r).takeWhile nameB).length∈keysL then 2 else 1):=by rw [wordL,if_pos h]
theorem wordL_digit {c:Nat} {r:List Nat} (hl:letterB c=false) (h:digitB c=true):wordL (c::r)=(((c::r).takeWhile digitB).length,3):=by rw [wordL,if_neg (by rw [hl];simp),if_pos h]
theorem wordL_mark {c:Nat} {r:List Nat} (hl:letterB c=false) (h:digitB c=false):wordL (c::r)=if (c::r).take 2∈mark2 then (2,4) else if c∈mark1 then (1,4) else (0,0):=by rw [wordL,if_neg (by rw [hl];simp),if_neg (by rw [h];simp)]
theorem take2_mark {l:List Nat} (h:2≤l.length):l.take 2∈marksL↔l.take 2∈mark2:=by
 match l,h with
 | a::b::r,_ =>
  simp only [marksL,List.mem_append,List.take_succ_cons,List.take_zero]
  constructor
  ·rintro (h|h)
   ·simp [mark1] at h
   ·exact h
  ·exact .inr
theorem take1_mark (c:Nat):[c]∈marksL↔c∈mark1:=by
 simp [marksL,mark1,mark2]
theorem not_mark2 {l:List Nat} (h:l.length<2):l.take 2 ∉ mark2:=by
 intro hm
 have:(l.take 2).length=2:=(show ∀m∈mark2,m.length=2 by decide) _ hm
 rw [List.length_take] at this
 omega
theorem first_ok (s:ByteArray) (h0:0<s.size) (hs:s.size≤281474976710656) (h:errL (bl s)=0) (w:World) (hE:Env w) :
 Calls Tryz.prog 180 #[.string s] w (TokRes w ((wordL (bl s)).2:Nat) (s.extract 0 (wordL (bl s)).1) ((valL (bl s):Nat):Int) 0):=by
 have hg:=bl_get s 0 h0
 have hle:=wordL_le (bl s)
 rw [bl_length] at hle
 have hbt:=bl_take s (wordL (bl s)).1
 have hst:=size_take s (wordL (bl s)).1 hle
 have h1:=bl_take s 1
 have h2:=bl_take s 2
 have hlen:=bl_length s
 obtain ⟨c,hc⟩:∃c,(s[0]).toNat=c:=⟨_,rfl⟩
 rw [hc] at hg
 obtain ⟨r,hr⟩:∃r,bl s=c::r:=by
  cases hb:bl s with
  | nil=>rw [hb] at hg;simp at hg
  | cons d r=>rw [hb] at hg;simp at hg;exact ⟨r,by rw [hg]⟩
 have hw0:(wordL (bl s)).1≠0:=by
  intro e;rw [errL,if_pos e] at h;exact absurd h (by decide)
 rw [errL,if_neg hw0] at h
 have hn1:¬((wordL (bl s)).2=1∧32<(wordL (bl s)).1):=by
  intro e;rw [if_pos e] at h;exact absurd h (by decide)
 rw [if_neg hn1] at h
 have hn2:¬((wordL (bl s)).2=3∧most<valD ((bl s).take (wordL (bl s)).1)):=by
  intro e;rw [if_pos e] at h;exact absurd h (by decide)
 clear h
 by_cases hl:letterB c=true
 ·have hw:wordL (bl s)=(((bl s).takeWhile nameB).length,if (bl s).take ((bl s).takeWhile nameB).length∈keysL then 2 else 1):=by rw [hr];exact wordL_letter hl
  have hn:((bl s).takeWhile nameB).length=(wordL (bl s)).1:=by rw [hw]
  refine first_letter s h0 (by omega) (by rw [hc];exact hl) _ _ _ _ (wordL (bl s)).1 hn (fun W _=>?_) w hE
  by_cases hk:(bl s).take ((bl s).takeWhile nameB).length∈keysL
  ·have e2:(wordL (bl s)).2=2:=by rw [hw];exact if_pos hk
   have hv:valL (bl s)=0:=by rw [valL,e2];rfl
   rw [e2,hv]
   exact name_key _ (by rw [hbt,←hn];exact hk) W
  ·have e2:(wordL (bl s)).2=1:=by rw [hw];exact if_neg hk
   have hv:valL (bl s)=0:=by rw [valL,e2];rfl
   rw [e2,hv]
   exact name_ok _ (by rw [hbt,←hn];exact hk) (by rw [hst];rw [e2] at hn1;omega) W
 ·have hl:letterB c=false:=by simpa using hl
  by_cases hd:digitB c=true
  ·have hw:wordL (bl s)=(((bl s).takeWhile digitB).length,3):=by rw [hr];exact wordL_digit hl hd
   have hn:((bl s).takeWhile digitB).length=(wordL (bl s)).1:=by rw [hw]
   have e2:(wordL (bl s)).2=3:=by rw [hw]
   have hv:valL (bl s)=valD (bl (s.extract 0 (wordL (bl s)).1)):=by rw [valL,e2,hbt];rfl
   refine first_digit s h0 (by omega) (by rw [hc];exact hl) (by rw [hc];exact hd) _ _ _ _ (wordL (bl s)).1 hn (fun W _=>?_) w hE
   rw [e2,hv]
   refine number_ok _ (by rw [hst];omega) (fun x hx=>?_) (by rw [hst];omega) ?_ W
   ·rw [hbt,←hn,takeWhile_is_take] at hx
    exact mem_takeWhile _ x hx
   ·rw [hbt];rw [e2] at hn2;omega
  ·have hd:digitB c=false:=by simpa using hd
   have hw:wordL (bl s)=if (bl s).take 2∈mark2 then (2,4) else if c∈mark1 then (1,4) else (0,0):=by
    have:=wordL_mark (r:=r) hl hd
    rw [←hr] at this;exact this
   refine first_mark s h0 (by rw [hc];exact hl) (by rw [hc];exact hd) _ _ _ _ (fun W=>?_) w
   have ht1:(bl s).take 1=[c]:=by rw [hr];rfl
   by_cases hm2:(bl s).take 2∈mark2
   ·have hsz:2≤s.size:=by
     rw [←hlen]
     rcases Nat.lt_or_ge (bl s).length 2 with hh|hh
     ·exact absurd hm2 (not_mark2 hh)
     ·exact hh
    rw [if_pos hm2] at hw
    have hv:valL (bl s)=0:=by rw [valL,hw];rfl
    rw [hv,hw]
    exact mark_two s hsz (by omega) (by rw [h2];exact (take2_mark (by rw [hlen];exact hsz)).2 hm2) W
   ·rw [if_neg hm2] at hw
    by_cases hm1:c∈mark1
    ·rw [if_pos hm1] at hw
     have hv:valL (bl s)=0:=by rw [valL,hw];rfl
     rw [hv,hw]
     exact mark_one s h0 (by omega) (by rw [h1,ht1];exact (take1_mark c).2 hm1) (fun hsz=>by rw [h2];exact fun hh=>hm2 ((take2_mark (by rw [hlen];exact hsz)).1 hh)) W
    ·rw [if_neg hm1] at hw
     exact absurd (by rw [hw]) hw0
theorem first_bad (s:ByteArray) (h0:0<s.size) (hs:s.size≤281474976710656) (h:errL (bl s)≠0) (w:World) (hE:Env w) :
 Calls Tryz.prog 180 #[.string s] w (TokRes w 0 ⟨#[]⟩ 0 ((errL (bl s):Nat):Int)):=by
 have hg:=bl_get s 0 h0
 have hle:=wordL_le (bl s)
 rw [bl_length] at hle
 have hbt:=bl_take s (wordL (bl s)).1
 have hst:=size_take s (wordL (bl s)).1 hle
 have h1:=bl_take s 1
 have h2:=bl_take s 2
 have hlen:=bl_length s
 obtain ⟨c,hc⟩:∃c,(s[0]).toNat=c:=⟨_,rfl⟩
 rw [hc] at hg
 obtain ⟨r,hr⟩:∃r,bl s=c::r:=by
  cases hb:bl s with
  | nil=>rw [hb] at hg;simp at hg
  | cons d r=>rw [hb] at hg;simp at hg;exact ⟨r,by rw [hg]⟩
 by_cases hl:letterB c=true
 ·have hw:wordL (bl s)=(((bl s).takeWhile nameB).length,if (bl s).take ((bl s).takeWhile nameB).length∈keysL then 2 else 1):=by rw [hr];exact wordL_letter hl
  have hn:((bl s).takeWhile nameB).length=(wordL (bl s)).1:=by rw [hw]
  have hnm:nameB c=true:=by unfold nameB;rw [hl];rfl
  have hn0:(wordL (bl s)).1≠0:=by rw [←hn,hr,List.takeWhile_cons,if_pos hnm];simp
  refine first_letter s h0 (by omega) (by rw [hc];exact hl) _ _ _ _ (wordL (bl s)).1 hn (fun W _=>?_) w hE
  by_cases hk:(bl s).take ((bl s).takeWhile nameB).length∈keysL
  ·have e2:(wordL (bl s)).2=2:=by rw [hw];exact if_pos hk
   exact absurd (by rw [errL,if_neg hn0,e2];simp) h
  ·have e2:(wordL (bl s)).2=1:=by rw [hw];exact if_neg hk
   by_cases h32:32<(wordL (bl s)).1
   ·have he:errL (bl s)=3:=by rw [errL,if_neg hn0,if_pos ⟨e2,h32⟩]
    rw [he]
    exact name_long _ (by rw [hbt,←hn];exact hk) (by rw [hst];exact h32) W
   ·exact absurd (by rw [errL,if_neg hn0,e2,if_neg (by omega),if_neg (by simp)]) h
 ·have hl:letterB c=false:=by simpa using hl
  by_cases hd:digitB c=true
  ·have hw:wordL (bl s)=(((bl s).takeWhile digitB).length,3):=by rw [hr];exact wordL_digit hl hd
   have hn:((bl s).takeWhile digitB).length=(wordL (bl s)).1:=by rw [hw]
   have e2:(wordL (bl s)).2=3:=by rw [hw]
   have hn0:(wordL (bl s)).1≠0:=by rw [←hn,hr,List.takeWhile_cons,if_pos hd];simp
   refine first_digit s h0 (by omega) (by rw [hc];exact hl) (by rw [hc];exact hd) _ _ _ _ (wordL (bl s)).1 hn (fun W hEW=>?_) w hE
   by_cases hm:most<valD ((bl s).take (wordL (bl s)).1)
   ·have he:errL (bl s)=3:=by rw [errL,if_neg hn0,if_neg (by rw [e2];omega),if_pos ⟨e2,hm⟩]
    rw [he]
    refine number_big _ (by rw [hst];omega) (fun x hx=>?_) (by rw [hst];omega) (by rw [hbt];exact hm) W hEW
    rw [hbt,←hn,takeWhile_is_take] at hx
    exact mem_takeWhile _ x hx
   ·exact absurd (by rw [errL,if_neg hn0,if_neg (by rw [e2];omega),if_neg (fun x=>hm x.2)]) h
  ·have hd:digitB c=false:=by simpa using hd
   have hw:wordL (bl s)=if (bl s).take 2∈mark2 then (2,4) else if c∈mark1 then (1,4) else (0,0):=by
    have:=wordL_mark (r:=r) hl hd
    rw [←hr] at this;exact this
   refine first_mark s h0 (by rw [hc];exact hl) (by rw [hc];exact hd) _ _ _ _ (fun W=>?_) w
   have ht1:(bl s).take 1=[c]:=by rw [hr];rfl
   by_cases hm2:(bl s).take 2∈mark2
   ·rw [if_pos hm2] at hw
    exact absurd (by rw [errL,hw];simp) h
   ·rw [if_neg hm2] at hw
    by_cases hm1:c∈mark1
    ·rw [if_pos hm1] at hw
     exact absurd (by rw [errL,hw];simp) h
    ·rw [if_neg hm1] at hw
     have he:errL (bl s)=40:=by rw [errL,hw,if_pos rfl]
     rw [he]
     exact mark_no s h0 (by omega) (by rw [h1,ht1];exact fun hh=>hm1 ((take1_mark c).1 hh)) (fun hsz=>by rw [h2];exact fun hh=>hm2 ((take2_mark (by rw [hlen];exact hsz)).1 hh)) W
structure It where
 k:Nat
 t:ByteArray
 v:Nat
 a:Nat
 e:Nat
def It.key (x:It):Tok × Nat:=(⟨x.k,bl x.t,x.v,x.a⟩,x.e)
def It.enc (x:It):Array Value:=#[tokV x.k x.t x.v x.a,.int .i64 (x.e:Int)]
def pt (B5:Nat) (W:World):Option Nat:=match W.cell? ⟨B5,0,none⟩ with
 | some (.slice (some a) _ _)=>some a.block
 | _=>none
structure Keep (n₀ n₁ B5:Nat) (W W':World):Prop where
 below:Below n₀ W W'
 kept:∀k o,W.heap[k]?=some o→o.isCells=true→n₁≤k→pt B5 W≠some k→W'.heap[k]?=some o
 leads:pt B5 W'=pt B5 W∨∃g,pt B5 W'=some g∧W.heap.size≤g∧g<W'.heap.size
theorem heap_lt {w:World} {b:Nat} {o:Obj} (h:w.heap[b]?=some o):b<w.heap.size:=(Array.getElem?_eq_some_iff.1 h).1
theorem Keep.trans {n₀ n₁ B5:Nat} {A B C:World} (h:Keep n₀ n₁ B5 A B) (k:Keep n₀ n₁ B5 B C):Keep n₀ n₁ B5 A C:=by
 refine ⟨h.below.trans k.below,fun j o ho hc hj hp=>?_,?_⟩
 ·have h1:=h.kept j o ho hc hj hp
  refine k.kept j o h1 hc hj ?_
  rcases h.leads with e|⟨g,e,hg,_⟩
  ·rw [e];exact hp
  ·rw [e]
   intro e'
   obtain rfl:g=j:=by injection e'
   exact absurd (heap_lt ho) (by omega)
 ·rcases k.leads with e|⟨g,e,hg,hl⟩
  ·rcases h.leads with e1|⟨g,e1,hg,hl⟩
   ·exact .inl (e.trans e1)
   ·exact .inr ⟨g,e.trans e1,hg,Nat.lt_of_lt_of_le hl k.below.size⟩
  ·exact .inr ⟨g,e,Nat.le_trans h.below.size hg,hl⟩
theorem pt_of_cell {B5:Nat} {W W':World} (h:W'.cell? ⟨B5,0,none⟩=W.cell? ⟨B5,0,none⟩):pt B5 W'=pt B5 W:=by
 unfold pt;rw [h]
theorem keep_b {n₀ n₁ B5:Nat} {w:World} (hn:n₀≤w.heap.size) (hB:B5<w.heap.size) (W:World) (l:Nat) (o o':Obj) (hl:w.heap.size≤l) (h:W.heap[l]?=some o) (hc:o.isCells=false) (hw:o.isWalk=false):Keep n₀ n₁ B5 W (W.putObj l o'):=by
 refine ⟨belowK_b hn W l o o' hl h hc hw,fun k o2 hk hc2 _ _=>?_,.inl (pt_of_cell ?_)⟩
 ·rw [World.putObj_heap_other (by intro e;subst e;rw [h] at hk;cases hk;rw [hc] at hc2;cases hc2)]
  exact hk
 ·exact World.cell?_of_block (a:=⟨B5,0,none⟩) (World.putObj_heap_other (by show B5≠l;omega))
def PtOk (B5:Nat) (W:World):Prop:=∀g,pt B5 W=some g→g<W.heap.size
theorem PtOk.keep {n₀ n₁ B5:Nat} {W W':World} (h:PtOk B5 W) (hk:Keep n₀ n₁ B5 W W'):PtOk B5 W':=by
 intro g hg
 rcases hk.leads with e|⟨g',e,_,hl⟩
 ·rw [e] at hg;exact Nat.lt_of_lt_of_le (h g hg) hk.below.size
 ·rw [e] at hg;obtain rfl:g'=g:=by injection hg
  exact hl
theorem pt_grow {B5:Nat} {W W':World} (hB:B5<W.heap.size) (hb:Below W.heap.size W W'):pt B5 W'=pt B5 W:=pt_of_cell (hb.cell (p:=⟨B5,0,none⟩) hB)
theorem PtOk.grow {B5:Nat} {W W':World} (h:PtOk B5 W) (hB:B5<W.heap.size) (hb:Below W.heap.size W W'):PtOk B5 W':=by
 intro g hg
 rw [pt_grow hB hb] at hg
 exact Nat.lt_of_lt_of_le (h g hg) hb.size
theorem grown_of_below {W W':World} (hb:Below W.heap.size W W'):W.grownBy W' none:=by
 obtain ⟨h1,h2,h3,h4,h5⟩:=hb
 exact ⟨h1,h2,h3,h4,fun k hk _=>h5 k hk⟩
structure WSt (S0 n₀ n₁ B5:Nat) (s:ByteArray) (J:List It→World→Prop) (a:Nat) (pre:List It) (W:World):Prop where
 items:pre.map It.key++itemsOf (scanL ((bl s).drop a) a)=itemsOf (scanL (bl s) 0)
 at_:a≤s.size
 inv:J pre W
 env:Env W
 ptok:PtOk B5 W
 b5:B5<W.heap.size
 n0:n₀≤W.heap.size
 n1:n₁≤W.heap.size
 s0:S0≤W.heap.size
theorem WSt.grow {S0 n₀ n₁ B5:Nat} {s:ByteArray} {J:List It→World→Prop} {a:Nat} {pre:List It} {W W':World} (h:WSt S0 n₀ n₁ B5 s J a pre W) (hJ:AbidesFrom S0 J) (hb:Below W.heap.size W W'):WSt S0 n₀ n₁ B5 s J a pre W' :=
 ⟨h.items,h.at_,hJ pre W W' none h.inv (grown_of_below hb) (fun r e=>by cases e),h.env.below hb h.env.lt,h.ptok.grow h.b5 hb,Nat.lt_of_lt_of_le h.b5 hb.size,Nat.le_trans h.n0 hb.size,Nat.le_trans h.n1 hb.size,Nat.le_trans h.s0 hb.size⟩
theorem WSt.keep {S0 n₀ n₁ B5:Nat} {s:ByteArray} {J:List It→World→Prop} {a a':Nat} {pre:List It} {x:It} {W W':World} (h:WSt S0 n₀ n₁ B5 s J a pre W) (hn:1<n₀) (hk:Keep n₀ n₁ B5 W W') (hJ:J (pre++[x]) W')
 (hi:itemsOf (scanL ((bl s).drop a) a)=x.key::itemsOf (scanL ((bl s).drop a') a')) (ha:a'≤s.size):WSt S0 n₀ n₁ B5 s J a' (pre++[x]) W' :=
 ⟨by rw [←h.items,hi,List.map_append,List.append_assoc];rfl,ha,hJ,h.env.below hk.below hn,h.ptok.keep hk,Nat.lt_of_lt_of_le h.b5 hk.below.size,Nat.le_trans h.n0 hk.below.size,Nat.le_trans h.n1 hk.below.size,Nat.le_trans h.s0 hk.below.size⟩
theorem tok_kept {n₀ n₁ B5:Nat} {W W3:World} {k:Int} {t:ByteArray} {v a:Int} (hp:PtOk B5 W) (hB:B5<W.heap.size) (h1:n₁≤W.heap.size)
 (hk:Keep n₀ n₁ B5 (W.alloc (.cells #[.int .i64 k,.string t,.int .i64 v,.int .i64 a] 163)) W3):TokAt W3 W.heap.size k t v a:=by
 have hb:Below W.heap.size W (W.alloc (.cells #[.int .i64 k,.string t,.int .i64 v,.int .i64 a] 163)):=(Below.refl _ _).alloc (Nat.le_refl _) _
 have h3:=hk.kept W.heap.size _ (World.alloc_heap_new W _) rfl h1 (by
  rw [pt_grow hB hb]
  intro e
  exact absurd (hp _ e) (Nat.lt_irrefl _))
 have hn:=TokAt.new W k t v a 163
 have hh:=World.alloc_heap_new W (.cells #[.int .i64 k,.string t,.int .i64 v,.int .i64 a] 163)
 have hc:∀j,W3.cell? ⟨W.heap.size,j,none⟩=(W.alloc (.cells #[.int .i64 k,.string t,.int .i64 v,.int .i64 a] 163)).cell? ⟨W.heap.size,j,none⟩:=fun j=>World.cell?_of_block (h3.trans hh.symm)
 have hf:∀j,W3.frozen? ⟨W.heap.size,j,none⟩=(W.alloc (.cells #[.int .i64 k,.string t,.int .i64 v,.int .i64 a] 163)).frozen? ⟨W.heap.size,j,none⟩:=fun j=>World.frozen?_of_block (h3.trans hh.symm)
 exact ⟨(hc 0).trans hn.c0,(hc 1).trans hn.c1,(hc 2).trans hn.c2,(hc 3).trans hn.c3,(hf 0).trans hn.f0,(hf 1).trans hn.f1,(hf 2).trans hn.f2,(hf 3).trans hn.f3⟩
theorem bl_rest (s:ByteArray) (k:Nat):bl (s.extract k s.size)=(bl s).drop k:=by
 rw [bl_extract,List.take_of_length_le (by rw [bl_length];exact Nat.le_refl _)]
theorem gap_le (l:List Nat):gapL l≤l.length:=by
 unfold gapL
 split
 ·exact (List.takeWhile_sublist _).length_le
 ·exact (List.takeWhile_sublist _).length_le
theorem WSt.gap {S0 n₀ n₁ B5:Nat} {s:ByteArray} {J:List It→World→Prop} {k:Nat} {pre:List It} {W:World} (h:WSt S0 n₀ n₁ B5 s J k pre W):WSt S0 n₀ n₁ B5 s J (k+gapL ((bl s).drop k)) pre W:=by
 have hg:=gap_le ((bl s).drop k)
 rw [List.length_drop,bl_length] at hg
 refine ⟨?_,by have:=h.at_;omega,h.inv,h.env,h.ptok,h.b5,h.n0,h.n1,h.s0⟩
 have:=h.items
 rw [items_gap,List.drop_drop] at this
 exact this
def itAt (s:ByteArray) (k:Nat):It:=⟨(wordL ((bl s).drop k)).2,(s.extract k s.size).extract 0 (wordL ((bl s).drop k)).1,valL ((bl s).drop k),k,0⟩
theorem at_word {s:ByteArray} {k:Nat} (hk:k<s.size) (hg:gapL ((bl s).drop k)=0) (he:errL ((bl s).drop k)=0) :
 itemsOf (scanL ((bl s).drop k) k)=(itAt s k).key::itemsOf (scanL ((bl s).drop (k+(wordL ((bl s).drop k)).1)) (k+(wordL ((bl s).drop k)).1))∧k+(wordL ((bl s).drop k)).1≤s.size∧0<(wordL ((bl s).drop k)).1∧(itAt s k).t.size=(wordL ((bl s).drop k)).1:=by
 have hw:=errL_word he
 have hle:=wordL_le ((bl s).drop k)
 rw [List.length_drop,bl_length] at hle
 have hst:(itAt s k).t.size=(wordL ((bl s).drop k)).1:=size_take _ _ (by simp;omega)
 refine ⟨?_,by omega,by omega,hst⟩
 have hbt:bl (itAt s k).t=((bl s).drop k).take (wordL ((bl s).drop k)).1:=by
  show bl ((s.extract k s.size).extract 0 _)=_
  rw [bl_take,bl_rest]
 have hkey:(itAt s k).key=(⟨(wordL ((bl s).drop k)).2,((bl s).drop k).take (wordL ((bl s).drop k)).1,valL ((bl s).drop k),k⟩,0):=by
  unfold It.key;rw [hbt];rfl
 rw [hkey,←List.drop_drop]
 clear hkey hbt hst hle hw
 cases hd:(bl s).drop k with
 | nil =>
  have:=congrArg List.length hd
  rw [List.length_drop,bl_length] at this
  simp at this;omega
 | cons c r =>
  rw [hd] at hg he
  obtain ⟨h1,h2⟩:=no_gap hg
  exact items_word k h1 h2 he
theorem at_err {s:ByteArray} {k:Nat} (hk:k<s.size) (hg:gapL ((bl s).drop k)=0) (he:errL ((bl s).drop k)≠0) :
 itemsOf (scanL ((bl s).drop k) k)=[(⟨0,⟨#[]⟩,0,k,errL ((bl s).drop k)⟩:It).key]:=by
 cases hd:(bl s).drop k with
 | nil =>
  have:=congrArg List.length hd
  rw [List.length_drop,bl_length] at this
  simp at this;omega
 | cons c r =>
  rw [hd] at hg he
  obtain ⟨h1,h2⟩:=no_gap hg
  exact items_err k h1 h2 he
theorem at_end {s:ByteArray} {k:Nat} (hk:s.size≤k):itemsOf (scanL ((bl s).drop k) k)=[]:=by
 rw [List.drop_of_length_le (by rw [bl_length];exact hk)]
 exact items_nil k
theorem len_lt {pre:List It} {x:It} {l r:List (Tok × Nat)} (h:pre.map It.key++l=r) (hl:∃q,l=x.key::q):pre.length<r.length:=by
 obtain ⟨q,rfl⟩:=hl
 have:=congrArg List.length h
 rw [List.length_append,List.length_map,List.length_cons] at this
 omega
theorem pre_of {pre:List It} {x:It} {l r:List (Tok × Nat)} (h:pre.map It.key++l=r) (hl:∃q,l=x.key::q):(pre++[x]).map It.key <+: r:=by
 obtain ⟨q,rfl⟩:=hl
 exact ⟨q,by rw [←h,List.map_append,List.append_assoc];rfl⟩
theorem yield_any {P:Program} {l:Nat} {args:Array Value} {W:World} {R:Ending→World→Prop} {m:Nat} (m':Nat) (h:YieldAt Fence.wide m P l args W R):YieldAt Fence.wide m' P l args W R:=by
 obtain ⟨fn,tmps,assign,body,hy,h1,h2⟩:=h
 exact ⟨fn,tmps,assign,body,hy,h1,fun c cs _=>h2 c cs (room_wide _)⟩
end Go.Proofs.YtlpdjfimefjmcaaGreatDoor.Q
