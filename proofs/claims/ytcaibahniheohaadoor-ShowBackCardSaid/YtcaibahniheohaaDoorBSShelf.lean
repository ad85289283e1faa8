/-
  DERIVED: THE SHELF's CONTRACTS AT THIS DUMP, IN PLAIN WORDS (tools/lay-plain.mjs out of 'TrydShelf.lean', which tools/lay-shelf.mjs wrote): THE SAME DECLARATIONS UNDER THE SAME NAMES: 'import', 'namespace', 'open', 'def', 'theorem' AND NOTHING ELSE: no command of the shelf's: FOR A HAND-IN. Each laying: the table of numbers ('.._ren') and one theorem, a field a fact of the dump's own or the kernel's comparison; each contract: ONE APPLICATION.
-/
import Derived.Shelf.Small.Wraps
import Derived.Shelf.Strconv.Itoa0
import Derived.Shelf.Strconv.Itoa1
import Derived.Shelf.LaysM
import Derived.Shelf.Strconv.Itoa2
import Derived.Shelf.Strconv.Itoa3
import Derived.Shelf.Strconv.Clone
import Derived.Shelf.Strings.Prefix
import Derived.Shelf.Unicode.Props
import Derived.Shelf.Unicode.DecodeSlow
import Derived.Shelf.Unicode.DecodeAny
import Derived.Shelf.Unicode.Is16White
import Derived.Shelf.Unicode.IsSpaceAny
import Derived.Shelf.Unicode.Is16Any
import Derived.Shelf.Unicode.Is32Any
import Derived.Shelf.Unicode.ExclAny
import Derived.Shelf.Unicode.PredsAny
import Derived.Shelf.Unicode.PredsPay
import Derived.Shelf.Slices.Turned
import Derived.Test.YtcaibahniheohaaDoorProg
namespace Go.Proofs
open Go.Shelf
def Tryd.laysM171_ren : Go.Shelf.Ren := ⟨fun | 171 => 70 | 243 => 88 | 246 => 102 | 283 => 108 | 284 => 109 | 285 => 110 | 286 => 111 | 129 => 115 | 317 => 114 | 318 => 116 | 319 => 117 | 320 => 118 | 337 => 119 | 338 => 120 | n => n, fun | 3 => 3 | 9 => 9 | 2 => 2 | 4 => 4 | 171 => 179 | 0 => 0 | 53 => 180 | 37 => 24 | 5 => 5 | 173 => 183 | 212 => 188 | 51 => 139 | 20 => 20 | 213 => 189 | 46 => 171 | 232 => 192 | 233 => 193 | n => n, fun | 17 => 6 | 18 => 7 | 19 => 8 | n => n⟩
theorem Tryd.laysM171 : Go.Proofs.LaysM.n171 Tryd.prog Tryd.laysM171_ren := {
 mixed := by kernel_rfl
 f129 := Tryd.func115.trans (congrArg some (by kernel_rfl))
 f171 := Tryd.func70.trans (congrArg some (by kernel_rfl))
 f243 := Tryd.func88.trans (congrArg some (by kernel_rfl))
 f246 := Tryd.func102.trans (congrArg some (by kernel_rfl))
 f283 := Tryd.func108.trans (congrArg some (by kernel_rfl))
 f284 := Tryd.func109.trans (congrArg some (by kernel_rfl))
 f285 := Tryd.func110.trans (congrArg some (by kernel_rfl))
 f286 := Tryd.func111.trans (congrArg some (by kernel_rfl))
 f317 := Tryd.func114.trans (congrArg some (by kernel_rfl))
 f318 := Tryd.func116.trans (congrArg some (by kernel_rfl))
 f319 := Tryd.func117.trans (congrArg some (by kernel_rfl))
 f320 := Tryd.func118.trans (congrArg some (by kernel_rfl))
 f337 := Tryd.func119.trans (congrArg some (by kernel_rfl))
 f338 := Tryd.func120.trans (congrArg some (by kernel_rfl))
 t0 := Tryd.underlying0
 a0 := Tryd.isAgg0
 z0 := Tryd.sizeOf0
 v0 := Tryd.zeroValue0
 t2 := Tryd.underlying2
 a2 := Tryd.isAgg2
 z2 := Tryd.sizeOf2
 v2 := Tryd.zeroValue2
 t3 := Tryd.underlying3
 a3 := Tryd.isAgg3
 z3 := Tryd.sizeOf3
 v3 := Tryd.zeroValue3
 t4 := Tryd.underlying4
 a4 := Tryd.isAgg4
 z4 := Tryd.sizeOf4
 v4 := Tryd.zeroValue4
 t5 := Tryd.underlying5
 a5 := Tryd.isAgg5
 z5 := Tryd.sizeOf5
 v5 := Tryd.zeroValue5
 t9 := Tryd.underlying9
 a9 := Tryd.isAgg9
 z9 := Tryd.sizeOf9
 v9 := Tryd.zeroValue9
 t20 := Tryd.underlying20
 a20 := Tryd.isAgg20
 z20 := Tryd.sizeOf20
 v20 := Tryd.zeroValue20
 t37 := Tryd.underlying24
 a37 := Tryd.isAgg24
 z37 := Tryd.sizeOf24
 v37 := Tryd.zeroValue24
 t46 := Tryd.underlying171
 a46 := Tryd.isAgg171
 z46 := Tryd.sizeOf171
 v46 := Tryd.zeroValue171
 t51 := Tryd.underlying139
 a51 := Tryd.isAgg139
 z51 := Tryd.sizeOf139
 v51 := Tryd.zeroValue139
 t53 := Tryd.underlying180
 a53 := Tryd.isAgg180
 z53 := Tryd.sizeOf180
 v53 := Tryd.zeroValue180
 t171 := Tryd.underlying179
 a171 := Tryd.isAgg179
 z171 := Tryd.sizeOf179
 v171 := Tryd.zeroValue179
 t173 := Tryd.underlying183
 a173 := Tryd.isAgg183
 z173 := Tryd.sizeOf183
 v173 := Tryd.zeroValue183
 t212 := Tryd.underlying188
 a212 := Tryd.isAgg188
 z212 := Tryd.sizeOf188
 v212 := Tryd.zeroValue188
 t213 := Tryd.underlying189
 a213 := Tryd.isAgg189
 z213 := Tryd.sizeOf189
 t232 := Tryd.underlying192
 a232 := Tryd.isAgg192
 z232 := Tryd.sizeOf192
 v232 := Tryd.zeroValue192
 t233 := Tryd.underlying193
 a233 := Tryd.isAgg193
 z233 := Tryd.sizeOf193
 v233 := Tryd.zeroValue193
 g17 := by kernel_rfl
 g18 := by kernel_rfl
 g19 := by kernel_rfl
 i0 := by kernel_rfl
 i2 := by kernel_rfl
 i3 := by kernel_rfl
 i4 := by kernel_rfl
 i5 := by kernel_rfl
 i9 := by kernel_rfl
 i20 := by kernel_rfl
 i37 := by kernel_rfl
 i46 := by kernel_rfl
 i51 := by kernel_rfl
 i53 := by kernel_rfl
 i171 := by kernel_rfl
 i173 := by kernel_rfl
 i212 := by kernel_rfl
 i232 := by kernel_rfl
 i233 := by kernel_rfl
 m17 := by kernel_rfl
 m18 := by kernel_rfl
 m19 := by kernel_rfl }
open Go.RowKit Go.Sort Go.Lib in
theorem Tryd.strconv_Itoa (n : Int) (h0 : -9223372036854775808 ≤ n) (h1 : n ≤ 9223372036854775807) (w : World) (htab : Lib.TabIs Tryd.prog w "internal/strconv.uint64pow10" .u64 Lib.pow10Tab) :
  Calls Tryd.prog 70 #[.int .i64 n] w fun e w' => e = .returned (.string ⟨(Lib.itoa n).toArray⟩) ∧ ∃ k os, w' = grow (w.drewN k) os := Any.strconv_Itoa Tryd.laysM171 n h0 h1 w htab
def Tryd.lays200_ren : Go.Shelf.Ren := ⟨fun | 200 => 66 | 261 => 86 | 311 => 99 | 312 => 100 | n => n, fun | 21 => 21 | 4 => 4 | 51 => 139 | 5 => 5 | 119 => 140 | 0 => 0 | 141 => 142 | 196 => 161 | 193 => 158 | 3 => 3 | 198 => 164 | 49 => 162 | 194 => 159 | 201 => 167 | 226 => 177 | 46 => 171 | 227 => 178 | n => n, fun | 7 => 0 | 8 => 1 | n => n⟩
theorem Tryd.lays200 : Go.Proofs.Lays.n200 Tryd.prog Tryd.lays200_ren := {
 mixed := by kernel_rfl
 f200 := Tryd.func66.trans (congrArg some (by kernel_rfl))
 f261 := Tryd.func86.trans (congrArg some (by kernel_rfl))
 f311 := Tryd.func99.trans (congrArg some (by kernel_rfl))
 f312 := Tryd.func100.trans (congrArg some (by kernel_rfl))
 t0 := Tryd.underlying0
 a0 := Tryd.isAgg0
 z0 := Tryd.sizeOf0
 v0 := Tryd.zeroValue0
 t3 := Tryd.underlying3
 a3 := Tryd.isAgg3
 z3 := Tryd.sizeOf3
 v3 := Tryd.zeroValue3
 t4 := Tryd.underlying4
 a4 := Tryd.isAgg4
 z4 := Tryd.sizeOf4
 v4 := Tryd.zeroValue4
 t5 := Tryd.underlying5
 a5 := Tryd.isAgg5
 z5 := Tryd.sizeOf5
 v5 := Tryd.zeroValue5
 t21 := Tryd.underlying21
 a21 := Tryd.isAgg21
 z21 := Tryd.sizeOf21
 v21 := Tryd.zeroValue21
 t46 := Tryd.underlying171
 a46 := Tryd.isAgg171
 z46 := Tryd.sizeOf171
 v46 := Tryd.zeroValue171
 t49 := Tryd.underlying162
 a49 := Tryd.isAgg162
 z49 := Tryd.sizeOf162
 v49 := Tryd.zeroValue162
 t51 := Tryd.underlying139
 a51 := Tryd.isAgg139
 z51 := Tryd.sizeOf139
 v51 := Tryd.zeroValue139
 t119 := Tryd.underlying140
 a119 := Tryd.isAgg140
 z119 := Tryd.sizeOf140
 t141 := Tryd.underlying142
 a141 := Tryd.isAgg142
 z141 := Tryd.sizeOf142
 v141 := Tryd.zeroValue142
 t193 := Tryd.underlying158
 a193 := Tryd.isAgg158
 z193 := Tryd.sizeOf158
 v193 := Tryd.zeroValue158
 t194 := Tryd.underlying159
 a194 := Tryd.isAgg159
 z194 := Tryd.sizeOf159
 v194 := Tryd.zeroValue159
 t196 := Tryd.underlying161
 a196 := Tryd.isAgg161
 z196 := Tryd.sizeOf161
 v196 := Tryd.zeroValue161
 t198 := Tryd.underlying164
 a198 := Tryd.isAgg164
 z198 := Tryd.sizeOf164
 v198 := Tryd.zeroValue164
 t201 := Tryd.underlying167
 a201 := Tryd.isAgg167
 z201 := Tryd.sizeOf167
 v201 := Tryd.zeroValue167
 t226 := Tryd.underlying177
 a226 := Tryd.isAgg177
 z226 := Tryd.sizeOf177
 v226 := Tryd.zeroValue177
 t227 := Tryd.underlying178
 a227 := Tryd.isAgg178
 z227 := Tryd.sizeOf178
 v227 := Tryd.zeroValue178
 g7 := by kernel_rfl
 g8 := by kernel_rfl }
open Go.RowKit Go.Lib in
theorem Tryd.unicode_IsLetter_all (r : Int) (w : World) (hlo : -2147483648 ≤ r) (hhi : r ≤ 2147483647) (htab : Lib.TabIs Tryd.prog w "unicode.properties" .u8 Lib.propertiesTab) (hV : RVar 1 letterT w) :
  Calls Tryd.prog 66 #[.int .i32 r] w fun e w' => e = .returned (.bool (isLetterU r)) ∧ Below w.heap.size w w' := Any.unicode_IsLetter_all Tryd.lays200 (by kernel_rfl) r w hlo hhi htab hV
end Go.Proofs
