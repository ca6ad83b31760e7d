/- Shelf, NCut. -/
import Derived.Lib.CutLaws
import Derived.Shelf.LaysC
import Derived.Shelf.LaysM
import Derived.Shelf.Small.Wraps
import Derived.Shelf.Strconv.AtoiAll
import Derived.Shelf.Strconv.Itoa3
import Derived.Shelf.Strings.Builder1
import Derived.Shelf.Strings.BuilderK
import Derived.Shelf.Strings.Cut
import Derived.Shelf.Strings.Replace
import Derived.Shelf.Strings.Search2
import Derived.Shelf.Strings.Trim
import Derived.Test.YtnibldnfbikipaaGreatDoorNStrBy
set_option linter.unusedVariables false
set_option linter.unusedSimpArgs false
set_option maxHeartbeats 16000000
set_option maxRecDepth 100000
namespace Go.Proofs
open Go.Shelf
def Tryz.lays169_ren : Go.Shelf.Ren := ⟨fun | 169 => 135 | n => n, fun | 70 => 161 | 9 => 9 | 0 => 0 | 72 => 163 | 37 => 96 | 127 => 199 | 3 => 3 | 5 => 5 | n => n, fun | n => n⟩
theorem Tryz.lays169 : Go.Proofs.Lays.n169 Tryz.prog Tryz.lays169_ren := {
 mixed := by kernel_rfl
 f169 := Tryz.func135.trans (congrArg some (by kernel_rfl))
 t0 := Tryz.underlying0
 a0 := Tryz.isAgg0
 z0 := Tryz.sizeOf0
 v0 := Tryz.zeroValue0
 t3 := Tryz.underlying3
 a3 := Tryz.isAgg3
 z3 := Tryz.sizeOf3
 v3 := Tryz.zeroValue3
 t9 := Tryz.underlying9
 a9 := Tryz.isAgg9
 z9 := Tryz.sizeOf9
 v9 := Tryz.zeroValue9
 t37 := Tryz.underlying96
 a37 := Tryz.isAgg96
 z37 := Tryz.sizeOf96
 v37 := Tryz.zeroValue96
 t70 := Tryz.underlying161
 a70 := Tryz.isAgg161
 z70 := Tryz.sizeOf161
 v70 := Tryz.zeroValue161
 t72 := Tryz.underlying163
 a72 := Tryz.isAgg163
 z72 := Tryz.sizeOf163
 v72 := Tryz.zeroValue163
 t127 := Tryz.underlying199
 a127 := Tryz.isAgg199
 z127 := Tryz.sizeOf199
 v127 := Tryz.zeroValue199 }
theorem Tryz.Builder_Extra_169 : Builder.Extra Tryz.prog Tryz.lays169_ren := {
 sizeBuilder := by kernel_rfl
 liesBuilder := by kernel_rfl
 t5 := Tryz.underlying5
 a5 := Tryz.isAgg5
 z5 := Tryz.sizeOf5
 v5 := Tryz.zeroValue5
 infoByte := by kernel_rfl
 cellsByte := by kernel_rfl
 sizeByte := by kernel_rfl
 neB5 := by decide }
def Tryz.lays162_ren : Go.Shelf.Ren := ⟨fun | 162 => 223 | 232 => 257 | 227 => 258 | 234 => 259 | 236 => 260 | 228 => 273 | 271 => 274 | 151 => 275 | 120 => 287 | 197 => 264 | 152 => 288 | 260 => 280 | 137 => 302 | 119 => 303 | 224 => 292 | 225 => 291 | 217 => 290 | 266 => 304 | n => n, fun | 9 => 9 | 4 => 4 | 3 => 3 | 5 => 5 | 117 => 254 | 116 => 253 | 0 => 0 | 124 => 257 | 21 => 21 | 105 => 260 | 46 => 179 | 119 => 275 | 139 => 278 | 138 => 277 | n => n, fun | 3 => 3 | 4 => 4 | n => n⟩
theorem Tryz.lays162 : Go.Proofs.Lays.n162 Tryz.prog Tryz.lays162_ren := {
 mixed := by kernel_rfl
 f119 := Tryz.func303.trans (congrArg some (by kernel_rfl))
 f120 := Tryz.func287.trans (congrArg some (by kernel_rfl))
 f137 := Tryz.func302.trans (congrArg some (by kernel_rfl))
 f151 := Tryz.func275.trans (congrArg some (by kernel_rfl))
 f152 := Tryz.func288.trans (congrArg some (by kernel_rfl))
 f162 := Tryz.func223.trans (congrArg some (by kernel_rfl))
 f197 := Tryz.func264.trans (congrArg some (by kernel_rfl))
 f217 := Tryz.func290.trans (congrArg some (by kernel_rfl))
 f224 := Tryz.func292.trans (congrArg some (by kernel_rfl))
 f225 := Tryz.func291.trans (congrArg some (by kernel_rfl))
 f227 := Tryz.func258.trans (congrArg some (by kernel_rfl))
 f228 := Tryz.func273.trans (congrArg some (by kernel_rfl))
 f232 := Tryz.func257.trans (congrArg some (by kernel_rfl))
 f234 := Tryz.func259.trans (congrArg some (by kernel_rfl))
 f236 := Tryz.func260.trans (congrArg some (by kernel_rfl))
 f260 := Tryz.func280.trans (congrArg some (by kernel_rfl))
 f266 := Tryz.func304.trans (congrArg some (by kernel_rfl))
 f271 := Tryz.func274.trans (congrArg some (by kernel_rfl))
 t0 := Tryz.underlying0
 a0 := Tryz.isAgg0
 z0 := Tryz.sizeOf0
 v0 := Tryz.zeroValue0
 t3 := Tryz.underlying3
 a3 := Tryz.isAgg3
 z3 := Tryz.sizeOf3
 v3 := Tryz.zeroValue3
 t4 := Tryz.underlying4
 a4 := Tryz.isAgg4
 z4 := Tryz.sizeOf4
 v4 := Tryz.zeroValue4
 t5 := Tryz.underlying5
 a5 := Tryz.isAgg5
 z5 := Tryz.sizeOf5
 v5 := Tryz.zeroValue5
 t9 := Tryz.underlying9
 a9 := Tryz.isAgg9
 z9 := Tryz.sizeOf9
 v9 := Tryz.zeroValue9
 t21 := Tryz.underlying21
 a21 := Tryz.isAgg21
 z21 := Tryz.sizeOf21
 v21 := Tryz.zeroValue21
 t46 := Tryz.underlying179
 a46 := Tryz.isAgg179
 z46 := Tryz.sizeOf179
 v46 := Tryz.zeroValue179
 t105 := Tryz.underlying260
 a105 := Tryz.isAgg260
 z105 := Tryz.sizeOf260
 v105 := Tryz.zeroValue260
 t116 := Tryz.underlying253
 a116 := Tryz.isAgg253
 z116 := Tryz.sizeOf253
 t117 := Tryz.underlying254
 a117 := Tryz.isAgg254
 z117 := Tryz.sizeOf254
 v117 := Tryz.zeroValue254
 t119 := Tryz.underlying275
 a119 := Tryz.isAgg275
 z119 := Tryz.sizeOf275
 t124 := Tryz.underlying257
 a124 := Tryz.isAgg257
 z124 := Tryz.sizeOf257
 v124 := Tryz.zeroValue257
 t138 := Tryz.underlying277
 a138 := Tryz.isAgg277
 z138 := Tryz.sizeOf277
 v138 := Tryz.zeroValue277
 t139 := Tryz.underlying278
 a139 := Tryz.isAgg278
 z139 := Tryz.sizeOf278
 v139 := Tryz.zeroValue278
 g3 := by kernel_rfl
 g4 := by kernel_rfl }
open Go.RowKit in
theorem Tryz.strings_TrimRight_one (s : ByteArray) (c : UInt8) (hc : c.toNat < 128) (w : World) (hs : s.size ≤ 9223372036854775807) :
  Calls Tryz.prog 223 #[.string s, .string ⟨#[c]⟩] w fun e w' => e = .returned (.string ⟨(Lib.trimRightB s.data.toList c).toArray⟩) ∧ w' = w := Any.strings_TrimRight_one Tryz.lays162 s c hc w hs
def Tryz.lays103_ren : Go.Shelf.Ren := ⟨fun | 103 => 73 | 210 => 104 | 206 => 148 | n => n, fun | 9 => 9 | 4 => 4 | 24 => 104 | 3 => 3 | n => n, fun | n => n⟩
theorem Tryz.lays103 : Go.Proofs.Lays.n103 Tryz.prog Tryz.lays103_ren := {
 mixed := by kernel_rfl
 f103 := Tryz.func73.trans (congrArg some (by kernel_rfl))
 f206 := Tryz.func148.trans (congrArg some (by kernel_rfl))
 f210 := Tryz.func104.trans (congrArg some (by kernel_rfl))
 t3 := Tryz.underlying3
 a3 := Tryz.isAgg3
 z3 := Tryz.sizeOf3
 v3 := Tryz.zeroValue3
 t4 := Tryz.underlying4
 a4 := Tryz.isAgg4
 z4 := Tryz.sizeOf4
 v4 := Tryz.zeroValue4
 t9 := Tryz.underlying9
 a9 := Tryz.isAgg9
 z9 := Tryz.sizeOf9
 v9 := Tryz.zeroValue9
 t24 := Tryz.underlying104
 a24 := Tryz.isAgg104
 z24 := Tryz.sizeOf104
 v24 := Tryz.zeroValue104 }
open Go.RowKit in
theorem Tryz.strings_CutPrefix (s p : ByteArray) (w : World) :
  Calls Tryz.prog 73 #[.string s, .string p] w fun e w' => e = .returned (.tuple #[.string ⟨(Lib.trimPrefix s.data.toList p.data.toList).toArray⟩, .bool (Lib.hasPrefix s.data.toList p.data.toList)]) ∧ w' = w := Any.strings_CutPrefix Tryz.lays103 s p w
open Go.RowKit in
theorem Tryz.Builder_String_any_k (B b : Nat) (l : List UInt8) (w : World) (h : Lib.IsBuilderF 163 5 B b (Lib.byteCells l) w) (hBw : B ≤ w.heap.size) :
  Calls Tryz.prog 135 #[.pointer (some ⟨b, 0, none⟩)] w fun e w' => e = .returned (.string ⟨l.toArray⟩) ∧ (Lib.IsBuilderF 163 5 B b (Lib.byteCells l) w' ∧ Below B w w' ∧ Lib.OthersKept 5 (some b) w w') := Any.Builder_String_any_k Tryz.lays169 Tryz.Builder_Extra_169 B b l w h hBw
def Tryz.laysM171_ren : Go.Shelf.Ren := ⟨fun | 171 => 221 | 243 => 256 | 246 => 272 | 283 => 283 | 284 => 284 | 285 => 285 | 286 => 286 | 129 => 298 | 317 => 297 | 318 => 299 | 319 => 300 | 320 => 301 | 337 => 314 | 338 => 315 | n => n, fun | 3 => 3 | 9 => 9 | 2 => 2 | 4 => 4 | 171 => 268 | 0 => 0 | 53 => 178 | 37 => 96 | 5 => 5 | 173 => 271 | 212 => 281 | 51 => 282 | 20 => 20 | 213 => 283 | 46 => 179 | 232 => 300 | 233 => 301 | n => n, fun | 17 => 5 | 18 => 8 | 19 => 9 | n => n⟩
theorem Tryz.laysM171 : Go.Proofs.LaysM.n171 Tryz.prog Tryz.laysM171_ren := {
 mixed := by kernel_rfl
 f129 := Tryz.func298.trans (congrArg some (by kernel_rfl))
 f171 := Tryz.func221.trans (congrArg some (by kernel_rfl))
 f243 := Tryz.func256.trans (congrArg some (by kernel_rfl))
 f246 := Tryz.func272.trans (congrArg some (by kernel_rfl))
 f283 := Tryz.func283.trans (congrArg some (by kernel_rfl))
 f284 := Tryz.func284.trans (congrArg some (by kernel_rfl))
 f285 := Tryz.func285.trans (congrArg some (by kernel_rfl))
 f286 := Tryz.func286.trans (congrArg some (by kernel_rfl))
 f317 := Tryz.func297.trans (congrArg some (by kernel_rfl))
 f318 := Tryz.func299.trans (congrArg some (by kernel_rfl))
 f319 := Tryz.func300.trans (congrArg some (by kernel_rfl))
 f320 := Tryz.func301.trans (congrArg some (by kernel_rfl))
 f337 := Tryz.func314.trans (congrArg some (by kernel_rfl))
 f338 := Tryz.func315.trans (congrArg some (by kernel_rfl))
 t0 := Tryz.underlying0
 a0 := Tryz.isAgg0
 z0 := Tryz.sizeOf0
 v0 := Tryz.zeroValue0
 t2 := Tryz.underlying2
 a2 := Tryz.isAgg2
 z2 := Tryz.sizeOf2
 v2 := Tryz.zeroValue2
 t3 := Tryz.underlying3
 a3 := Tryz.isAgg3
 z3 := Tryz.sizeOf3
 v3 := Tryz.zeroValue3
 t4 := Tryz.underlying4
 a4 := Tryz.isAgg4
 z4 := Tryz.sizeOf4
 v4 := Tryz.zeroValue4
 t5 := Tryz.underlying5
 a5 := Tryz.isAgg5
 z5 := Tryz.sizeOf5
 v5 := Tryz.zeroValue5
 t9 := Tryz.underlying9
 a9 := Tryz.isAgg9
 z9 := Tryz.sizeOf9
 v9 := Tryz.zeroValue9
 t20 := Tryz.underlying20
 a20 := Tryz.isAgg20
 z20 := Tryz.sizeOf20
 v20 := Tryz.zeroValue20
 t37 := Tryz.underlying96
 a37 := Tryz.isAgg96
 z37 := Tryz.sizeOf96
 v37 := Tryz.zeroValue96
 t46 := Tryz.underlying179
 a46 := Tryz.isAgg179
 z46 := Tryz.sizeOf179
 v46 := Tryz.zeroValue179
 t51 := Tryz.underlying282
 a51 := Tryz.isAgg282
 z51 := Tryz.sizeOf282
 v51 := Tryz.zeroValue282
 t53 := Tryz.underlying178
 a53 := Tryz.isAgg178
 z53 := Tryz.sizeOf178
 v53 := Tryz.zeroValue178
 t171 := Tryz.underlying268
 a171 := Tryz.isAgg268
 z171 := Tryz.sizeOf268
 v171 := Tryz.zeroValue268
 t173 := Tryz.underlying271
 a173 := Tryz.isAgg271
 z173 := Tryz.sizeOf271
 v173 := Tryz.zeroValue271
 t212 := Tryz.underlying281
 a212 := Tryz.isAgg281
 z212 := Tryz.sizeOf281
 v212 := Tryz.zeroValue281
 t213 := Tryz.underlying283
 a213 := Tryz.isAgg283
 z213 := Tryz.sizeOf283
 t232 := Tryz.underlying300
 a232 := Tryz.isAgg300
 z232 := Tryz.sizeOf300
 v232 := Tryz.zeroValue300
 t233 := Tryz.underlying301
 a233 := Tryz.isAgg301
 z233 := Tryz.sizeOf301
 v233 := Tryz.zeroValue301
 g17 := by kernel_rfl
 g18 := by kernel_rfl
 g19 := by kernel_rfl
 i0 := by kernel_rfl
 i2 := by kernel_rfl
 i3 := by kernel_rfl
 i4 := by kernel_rfl
 i5 := by kernel_rfl
 i9 := by kernel_rfl
 i20 := by kernel_rfl
 i37 := by kernel_rfl
 i46 := by kernel_rfl
 i51 := by kernel_rfl
 i53 := by kernel_rfl
 i171 := by kernel_rfl
 i173 := by kernel_rfl
 i212 := by kernel_rfl
 i232 := by kernel_rfl
 i233 := by kernel_rfl
 m17 := by kernel_rfl
 m18 := by kernel_rfl
 m19 := by kernel_rfl }
open Go.RowKit Go.Sort Go.Lib in
theorem Tryz.strconv_Itoa (n : Int) (h0 : -9223372036854775808 ≤ n) (h1 : n ≤ 9223372036854775807) (w : World) (htab : Lib.TabIs Tryz.prog w "internal/strconv.uint64pow10" .u64 Lib.pow10Tab) :
  Calls Tryz.prog 221 #[.int .i64 n] w fun e w' => e = .returned (.string ⟨(Lib.itoa n).toArray⟩) ∧ ∃ k os, w' = grow (w.drewN k) os := Any.strconv_Itoa Tryz.laysM171 n h0 h1 w htab
def Tryz.laysC172_ren : Go.Shelf.Ren := ⟨fun | 172 => 281 | 244 => 294 | 245 => 295 | 247 => 306 | 279 => 307 | 280 => 308 | 281 => 309 | 282 => 310 | 287 => 316 | 316 => 317 | 171 => 221 | 205 => 318 | 321 => 320 | 322 => 321 | 243 => 256 | 246 => 272 | 283 => 283 | 284 => 284 | 285 => 285 | 286 => 286 | 129 => 298 | 317 => 297 | 318 => 299 | 319 => 300 | 320 => 301 | 337 => 314 | 338 => 315 | n => n, fun | 9 => 9 | 3 => 3 | 75 => 166 | 76 => 167 | 4 => 4 | 5 => 5 | 167 => 287 | 37 => 96 | 0 => 0 | 85 => 288 | 2 => 2 | 168 => 290 | 53 => 178 | 175 => 295 | 46 => 179 | 210 => 298 | 127 => 199 | 145 => 305 | 143 => 303 | 21 => 21 | 171 => 268 | 173 => 271 | 212 => 281 | 51 => 282 | 20 => 20 | 213 => 283 | 232 => 300 | 233 => 301 | 80 => 170 | n => n, fun | 15 => 6 | 16 => 7 | 17 => 5 | 18 => 8 | 19 => 9 | n => n⟩
theorem Tryz.laysC172 : Go.Proofs.LaysC.n172 Tryz.prog Tryz.laysC172_ren := {
 mixed := by kernel_rfl
 f129 := Tryz.func298.trans (congrArg some (by kernel_rfl))
 f171 := Tryz.func221.trans (congrArg some (by kernel_rfl))
 f172 := Tryz.func281.trans (congrArg some (by kernel_rfl))
 f205 := Tryz.func318.trans (congrArg some (by kernel_rfl))
 f243 := Tryz.func256.trans (congrArg some (by kernel_rfl))
 f244 := Tryz.func294.trans (congrArg some (by kernel_rfl))
 f245 := Tryz.func295.trans (congrArg some (by kernel_rfl))
 f246 := Tryz.func272.trans (congrArg some (by kernel_rfl))
 f247 := Tryz.func306.trans (congrArg some (by kernel_rfl))
 f279 := Tryz.func307.trans (congrArg some (by kernel_rfl))
 f280 := Tryz.func308.trans (congrArg some (by kernel_rfl))
 f281 := Tryz.func309.trans (congrArg some (by kernel_rfl))
 f282 := Tryz.func310.trans (congrArg some (by kernel_rfl))
 f283 := Tryz.func283.trans (congrArg some (by kernel_rfl))
 f284 := Tryz.func284.trans (congrArg some (by kernel_rfl))
 f285 := Tryz.func285.trans (congrArg some (by kernel_rfl))
 f286 := Tryz.func286.trans (congrArg some (by kernel_rfl))
 f287 := Tryz.func316.trans (congrArg some (by kernel_rfl))
 f316 := Tryz.func317.trans (congrArg some (by kernel_rfl))
 f317 := Tryz.func297.trans (congrArg some (by kernel_rfl))
 f318 := Tryz.func299.trans (congrArg some (by kernel_rfl))
 f319 := Tryz.func300.trans (congrArg some (by kernel_rfl))
 f320 := Tryz.func301.trans (congrArg some (by kernel_rfl))
 f321 := Tryz.func320.trans (congrArg some (by kernel_rfl))
 f322 := Tryz.func321.trans (congrArg some (by kernel_rfl))
 f337 := Tryz.func314.trans (congrArg some (by kernel_rfl))
 f338 := Tryz.func315.trans (congrArg some (by kernel_rfl))
 t0 := Tryz.underlying0
 a0 := Tryz.isAgg0
 z0 := Tryz.sizeOf0
 v0 := Tryz.zeroValue0
 t2 := Tryz.underlying2
 a2 := Tryz.isAgg2
 z2 := Tryz.sizeOf2
 v2 := Tryz.zeroValue2
 t3 := Tryz.underlying3
 a3 := Tryz.isAgg3
 z3 := Tryz.sizeOf3
 v3 := Tryz.zeroValue3
 t4 := Tryz.underlying4
 a4 := Tryz.isAgg4
 z4 := Tryz.sizeOf4
 v4 := Tryz.zeroValue4
 t5 := Tryz.underlying5
 a5 := Tryz.isAgg5
 z5 := Tryz.sizeOf5
 v5 := Tryz.zeroValue5
 t9 := Tryz.underlying9
 a9 := Tryz.isAgg9
 z9 := Tryz.sizeOf9
 v9 := Tryz.zeroValue9
 t20 := Tryz.underlying20
 a20 := Tryz.isAgg20
 z20 := Tryz.sizeOf20
 v20 := Tryz.zeroValue20
 t21 := Tryz.underlying21
 a21 := Tryz.isAgg21
 z21 := Tryz.sizeOf21
 v21 := Tryz.zeroValue21
 t37 := Tryz.underlying96
 a37 := Tryz.isAgg96
 z37 := Tryz.sizeOf96
 v37 := Tryz.zeroValue96
 t46 := Tryz.underlying179
 a46 := Tryz.isAgg179
 z46 := Tryz.sizeOf179
 v46 := Tryz.zeroValue179
 t51 := Tryz.underlying282
 a51 := Tryz.isAgg282
 z51 := Tryz.sizeOf282
 v51 := Tryz.zeroValue282
 t53 := Tryz.underlying178
 a53 := Tryz.isAgg178
 z53 := Tryz.sizeOf178
 v53 := Tryz.zeroValue178
 t75 := Tryz.underlying166
 a75 := Tryz.isAgg166
 z75 := Tryz.sizeOf166
 v75 := Tryz.zeroValue166
 t76 := Tryz.underlying167
 a76 := Tryz.isAgg167
 z76 := Tryz.sizeOf167
 v76 := Tryz.zeroValue167
 t85 := Tryz.underlying288
 a85 := Tryz.isAgg288
 z85 := Tryz.sizeOf288
 v85 := Tryz.zeroValue288
 t127 := Tryz.underlying199
 a127 := Tryz.isAgg199
 z127 := Tryz.sizeOf199
 v127 := Tryz.zeroValue199
 t143 := Tryz.underlying303
 a143 := Tryz.isAgg303
 z143 := Tryz.sizeOf303
 v143 := Tryz.zeroValue303
 t145 := Tryz.underlying305
 a145 := Tryz.isAgg305
 z145 := Tryz.sizeOf305
 v145 := Tryz.zeroValue305
 t167 := Tryz.underlying287
 a167 := Tryz.isAgg287
 z167 := Tryz.sizeOf287
 v167 := Tryz.zeroValue287
 t168 := Tryz.underlying290
 a168 := Tryz.isAgg290
 z168 := Tryz.sizeOf290
 v168 := Tryz.zeroValue290
 t171 := Tryz.underlying268
 a171 := Tryz.isAgg268
 z171 := Tryz.sizeOf268
 v171 := Tryz.zeroValue268
 t173 := Tryz.underlying271
 a173 := Tryz.isAgg271
 z173 := Tryz.sizeOf271
 v173 := Tryz.zeroValue271
 t175 := Tryz.underlying295
 a175 := Tryz.isAgg295
 z175 := Tryz.sizeOf295
 v175 := Tryz.zeroValue295
 t210 := Tryz.underlying298
 a210 := Tryz.isAgg298
 z210 := Tryz.sizeOf298
 v210 := Tryz.zeroValue298
 t212 := Tryz.underlying281
 a212 := Tryz.isAgg281
 z212 := Tryz.sizeOf281
 v212 := Tryz.zeroValue281
 t213 := Tryz.underlying283
 a213 := Tryz.isAgg283
 z213 := Tryz.sizeOf283
 t232 := Tryz.underlying300
 a232 := Tryz.isAgg300
 z232 := Tryz.sizeOf300
 v232 := Tryz.zeroValue300
 t233 := Tryz.underlying301
 a233 := Tryz.isAgg301
 z233 := Tryz.sizeOf301
 v233 := Tryz.zeroValue301
 g15 := by kernel_rfl
 g16 := by kernel_rfl
 g17 := by kernel_rfl
 g18 := by kernel_rfl
 g19 := by kernel_rfl
 t80 := Tryz.underlying170
 a80 := Tryz.isAgg170
 z80 := Tryz.sizeOf170
 v80 := Tryz.zeroValue170
 i0 := by kernel_rfl
 i2 := by kernel_rfl
 i3 := by kernel_rfl
 i4 := by kernel_rfl
 i5 := by kernel_rfl
 i9 := by kernel_rfl
 i20 := by kernel_rfl
 i21 := by kernel_rfl
 i37 := by kernel_rfl
 i46 := by kernel_rfl
 i51 := by kernel_rfl
 i53 := by kernel_rfl
 i75 := by kernel_rfl
 i76 := by kernel_rfl
 i80 := by kernel_rfl
 i85 := by kernel_rfl
 i127 := by kernel_rfl
 i143 := by kernel_rfl
 i145 := by kernel_rfl
 i167 := by kernel_rfl
 i168 := by kernel_rfl
 i171 := by kernel_rfl
 i173 := by kernel_rfl
 i175 := by kernel_rfl
 i210 := by kernel_rfl
 i212 := by kernel_rfl
 i232 := by kernel_rfl
 i233 := by kernel_rfl
 m15 := by kernel_rfl
 m16 := by kernel_rfl
 m17 := by kernel_rfl
 m18 := by kernel_rfl
 m19 := by kernel_rfl
 c0 := by kernel_rfl
 c2 := by kernel_rfl
 c3 := by kernel_rfl
 c4 := by kernel_rfl
 c5 := by kernel_rfl
 c9 := by kernel_rfl
 c20 := by kernel_rfl
 c21 := by kernel_rfl
 c37 := by kernel_rfl
 c46 := by kernel_rfl
 c51 := by kernel_rfl
 c53 := by kernel_rfl
 c75 := by kernel_rfl
 c76 := by kernel_rfl
 c80 := by kernel_rfl
 c85 := by kernel_rfl
 c127 := by kernel_rfl
 c143 := by kernel_rfl
 c145 := by kernel_rfl
 c167 := by kernel_rfl
 c168 := by kernel_rfl
 c171 := by kernel_rfl
 c173 := by kernel_rfl
 c175 := by kernel_rfl
 c210 := by kernel_rfl
 c212 := by kernel_rfl
 c213 := by kernel_rfl
 c232 := by kernel_rfl
 c233 := by kernel_rfl }
open Go.RowKit in
theorem Tryz.strconv_Atoi_ok (s : ByteArray) (hmax : s.size ≤ 9223372036854775806) (v : Int) (h : Lib.atoiAll s.data.toList = .ok v) (w : World) :
  Calls Tryz.prog 281 #[.string s] w fun e w' => e = .returned (.tuple #[.int .i64 v, .nilIface]) ∧ (w' = w ∨ ∃ t, w' = Lib.bytesWorld w 5 t) := Any.strconv_Atoi_ok Tryz.laysC172 s hmax v h w
open Go.RowKit in
theorem Tryz.strconv_Atoi_syntax (s : ByteArray) (hlim : s.size ≤ 281474976710656) (h : Lib.atoiAll s.data.toList = .«syntax») (ev : Value) (w : World) (hv : w.cell? ⟨6, 0, none⟩ = some ev) (hev : ev = .nilIface ∨ ∃ te pe, ev = .iface te pe) :
  Calls Tryz.prog 281 #[.string s] w fun e w' => ∃ N, e = .returned (.tuple #[.int .i64 (0), .iface 290 (.pointer (some ⟨N, 0, none⟩))]) ∧ w.heap.size ≤ N ∧ w'.heap[N]? = some (.cells #[.string ⟨#[65, 116, 111, 105]⟩, .string s, ev] 298 (0, 0)) ∧ Below w.heap.size w w' := Any.strconv_Atoi_syntax Tryz.laysC172 s hlim h ev w hv hev
open Go.RowKit in
theorem Tryz.strconv_Atoi_range (s : ByteArray) (hlim : s.size ≤ 281474976710656) (h : Lib.atoiAll s.data.toList = .range) (ev : Value) (w : World) (hv : w.cell? ⟨7, 0, none⟩ = some ev) (hev : ev = .nilIface ∨ ∃ te pe, ev = .iface te pe) :
  Calls Tryz.prog 281 #[.string s] w fun e w' => ∃ N, e = .returned (.tuple #[.int .i64 (Lib.atoiSat s.data.toList), .iface 290 (.pointer (some ⟨N, 0, none⟩))]) ∧ w.heap.size ≤ N ∧ w'.heap[N]? = some (.cells #[.string ⟨#[65, 116, 111, 105]⟩, .string s, ev] 298 (0, 0)) ∧ Below w.heap.size w w' := Any.strconv_Atoi_range Tryz.laysC172 s hlim h ev w hv hev
def Tryz.lays219_ren : Go.Shelf.Ren := ⟨fun | 219 => 279 | 217 => 290 | 225 => 291 | 224 => 292 | 267 => 293 | 266 => 304 | 314 => 305 | n => n, fun | 9 => 9 | 3 => 3 | 4 => 4 | 5 => 5 | 46 => 179 | 146 => 285 | 51 => 282 | n => n, fun | 1 => 2 | n => n⟩
theorem Tryz.lays219 : Go.Proofs.Lays.n219 Tryz.prog Tryz.lays219_ren := {
 mixed := by kernel_rfl
 f217 := Tryz.func290.trans (congrArg some (by kernel_rfl))
 f219 := Tryz.func279.trans (congrArg some (by kernel_rfl))
 f224 := Tryz.func292.trans (congrArg some (by kernel_rfl))
 f225 := Tryz.func291.trans (congrArg some (by kernel_rfl))
 f266 := Tryz.func304.trans (congrArg some (by kernel_rfl))
 f267 := Tryz.func293.trans (congrArg some (by kernel_rfl))
 f314 := Tryz.func305.trans (congrArg some (by kernel_rfl))
 t3 := Tryz.underlying3
 a3 := Tryz.isAgg3
 z3 := Tryz.sizeOf3
 v3 := Tryz.zeroValue3
 t4 := Tryz.underlying4
 a4 := Tryz.isAgg4
 z4 := Tryz.sizeOf4
 v4 := Tryz.zeroValue4
 t5 := Tryz.underlying5
 a5 := Tryz.isAgg5
 z5 := Tryz.sizeOf5
 v5 := Tryz.zeroValue5
 t9 := Tryz.underlying9
 a9 := Tryz.isAgg9
 z9 := Tryz.sizeOf9
 v9 := Tryz.zeroValue9
 t46 := Tryz.underlying179
 a46 := Tryz.isAgg179
 z46 := Tryz.sizeOf179
 v46 := Tryz.zeroValue179
 t51 := Tryz.underlying282
 a51 := Tryz.isAgg282
 z51 := Tryz.sizeOf282
 v51 := Tryz.zeroValue282
 t146 := Tryz.underlying285
 a146 := Tryz.isAgg285
 z146 := Tryz.sizeOf285
 v146 := Tryz.zeroValue285
 g1 := by kernel_rfl }
open Go.RowKit Go.Lib in
theorem Tryz.stringslite_Index_one (s : ByteArray) (c : UInt8) (w : World) :
  Calls Tryz.prog 279 #[.string s, .string ⟨#[c]⟩] w fun e w' => e = .returned (.int .i64 (Lib.indexByte s.data.toList c)) ∧ w' = w := Any.stringslite_Index_one Tryz.lays219 s c w
def Tryz.lays154_ren : Go.Shelf.Ren := ⟨fun | 154 => 224 | 138 => 261 | 165 => 262 | 143 => 263 | 166 => 133 | 197 => 264 | 169 => 135 | 195 => 276 | 218 => 277 | 240 => 177 | 241 => 278 | 219 => 279 | 260 => 280 | 276 => 220 | 277 => 289 | 217 => 290 | 225 => 291 | 224 => 292 | 267 => 293 | 266 => 304 | 314 => 305 | n => n, fun | 9 => 9 | 3 => 3 | 4 => 4 | 72 => 163 | 0 => 0 | 76 => 167 | 105 => 260 | 21 => 21 | 5 => 5 | 70 => 161 | 20 => 20 | 37 => 96 | 75 => 166 | 127 => 199 | 164 => 228 | 46 => 179 | 119 => 275 | 139 => 278 | 138 => 277 | 146 => 285 | 51 => 282 | 80 => 170 | n => n, fun | 1 => 2 | 3 => 3 | 4 => 4 | n => n⟩
theorem Tryz.lays154 : Go.Proofs.Lays.n154 Tryz.prog Tryz.lays154_ren := {
 mixed := by kernel_rfl
 f138 := Tryz.func261.trans (congrArg some (by kernel_rfl))
 f143 := Tryz.func263.trans (congrArg some (by kernel_rfl))
 f154 := Tryz.func224.trans (congrArg some (by kernel_rfl))
 f165 := Tryz.func262.trans (congrArg some (by kernel_rfl))
 f166 := Tryz.func133.trans (congrArg some (by kernel_rfl))
 f169 := Tryz.func135.trans (congrArg some (by kernel_rfl))
 f195 := Tryz.func276.trans (congrArg some (by kernel_rfl))
 f197 := Tryz.func264.trans (congrArg some (by kernel_rfl))
 f217 := Tryz.func290.trans (congrArg some (by kernel_rfl))
 f218 := Tryz.func277.trans (congrArg some (by kernel_rfl))
 f219 := Tryz.func279.trans (congrArg some (by kernel_rfl))
 f224 := Tryz.func292.trans (congrArg some (by kernel_rfl))
 f225 := Tryz.func291.trans (congrArg some (by kernel_rfl))
 f240 := Tryz.func177.trans (congrArg some (by kernel_rfl))
 f241 := Tryz.func278.trans (congrArg some (by kernel_rfl))
 f260 := Tryz.func280.trans (congrArg some (by kernel_rfl))
 f266 := Tryz.func304.trans (congrArg some (by kernel_rfl))
 f267 := Tryz.func293.trans (congrArg some (by kernel_rfl))
 f276 := Tryz.func220.trans (congrArg some (by kernel_rfl))
 f277 := Tryz.func289.trans (congrArg some (by kernel_rfl))
 f314 := Tryz.func305.trans (congrArg some (by kernel_rfl))
 t0 := Tryz.underlying0
 a0 := Tryz.isAgg0
 z0 := Tryz.sizeOf0
 v0 := Tryz.zeroValue0
 t3 := Tryz.underlying3
 a3 := Tryz.isAgg3
 z3 := Tryz.sizeOf3
 v3 := Tryz.zeroValue3
 t4 := Tryz.underlying4
 a4 := Tryz.isAgg4
 z4 := Tryz.sizeOf4
 v4 := Tryz.zeroValue4
 t5 := Tryz.underlying5
 a5 := Tryz.isAgg5
 z5 := Tryz.sizeOf5
 v5 := Tryz.zeroValue5
 t9 := Tryz.underlying9
 a9 := Tryz.isAgg9
 z9 := Tryz.sizeOf9
 v9 := Tryz.zeroValue9
 t20 := Tryz.underlying20
 a20 := Tryz.isAgg20
 z20 := Tryz.sizeOf20
 v20 := Tryz.zeroValue20
 t21 := Tryz.underlying21
 a21 := Tryz.isAgg21
 z21 := Tryz.sizeOf21
 v21 := Tryz.zeroValue21
 t37 := Tryz.underlying96
 a37 := Tryz.isAgg96
 z37 := Tryz.sizeOf96
 v37 := Tryz.zeroValue96
 t46 := Tryz.underlying179
 a46 := Tryz.isAgg179
 z46 := Tryz.sizeOf179
 v46 := Tryz.zeroValue179
 t51 := Tryz.underlying282
 a51 := Tryz.isAgg282
 z51 := Tryz.sizeOf282
 v51 := Tryz.zeroValue282
 t70 := Tryz.underlying161
 a70 := Tryz.isAgg161
 z70 := Tryz.sizeOf161
 v70 := Tryz.zeroValue161
 t72 := Tryz.underlying163
 a72 := Tryz.isAgg163
 z72 := Tryz.sizeOf163
 v72 := Tryz.zeroValue163
 t75 := Tryz.underlying166
 a75 := Tryz.isAgg166
 z75 := Tryz.sizeOf166
 v75 := Tryz.zeroValue166
 t76 := Tryz.underlying167
 a76 := Tryz.isAgg167
 z76 := Tryz.sizeOf167
 v76 := Tryz.zeroValue167
 t105 := Tryz.underlying260
 a105 := Tryz.isAgg260
 z105 := Tryz.sizeOf260
 v105 := Tryz.zeroValue260
 t119 := Tryz.underlying275
 a119 := Tryz.isAgg275
 z119 := Tryz.sizeOf275
 t127 := Tryz.underlying199
 a127 := Tryz.isAgg199
 z127 := Tryz.sizeOf199
 v127 := Tryz.zeroValue199
 t138 := Tryz.underlying277
 a138 := Tryz.isAgg277
 z138 := Tryz.sizeOf277
 v138 := Tryz.zeroValue277
 t139 := Tryz.underlying278
 a139 := Tryz.isAgg278
 z139 := Tryz.sizeOf278
 v139 := Tryz.zeroValue278
 t146 := Tryz.underlying285
 a146 := Tryz.isAgg285
 z146 := Tryz.sizeOf285
 v146 := Tryz.zeroValue285
 t164 := Tryz.underlying228
 a164 := Tryz.isAgg228
 z164 := Tryz.sizeOf228
 v164 := Tryz.zeroValue228
 g1 := by kernel_rfl
 g3 := by kernel_rfl
 g4 := by kernel_rfl }
theorem Tryz.Builder_Extra_154 : Builder.Extra Tryz.prog Tryz.lays154_ren := {
 sizeBuilder := by kernel_rfl
 liesBuilder := by kernel_rfl
 t5 := Tryz.underlying5
 a5 := Tryz.isAgg5
 z5 := Tryz.sizeOf5
 v5 := Tryz.zeroValue5
 infoByte := by kernel_rfl
 cellsByte := by kernel_rfl
 sizeByte := by kernel_rfl
 neB5 := by decide }
open Go.RowKit Go.Lib in
open Go.RowKit in
theorem Tryz.Builder_WriteString_k (B b : Nat) (bs : List Value) (s : ByteArray) (w : World) (h : Lib.IsBuilderF 163 5 B b bs w) (hlen : bs.length + s.size ≤ 140737488355328) (hBw : B ≤ w.heap.size) :
  Calls Tryz.prog 133 #[.pointer (some ⟨b, 0, none⟩), .string s] w fun e w' => e = .returned (.tuple #[.int .i64 s.size, .nilIface]) ∧ (Lib.BuilderAtF 163 5 B b (.pointer (some ⟨b, 0, none⟩)) (bs ++ Lib.strCells s) w' ∧ Below B w w' ∧ Lib.OthersKept 5 (some b) w w') :=
 Any.Builder_WriteString_k (P := Tryz.prog) (ρ := Tryz.lays154_ren) { Tryz.lays154 with } Tryz.Builder_Extra_154 B b bs s w h hlen hBw
end Go.Proofs
namespace Go.Proofs.YtnibldnfbikipaaGreatDoor
open Go.RowKit Go.Shelf
theorem indexP : ∀ l : List UInt8, (Lib.indexByte l 46 = -1 → fstP l = l ∧ sndP l = [] ∧ hasP l = false) ∧ (∀ i : Nat, Lib.indexByte l 46 = i → fstP l = l.take i ∧ sndP l = l.drop (i + 1) ∧ hasP l = true)
 | [] => ⟨fun _ => ⟨rfl, rfl, rfl⟩, fun i h => by simp [Lib.indexByte] at h⟩
 | b :: l => by
  have ih := indexP l
  have hge := Lib.indexByte_ge l 46
  unfold Lib.indexByte
  by_cases hb : b = 46
  ·subst hb
   refine ⟨fun h => by simp at h, fun i h => ?_⟩
   simp at h
   obtain rfl : i = 0 := by omega
   exact ⟨rfl, rfl, rfl⟩
  ·have e1 : (b == 46) = false := by simpa using hb
   have e2 : (b != 46) = true := by simpa using hb
   rw [e1]
   unfold fstP sndP hasP at *
   simp only [List.takeWhile_cons, List.dropWhile_cons, e2, if_true, Bool.false_eq_true, if_false]
   by_cases hn : Lib.indexByte l 46 = -1
   ·rw [hn]
    refine ⟨fun _ => ?_, fun i h => by simp at h⟩
    obtain ⟨a1, a2, a3⟩ := ih.1 hn
    rw [a1, a2, a3]
    exact ⟨rfl, rfl, rfl⟩
   ·have e3 : (Lib.indexByte l 46 == -1) = false := by simpa using hn
    rw [e3]
    refine ⟨fun h => by simp at h; omega, fun i h => ?_⟩
    simp at h
    obtain ⟨k, rfl⟩ : ∃ k, i = k + 1 := ⟨i - 1, by omega⟩
    obtain ⟨a1, a2, a3⟩ := ih.2 k (by omega)
    rw [a1, a2, a3]
    exact ⟨rfl, rfl, rfl⟩
theorem cutP (l : List UInt8) : Lib.cut l [46] = (fstP l, sndP l, hasP l) := by
 have hi := Lib.index_one l 46
 have hge := Lib.indexByte_ge l 46
 unfold Lib.cut
 rw [hi]
 split
 ·obtain ⟨a1, a2, a3⟩ := (indexP l).2 (Lib.indexByte l 46).toNat (by omega)
  rw [a1, a2, a3]
  rfl
 ·obtain ⟨a1, a2, a3⟩ := (indexP l).1 (by omega)
  rw [a1, a2, a3]
def pnt : ByteArray := ⟨#[46]⟩
theorem cut62_any (s : ByteArray) (w : World) (hs : s.size ≤ 9223372036854775807) :
  Calls Tryz.prog 271 #[.string s, .string ⟨#[46]⟩] w fun e w' => e = .returned (.tuple #[.string ⟨(fstP s.data.toList).toArray⟩, .string ⟨(sndP s.data.toList).toArray⟩, .bool (hasP s.data.toList)]) ∧ ∃ n, w' = w.drewN n := by
 have hcut := cutP s.data.toList
 have IX := fun u => Tryz.stringslite_Index_one s 46 u
 have hone := Lib.index_one s.data.toList 46
 rcases Lib.indexB_cases s pnt with hix | ⟨i, hix, hroom⟩
 ·obtain ⟨e1, e2, e3⟩ := Lib.cutB_miss s pnt hix
  rw [show pnt.data.toList = [46] from rfl, hcut] at e1 e2 e3
  simp only at e1 e2 e3
  rw [e1, e2, e3]
  rw [show Lib.indexByte s.data.toList 46 = -1 from hone.symm.trans hix] at IX
  clear hix hone hcut e1 e2 e3
  go_enter Tryz.func271, Tryz.ntmps271
  go_wp2_with (go_at_call 279; refine (IX _).mono ?_; rintro e w' ⟨rfl, hw⟩; obtain rfl := hw.symm; clear hw)
  go_ret3
  exact ⟨rfl, 0, rfl⟩
 ·obtain ⟨e1, e2, e3⟩ := Lib.cutB_hit s pnt i hix
  rw [show pnt.data.toList = [46] from rfl, hcut] at e1 e2 e3
  simp only at e1 e2 e3
  rw [e1, e2, e3]
  rw [show Lib.indexByte s.data.toList 46 = i from hone.symm.trans hix] at IX
  have hroom' : i + 1 ≤ s.size := hroom
  have hp : pnt.size = 1 := rfl
  rw [hp]
  have c1 : (0 : Int) ≤ ↑i := by omega
  have c2 : (↑i : Int) ≤ ↑s.size := by omega
  have c3 : (0 : Int) ≤ ↑i + 1 := by omega
  have c4 : (↑i + 1 : Int) ≤ ↑s.size := by omega
  clear hix hone hcut e1 e2 e3 hroom
  go_enter Tryz.func271, Tryz.ntmps271
  go_wp2_with (go_at_call 279; refine (IX _).mono ?_; rintro e w' ⟨rfl, hw⟩; obtain rfl := hw.symm; clear hw)
  go_region
  go_wp2
  go_ret3
  exact ⟨rfl, 1, rfl⟩
theorem drewN_below (w : World) : ∀ n, Below w.heap.size w (w.drewN n)
 | 0 => by rw [World.drewN_zero]; exact Below.refl _ _
 | n + 1 => by
  have := drewN_below w n
  exact ⟨this.os, this.tape, this.output, this.size, this.block⟩
theorem cut_any (s : ByteArray) (w : World) (hs : s.size ≤ 9223372036854775807) :
  Calls Tryz.prog 247 #[.string s, .string ⟨#[46]⟩] w fun e w' => e = .returned (.tuple #[.string ⟨(fstP s.data.toList).toArray⟩, .string ⟨(sndP s.data.toList).toArray⟩, .bool (hasP s.data.toList)]) ∧ Below w.heap.size w w' := by
 go_enter Tryz.func247, Tryz.ntmps247
 go_wp2_with (go_at_call 271; refine (cut62_any _ _ hs).mono ?_; rintro e w' ⟨rfl, n, rfl⟩)
 go_ret3
 exact ⟨rfl, drewN_below w _⟩
theorem trimP (l : List UInt8) : Lib.trimPrefix l [45] = body l ∧ Lib.hasPrefix l [45] = dash l := by
 unfold Lib.trimPrefix Lib.hasPrefix body dash
 cases l with
 | nil => exact ⟨rfl, rfl⟩
 | cons b l =>
  have e : ([45] : List UInt8).isPrefixOf (b :: l) = (some b == some 45) := by
   by_cases h : b = 45
   ·subst h; rfl
   ·have h2 : ¬ 45 = b := fun e => h e.symm
    have e1 : ((45 : UInt8) == b) = false := by simpa using h2
    have e2 : (b == 45) = false := by simpa using h
    simp [List.isPrefixOf, e1, e2]
  rw [e]
  exact ⟨rfl, rfl⟩
theorem prefix_any (s : ByteArray) (w : World) :
  Calls Tryz.prog 73 #[.string s, .string ⟨#[45]⟩] w fun e w' => e = .returned (.tuple #[.string ⟨(body s.data.toList).toArray⟩, .bool (dash s.data.toList)]) ∧ w' = w := by
 have h := Tryz.strings_CutPrefix s ⟨#[45]⟩ w
 obtain ⟨h1, h2⟩ := trimP s.data.toList
 rw [show (⟨#[45]⟩ : ByteArray).data.toList = [45] from rfl, h1, h2] at h
 exact h
theorem iter_below (w : World) (s : ByteArray) (pos : Nat) : Below w.heap.size w (w.iter s pos) := (Below.refl _ _).alloc (Nat.le_refl _) _
theorem take_snoc (l : List UInt8) (pos : Nat) (h : pos < l.length) : l.take (pos + 1) = l.take pos ++ [l[pos]] := by
 rw [List.take_add_one, List.getElem?_eq_getElem h]
 rfl
theorem byte_at (s : ByteArray) (pos : Nat) (h : pos < s.size) (h2 : pos < s.data.toList.length) : s[pos] = s.data.toList[pos] := by
 simp
 rfl
theorem size_list (s : ByteArray) : s.data.toList.length = s.size := by
 simp only [Array.length_toList]
 rfl
theorem pow12 : ∀ k : Nat, k ≤ 12 → 10 ^ k ≤ 1000000000000 := by decide
theorem num_bound (l : List UInt8) (k : Nat) (h : l.all isD = true) (hk : l.length ≤ 12) : numD l < 1000000000000 :=
 Nat.lt_of_lt_of_le (numD_lt l h) (pow12 _ hk)
theorem count_any (s : ByteArray) (m : Nat) (hm : m ≤ 12) (w : World) (hs : s.size ≤ 9223372036854775807) :
  Calls Tryz.prog 248 #[.string s, .int .i64 m] w fun e w' => e = .returned (two (countF s.data.toList m)) ∧ Below w.heap.size w w' := by
 have hl := size_list s
 by_cases h1 : s.size < 1
 ·rw [show countF s.data.toList m = (0, false) by simp [countF, digs]; omega]
  unfold two
  go_enter Tryz.func248, Tryz.ntmps248
  go_wp2
  go_ret2
  exact ⟨rfl, Below.refl _ _⟩
 by_cases h2 : m < s.size
 ·rw [show countF s.data.toList m = (0, false) by simp [countF, digs]; omega]
  unfold two
  go_enter Tryz.func248, Tryz.ntmps248
  go_wp2
  go_ret2
  exact ⟨rfl, Below.refl _ _⟩
 have hF : ∀ h : s.data.toList.all isD = true, countF s.data.toList m = (((numD s.data.toList : Nat) : Int), true) := fun h => by
  unfold countF digs
  rw [if_pos (by rw [h]; simp; omega)]
 have hN : s.data.toList.all isD = false → countF s.data.toList m = (0, false) := fun h => by
  unfold countF digs
  rw [if_neg (by rw [h]; simp)]
 generalize countF s.data.toList m = r at *
 have HF : Hid (s.data.toList.all isD = true → r = (((numD s.data.toList : Nat) : Int), true)) := hF
 have HN : Hid (s.data.toList.all isD = false → r = (0, false)) := hN
 clear hF hN
 have hsz : 1 ≤ s.size ∧ s.size ≤ m := by omega
 go_enter Tryz.func248, Tryz.ntmps248
 go_wp2
 go_loopw [6] (fun n wr => ∃ (pos N : Nat), wr = w.iter s pos ∧ n = .int .i64 N ∧ pos ≤ s.size ∧ N < 1000000000000 ∧ Hid ((s.data.toList.take pos).all isD = true ∧ N = numD (s.data.toList.take pos))) (fun _ wr => s.size - wr.iterPos w.heap.size)
 case atStart => exact ⟨0, 0, rfl, rfl, Nat.zero_le _, by omega, rfl, rfl⟩
 case round =>
  obtain ⟨pos, N, rfl, rfl, hp, hN, hH⟩ := hrel
  by_cases hlt : pos < s.size
  ·have hb := byte_at s pos hlt (by omega)
   have ht := take_snoc s.data.toList pos (by omega)
   have hlast : s.data.toList.all isD = true → isD (s[pos]) = true := fun h => by
    rw [hb]
    exact List.all_eq_true.1 h _ (List.getElem_mem _)
   by_cases ha : (s[pos]'hlt).toNat < 128
   ·have hnx : ∀ ty, (Instr.next (.pointer (some ⟨w.heap.size, 0, none⟩)) true ty).run Tryz.prog (w.iter s pos) = _ := fun ty => run_next_ascii w s pos ty hlt ha
    cases hd : isD (s[pos]'hlt)
    ·have hE : Hid (r = (0, false)) := HN.out (by
      cases hh : s.data.toList.all isD
      ·rfl
      ·rw [hlast hh] at hd; cases hd)
     clear hlast ht hb
     simp only [isD, Bool.and_eq_false_iff, decide_eq_false_iff_not] at hd
     generalize (s[pos]'hlt).toNat = c at *
     by_cases hc : (c : Int) < 48
     ·go_wp2
      go_ret2
      exact ⟨by rw [hE.out]; rfl, iter_below _ _ _⟩
     ·go_wp2
      go_ret2
      exact ⟨by rw [hE.out]; rfl, iter_below _ _ _⟩
    ·have hA : Hid ((s.data.toList.take (pos + 1)).all isD = true ∧ N * 10 + ((s[pos]'hlt).toNat - 48) = numD (s.data.toList.take (pos + 1))) := by
      rw [ht, List.all_append, hH.out.1]
      refine ⟨by simp [← hb, hd], ?_⟩
      rw [numD_append, ← hH.out.2, ← hb]
      simp [numD, numG]
     have hB := num_bound (s.data.toList.take (pos + 1)) 12 hA.out.1 (by simp; omega)
     rw [← hA.out.2] at hB
     clear hlast ht hb
     simp only [isD, Bool.and_eq_true, decide_eq_true_eq] at hd
     generalize (s[pos]'hlt).toNat = c at *
     have g1 : ¬ (c : Int) < 48 := by omega
     have g2 : ¬ (57 : Int) < c := by omega
     go_wp2
     go_roundw
     case rel => exact ⟨pos + 1, N * 10 + (c - 48), rfl, by go_num, by omega, hB, hA.out⟩
     case measure => simp; omega
   ·have hnx : ∀ ty, (Instr.next (.pointer (some ⟨w.heap.size, 0, none⟩)) true ty).run Tryz.prog (w.iter s pos) = _ := fun ty => run_next_any w s pos ty hlt
    have hh := decode_high s pos hlt (by omega)
    have hE : Hid (r = (0, false)) := HN.out (by
      cases hh : s.data.toList.all isD
      ·rfl
      ·have := hlast hh; simp [isD] at this; omega)
    clear hlast ht hb
    generalize (Utf8.decode s pos).1 = c at *
    generalize (Utf8.decode s pos).2 = v at *
    have g1 : ¬ (c : Int) < 48 := by omega
    have g2 : (57 : Int) < c := by omega
    go_wp2
    go_ret2
    exact ⟨by rw [hE.out]; rfl, iter_below _ _ _⟩
  ·have hnx : ∀ ty, (Instr.next (.pointer (some ⟨w.heap.size, 0, none⟩)) true ty).run Tryz.prog (w.iter s pos) = _ := fun ty => run_next_end w s pos ty hlt
   have hE : Hid (r = (((N : Nat) : Int), true)) := by
    have e : s.data.toList.take pos = s.data.toList := List.take_of_length_le (by omega)
    have := hH.out
    rw [e] at this
    rw [this.2]
    exact HF.out this.1
   go_wp2
   go_ret2
   exact ⟨by rw [hE.out]; rfl, iter_below _ _ _⟩
end Go.Proofs.YtnibldnfbikipaaGreatDoor
