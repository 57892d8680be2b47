/- Joined: Shelf, Base, Plain, Trim: words and contracts; no statement of the seat is proved here. -/
import Derived.Shelf.SlIterI.Nil
import Derived.Shelf.SortM.Plain
import Derived.Shelf.SortM.SortNone
import Derived.Ground.GgzProg
import Derived.Ground.SlgmProg
import Derived.Shelf.Strings.Builder1
import Derived.Shelf.Strings.Builder2
import Derived.Shelf.Strings.OnBuilder
import Derived.Shelf.Small.Bits
import Derived.Shelf.Strings.BuilderF
import Derived.Shelf.Strings.Builder2Cap
import Derived.Shelf.Strconv.Itoa0
import Derived.Shelf.Strconv.Itoa1
import Derived.Shelf.LaysM
import Derived.Shelf.Strconv.Itoa2
import Derived.Shelf.Strconv.Itoa3
import Derived.Shelf.Sort.Plain
import Derived.Shelf.Strings.Prefix
import Derived.Ground.Names2Prog
import Derived.Shelf.Slices.SearchI
import Derived.Shelf.Slices.In.SortNone
import Derived.Test.YteefniagebcagaaGreatDoorProg
import Derived.WalkKit
import Derived.WalkSpells
import Derived.WalkLawsBesides
import Derived.Handy
import Derived.Laws.CopyOwn
namespace Go.Proofs
open Go.Shelf
def Tryz.lays156_ren : Go.Shelf.Ren := ⟨fun | 156 => 64 | 165 => 102 | 166 => 103 | 169 => 104 | 240 => 128 | 241 => 129 | 276 => 145 | 277 => 146 | n => n, fun | 31 => 23 | 9 => 9 | 3 => 3 | 4 => 4 | 0 => 0 | 20 => 20 | 72 => 155 | 76 => 159 | 70 => 153 | 37 => 126 | 75 => 158 | 127 => 187 | 164 => 201 | 5 => 5 | 80 => 51 | n => n, fun | n => n⟩
theorem Tryz.lays156 : Go.Proofs.Lays.n156 Tryz.prog Tryz.lays156_ren := {
 mixed := by kernel_rfl
 f156 := Tryz.func64.trans (congrArg some (by kernel_rfl))
 f165 := Tryz.func102.trans (congrArg some (by kernel_rfl))
 f166 := Tryz.func103.trans (congrArg some (by kernel_rfl))
 f169 := Tryz.func104.trans (congrArg some (by kernel_rfl))
 f240 := Tryz.func128.trans (congrArg some (by kernel_rfl))
 f241 := Tryz.func129.trans (congrArg some (by kernel_rfl))
 f276 := Tryz.func145.trans (congrArg some (by kernel_rfl))
 f277 := Tryz.func146.trans (congrArg some (by kernel_rfl))
 t0 := Tryz.underlying0
 a0 := Tryz.isAgg0
 z0 := Tryz.sizeOf0
 v0 := Tryz.zeroValue0
 t3 := Tryz.underlying3
 a3 := Tryz.isAgg3
 z3 := Tryz.sizeOf3
 v3 := Tryz.zeroValue3
 t4 := Tryz.underlying4
 a4 := Tryz.isAgg4
 z4 := Tryz.sizeOf4
 v4 := Tryz.zeroValue4
 t9 := Tryz.underlying9
 a9 := Tryz.isAgg9
 z9 := Tryz.sizeOf9
 v9 := Tryz.zeroValue9
 t20 := Tryz.underlying20
 a20 := Tryz.isAgg20
 z20 := Tryz.sizeOf20
 v20 := Tryz.zeroValue20
 t31 := Tryz.underlying23
 a31 := Tryz.isAgg23
 z31 := Tryz.sizeOf23
 v31 := Tryz.zeroValue23
 t37 := Tryz.underlying126
 a37 := Tryz.isAgg126
 z37 := Tryz.sizeOf126
 v37 := Tryz.zeroValue126
 t70 := Tryz.underlying153
 a70 := Tryz.isAgg153
 z70 := Tryz.sizeOf153
 v70 := Tryz.zeroValue153
 t72 := Tryz.underlying155
 a72 := Tryz.isAgg155
 z72 := Tryz.sizeOf155
 v72 := Tryz.zeroValue155
 t75 := Tryz.underlying158
 a75 := Tryz.isAgg158
 z75 := Tryz.sizeOf158
 v75 := Tryz.zeroValue158
 t76 := Tryz.underlying159
 a76 := Tryz.isAgg159
 z76 := Tryz.sizeOf159
 v76 := Tryz.zeroValue159
 t127 := Tryz.underlying187
 a127 := Tryz.isAgg187
 z127 := Tryz.sizeOf187
 v127 := Tryz.zeroValue187
 t164 := Tryz.underlying201
 a164 := Tryz.isAgg201
 z164 := Tryz.sizeOf201
 v164 := Tryz.zeroValue201 }
theorem Tryz.Builder_Extra_156 : Builder.Extra Tryz.prog Tryz.lays156_ren := {
 sizeBuilder := by kernel_rfl
 liesBuilder := by kernel_rfl
 t5 := Tryz.underlying5
 a5 := Tryz.isAgg5
 z5 := Tryz.sizeOf5
 v5 := Tryz.zeroValue5
 infoByte := by kernel_rfl
 cellsByte := by kernel_rfl
 sizeByte := by kernel_rfl
 neB5 := by decide }
open Go.RowKit in
theorem Tryz.strings_Join_none (a : Option Addr) (c : Nat) (sep : ByteArray) (w : World) :
    Calls Tryz.prog 64 #[.slice a 0 c, .string sep] w fun e w' => e = .returned (.string ⟨#[]⟩) ∧ w' = w := Any.strings_Join_none Tryz.lays156 Tryz.Builder_Extra_156 a c sep w
open Go.RowKit in
theorem Tryz.strings_Join (bk o c : Nat) (xs : List ByteArray) (sep : ByteArray) (w : World) (hcells : ∀ (j : Nat) x, xs[j]? = some x → w.cell? ⟨bk, o + j, none⟩ = some (.string x)) (hbk : bk < w.heap.size) (hN : xs.length ≤ 140737488355328) (hcap : xs.length ≤ c) (hlen : (Lib.join (xs.map (·.data.toList)) sep.data.toList).length ≤ 140737488355328) :
    Calls Tryz.prog 64 #[.slice (some ⟨bk, o, none⟩) xs.length c, .string sep] w fun e w' => e = .returned (.string ⟨(Lib.join (xs.map (·.data.toList)) sep.data.toList).toArray⟩) ∧ Below w.heap.size w w' := Any.strings_Join Tryz.lays156 Tryz.Builder_Extra_156 bk o c xs sep w hcells hbk hN hcap hlen
def Tryz.laysM171_ren : Go.Shelf.Ren := ⟨fun | 171 => 62 | 243 => 101 | 246 => 127 | 283 => 141 | 284 => 142 | 285 => 143 | 286 => 144 | 129 => 154 | 317 => 153 | 318 => 155 | 319 => 156 | 320 => 157 | 337 => 168 | 338 => 169 | n => n, fun | 3 => 3 | 9 => 9 | 2 => 2 | 4 => 4 | 171 => 196 | 0 => 0 | 53 => 151 | 37 => 126 | 5 => 5 | 173 => 199 | 212 => 211 | 51 => 167 | 20 => 20 | 213 => 212 | 46 => 182 | 232 => 227 | 233 => 228 | n => n, fun | 17 => 0 | 18 => 2 | 19 => 3 | n => n⟩
theorem Tryz.laysM171 : Go.Proofs.LaysM.n171 Tryz.prog Tryz.laysM171_ren := {
 mixed := by kernel_rfl
 f129 := Tryz.func154.trans (congrArg some (by kernel_rfl))
 f171 := Tryz.func62.trans (congrArg some (by kernel_rfl))
 f243 := Tryz.func101.trans (congrArg some (by kernel_rfl))
 f246 := Tryz.func127.trans (congrArg some (by kernel_rfl))
 f283 := Tryz.func141.trans (congrArg some (by kernel_rfl))
 f284 := Tryz.func142.trans (congrArg some (by kernel_rfl))
 f285 := Tryz.func143.trans (congrArg some (by kernel_rfl))
 f286 := Tryz.func144.trans (congrArg some (by kernel_rfl))
 f317 := Tryz.func153.trans (congrArg some (by kernel_rfl))
 f318 := Tryz.func155.trans (congrArg some (by kernel_rfl))
 f319 := Tryz.func156.trans (congrArg some (by kernel_rfl))
 f320 := Tryz.func157.trans (congrArg some (by kernel_rfl))
 f337 := Tryz.func168.trans (congrArg some (by kernel_rfl))
 f338 := Tryz.func169.trans (congrArg some (by kernel_rfl))
 t0 := Tryz.underlying0
 a0 := Tryz.isAgg0
 z0 := Tryz.sizeOf0
 v0 := Tryz.zeroValue0
 t2 := Tryz.underlying2
 a2 := Tryz.isAgg2
 z2 := Tryz.sizeOf2
 v2 := Tryz.zeroValue2
 t3 := Tryz.underlying3
 a3 := Tryz.isAgg3
 z3 := Tryz.sizeOf3
 v3 := Tryz.zeroValue3
 t4 := Tryz.underlying4
 a4 := Tryz.isAgg4
 z4 := Tryz.sizeOf4
 v4 := Tryz.zeroValue4
 t5 := Tryz.underlying5
 a5 := Tryz.isAgg5
 z5 := Tryz.sizeOf5
 v5 := Tryz.zeroValue5
 t9 := Tryz.underlying9
 a9 := Tryz.isAgg9
 z9 := Tryz.sizeOf9
 v9 := Tryz.zeroValue9
 t20 := Tryz.underlying20
 a20 := Tryz.isAgg20
 z20 := Tryz.sizeOf20
 v20 := Tryz.zeroValue20
 t37 := Tryz.underlying126
 a37 := Tryz.isAgg126
 z37 := Tryz.sizeOf126
 v37 := Tryz.zeroValue126
 t46 := Tryz.underlying182
 a46 := Tryz.isAgg182
 z46 := Tryz.sizeOf182
 v46 := Tryz.zeroValue182
 t51 := Tryz.underlying167
 a51 := Tryz.isAgg167
 z51 := Tryz.sizeOf167
 v51 := Tryz.zeroValue167
 t53 := Tryz.underlying151
 a53 := Tryz.isAgg151
 z53 := Tryz.sizeOf151
 v53 := Tryz.zeroValue151
 t171 := Tryz.underlying196
 a171 := Tryz.isAgg196
 z171 := Tryz.sizeOf196
 v171 := Tryz.zeroValue196
 t173 := Tryz.underlying199
 a173 := Tryz.isAgg199
 z173 := Tryz.sizeOf199
 v173 := Tryz.zeroValue199
 t212 := Tryz.underlying211
 a212 := Tryz.isAgg211
 z212 := Tryz.sizeOf211
 v212 := Tryz.zeroValue211
 t213 := Tryz.underlying212
 a213 := Tryz.isAgg212
 z213 := Tryz.sizeOf212
 t232 := Tryz.underlying227
 a232 := Tryz.isAgg227
 z232 := Tryz.sizeOf227
 v232 := Tryz.zeroValue227
 t233 := Tryz.underlying228
 a233 := Tryz.isAgg228
 z233 := Tryz.sizeOf228
 v233 := Tryz.zeroValue228
 g17 := by kernel_rfl
 g18 := by kernel_rfl
 g19 := by kernel_rfl
 i0 := by kernel_rfl
 i2 := by kernel_rfl
 i3 := by kernel_rfl
 i4 := by kernel_rfl
 i5 := by kernel_rfl
 i9 := by kernel_rfl
 i20 := by kernel_rfl
 i37 := by kernel_rfl
 i46 := by kernel_rfl
 i51 := by kernel_rfl
 i53 := by kernel_rfl
 i171 := by kernel_rfl
 i173 := by kernel_rfl
 i212 := by kernel_rfl
 i232 := by kernel_rfl
 i233 := by kernel_rfl
 m17 := by kernel_rfl
 m18 := by kernel_rfl
 m19 := by kernel_rfl }
open Go.RowKit Go.Sort Go.Lib in
theorem Tryz.strconv_Itoa (n : Int) (h0 : -9223372036854775808 ≤ n) (h1 : n ≤ 9223372036854775807) (w : World) (htab : Lib.TabIs Tryz.prog w "internal/strconv.uint64pow10" .u64 Lib.pow10Tab) :
    Calls Tryz.prog 62 #[.int .i64 n] w fun e w' => e = .returned (.string ⟨(Lib.itoa n).toArray⟩) ∧ ∃ k os, w' = grow (w.drewN k) os := Any.strconv_Itoa Tryz.laysM171 n h0 h1 w htab
def Tryz.keysA_ren : Go.Shelf.Ren := ⟨fun | 7 => 120 | 10 => 138 | n => n, fun | 23 => 130 | 26 => 3 | 3 => 31 | 28 => 177 | 0 => 0 | 27 => 176 | 33 => 125 | 4 => 4 | n => n, fun | n => n⟩
theorem Tryz.keysA : Go.Proofs.SlLaysZI.n7 Tryz.prog Tryz.keysA_ren := {
 mixed := by kernel_rfl
 f7 := ⟨Tryz.f120.name,by decide,Tryz.func120.trans (congrArg some (by kernel_rfl))⟩
 f10 := ⟨Tryz.f138.name,by decide,Tryz.func138.trans (congrArg some (by kernel_rfl))⟩
 t0 := Tryz.underlying0
 a0 := Tryz.isAgg0
 z0 := Tryz.sizeOf0
 v0 := Tryz.zeroValue0
 t4 := Tryz.underlying4
 a4 := Tryz.isAgg4
 z4 := Tryz.sizeOf4
 v4 := Tryz.zeroValue4
 t23 := Tryz.underlying130
 a23 := Tryz.isAgg130
 z23 := Tryz.sizeOf130
 v23 := Tryz.zeroValue130
 t26 := Tryz.underlying3
 a26 := Tryz.isAgg3
 z26 := Tryz.sizeOf3
 v26 := Tryz.zeroValue3
 t27 := Tryz.underlying176
 a27 := Tryz.isAgg176
 z27 := Tryz.sizeOf176
 v27 := Tryz.zeroValue176
 t28 := Tryz.underlying177
 a28 := Tryz.isAgg177
 z28 := Tryz.sizeOf177
 v28 := Tryz.zeroValue177
 t33 := Tryz.underlying125
 a33 := Tryz.isAgg125
 z33 := Tryz.sizeOf125
 v33 := Tryz.zeroValue125 }
def Tryz.sortedA_ren : Go.Shelf.Ren := ⟨fun | 6 => 119 | 8 => 136 | 9 => 137 | 11 => 150 | 13 => 152 | 12 => 151 | 23 => 139 | 24 => 154 | 14 => 159 | 15 => 160 | 16 => 161 | 17 => 162 | 18 => 163 | 19 => 164 | 20 => 165 | 21 => 166 | 22 => 167 | 25 => 170 | 26 => 171 | 27 => 172 | 28 => 173 | 29 => 174 | 30 => 130 | 31 => 175 | n => n, fun | 26 => 3 | 28 => 177 | 24 => 37 | 0 => 0 | 3 => 3 | 37 => 182 | 48 => 167 | 50 => 151 | 4 => 4 | 40 => 215 | 39 => 214 | 45 => 122 | 5 => 5 | 9 => 9 | 51 => 221 | 55 => 225 | 57 => 229 | 58 => 230 | 33 => 125 | n => n, fun | n => n⟩
theorem Tryz.sortedA : Go.Proofs.SlLaysZI.n6 Tryz.prog Tryz.sortedA_ren := {
 mixed := by kernel_rfl
 f6 := ⟨Tryz.f119.name,by decide,Tryz.func119.trans (congrArg some (by kernel_rfl))⟩
 f8 := ⟨Tryz.f136.name,by decide,Tryz.func136.trans (congrArg some (by kernel_rfl))⟩
 f11 := ⟨Tryz.f150.name,by decide,Tryz.func150.trans (congrArg some (by kernel_rfl))⟩
 t0 := Tryz.underlying0
 a0 := Tryz.isAgg0
 z0 := Tryz.sizeOf0
 v0 := Tryz.zeroValue0
 t24 := Tryz.underlying37
 a24 := Tryz.isAgg37
 z24 := Tryz.sizeOf37
 v24 := Tryz.zeroValue37
 t26 := Tryz.underlying3
 a26 := Tryz.isAgg3
 z26 := Tryz.sizeOf3
 v26 := Tryz.zeroValue3
 t28 := Tryz.underlying177
 a28 := Tryz.isAgg177
 z28 := Tryz.sizeOf177
 v28 := Tryz.zeroValue177
 i26 := by kernel_rfl }
def Tryz.sortA_ren : Go.Shelf.Ren := ⟨fun | 5 => 137 | 8 => 152 | 7 => 151 | 19 => 139 | 20 => 154 | 10 => 159 | 11 => 160 | 12 => 161 | 13 => 162 | 14 => 163 | 15 => 164 | 16 => 165 | 17 => 166 | 18 => 167 | 30 => 170 | 31 => 171 | 32 => 172 | 33 => 173 | 34 => 174 | 35 => 130 | 40 => 175 | n => n, fun | 23 => 37 | 25 => 3 | 3 => 3 | 32 => 182 | 22 => 37 | 0 => 0 | 44 => 167 | 46 => 151 | 4 => 4 | 36 => 215 | 35 => 214 | 41 => 122 | 5 => 5 | 9 => 9 | 53 => 221 | 57 => 225 | 63 => 229 | 64 => 230 | n => n, fun | n => n⟩
theorem Tryz.sortA : Go.Proofs.SlLaysM.n5 Tryz.prog Tryz.sortA_ren := {
 mixed := by kernel_rfl
 f5 := ⟨Tryz.f137.name,by decide,Tryz.func137.trans (congrArg some (by kernel_rfl))⟩
 f7 := ⟨Tryz.f151.name,by decide,Tryz.func151.trans (congrArg some (by kernel_rfl))⟩
 f8 := Tryz.func152.trans (congrArg some (by kernel_rfl))
 f10 := ⟨Tryz.f159.name,by decide,Tryz.func159.trans (congrArg some (by kernel_rfl))⟩
 f11 := ⟨Tryz.f160.name,by decide,Tryz.func160.trans (congrArg some (by kernel_rfl))⟩
 f12 := ⟨Tryz.f161.name,by decide,Tryz.func161.trans (congrArg some (by kernel_rfl))⟩
 f13 := ⟨Tryz.f162.name,by decide,Tryz.func162.trans (congrArg some (by kernel_rfl))⟩
 f14 := ⟨Tryz.f163.name,by decide,Tryz.func163.trans (congrArg some (by kernel_rfl))⟩
 f15 := ⟨Tryz.f164.name,by decide,Tryz.func164.trans (congrArg some (by kernel_rfl))⟩
 f16 := ⟨Tryz.f165.name,by decide,Tryz.func165.trans (congrArg some (by kernel_rfl))⟩
 f17 := ⟨Tryz.f166.name,by decide,Tryz.func166.trans (congrArg some (by kernel_rfl))⟩
 f18 := ⟨Tryz.f167.name,by decide,Tryz.func167.trans (congrArg some (by kernel_rfl))⟩
 f19 := Tryz.func139.trans (congrArg some (by kernel_rfl))
 f20 := Tryz.func154.trans (congrArg some (by kernel_rfl))
 f30 := ⟨Tryz.f170.name,by decide,Tryz.func170.trans (congrArg some (by kernel_rfl))⟩
 f31 := Tryz.func171.trans (congrArg some (by kernel_rfl))
 f32 := Tryz.func172.trans (congrArg some (by kernel_rfl))
 f33 := ⟨Tryz.f173.name,by decide,Tryz.func173.trans (congrArg some (by kernel_rfl))⟩
 f34 := ⟨Tryz.f174.name,by decide,Tryz.func174.trans (congrArg some (by kernel_rfl))⟩
 f35 := ⟨Tryz.f130.name,by decide,Tryz.func130.trans (congrArg some (by kernel_rfl))⟩
 f40 := ⟨Tryz.f175.name,by decide,Tryz.func175.trans (congrArg some (by kernel_rfl))⟩
 t0 := Tryz.underlying0
 a0 := Tryz.isAgg0
 z0 := Tryz.sizeOf0
 v0 := Tryz.zeroValue0
 t3 := Tryz.underlying3
 a3 := Tryz.isAgg3
 z3 := Tryz.sizeOf3
 v3 := Tryz.zeroValue3
 t4 := Tryz.underlying4
 a4 := Tryz.isAgg4
 z4 := Tryz.sizeOf4
 v4 := Tryz.zeroValue4
 t5 := Tryz.underlying5
 a5 := Tryz.isAgg5
 z5 := Tryz.sizeOf5
 v5 := Tryz.zeroValue5
 t9 := Tryz.underlying9
 a9 := Tryz.isAgg9
 z9 := Tryz.sizeOf9
 v9 := Tryz.zeroValue9
 t22 := Tryz.underlying37
 a22 := Tryz.isAgg37
 z22 := Tryz.sizeOf37
 v22 := Tryz.zeroValue37
 t23 := Tryz.underlying37
 a23 := Tryz.isAgg37
 z23 := Tryz.sizeOf37
 v23 := Tryz.zeroValue37
 t25 := Tryz.underlying3
 a25 := Tryz.isAgg3
 z25 := Tryz.sizeOf3
 v25 := Tryz.zeroValue3
 t32 := Tryz.underlying182
 a32 := Tryz.isAgg182
 z32 := Tryz.sizeOf182
 v32 := Tryz.zeroValue182
 t35 := Tryz.underlying214
 a35 := Tryz.isAgg214
 z35 := Tryz.sizeOf214
 v35 := Tryz.zeroValue214
 t36 := Tryz.underlying215
 a36 := Tryz.isAgg215
 z36 := Tryz.sizeOf215
 v36 := Tryz.zeroValue215
 t41 := Tryz.underlying122
 a41 := Tryz.isAgg122
 z41 := Tryz.sizeOf122
 v41 := Tryz.zeroValue122
 t44 := Tryz.underlying167
 a44 := Tryz.isAgg167
 z44 := Tryz.sizeOf167
 v44 := Tryz.zeroValue167
 t46 := Tryz.underlying151
 a46 := Tryz.isAgg151
 z46 := Tryz.sizeOf151
 v46 := Tryz.zeroValue151
 t53 := Tryz.underlying221
 a53 := Tryz.isAgg221
 z53 := Tryz.sizeOf221
 v53 := Tryz.zeroValue221
 t57 := Tryz.underlying225
 a57 := Tryz.isAgg225
 z57 := Tryz.sizeOf225
 v57 := Tryz.zeroValue225
 t63 := Tryz.underlying229
 a63 := Tryz.isAgg229
 z63 := Tryz.sizeOf229
 v63 := Tryz.zeroValue229
 t64 := Tryz.underlying230
 a64 := Tryz.isAgg230
 z64 := Tryz.sizeOf230
 v64 := Tryz.zeroValue230 }
end Go.Proofs
namespace Go.Proofs.YteefniagebcagaaGreatDoor
open Go.RowKit
def Seg (k : IntKind) (w : World) (ao : Option Addr) (xs : List Nat) : Prop :=
  xs = [] ∨ ∃ b off, ao = some ⟨b, off, none⟩ ∧ ∀ i, i < xs.length → w.cell? ⟨b, off + i, none⟩ = some (.int k (xs.getD i 0 : Nat))
theorem Seg.nil (k : IntKind) (w : World) (ao : Option Addr) : Seg k w ao [] := Or.inl rfl
theorem Seg.open {k : IntKind} {w : World} {ao : Option Addr} {xs : List Nat} (h : Seg k w ao xs) (i : Nat) (hi : i < xs.length) :
  ∃ b off,ao = some ⟨b,off,none⟩ ∧ ∀ j,j < xs.length → w.cell? ⟨b,off + j,none⟩ = some (.int k (xs.getD j 0 : Nat)) := by
 rcases h with h | h
 · subst h;simp at hi
 · exact h
theorem Seg.below {k : IntKind} {w w' : World} {ao : Option Addr} {xs : List Nat} (h : Seg k w ao xs) (hb : Below w.heap.size w w') : Seg k w' ao xs := by
 rcases h with h | ⟨b,off,rfl,hc⟩
 · exact Or.inl h
 ·
  refine Or.inr ⟨b,off,rfl,fun i hi => ?_⟩
  have h1 := hc i hi;have h2 : b < w.heap.size := World.block_lt_of_cell? w ⟨b,off + i,none⟩ h1;rw [hb.cell (p := ⟨b,off + i,none⟩) h2];exact h1
theorem Seg.take {k : IntKind} {w : World} {ao : Option Addr} {xs : List Nat} (h : Seg k w ao xs) (n : Nat) : Seg k w ao (xs.take n) := by
 rcases h with h | ⟨b,off,rfl,hc⟩
 · subst h;exact Or.inl (by simp)
 ·
  refine Or.inr ⟨b,off,rfl,fun i hi => ?_⟩
  simp only [List.length_take] at hi;have e : (xs.take n).getD i 0 = xs.getD i 0 := by
   simp only [List.getD_eq_getElem?_getD,List.getElem?_take];rw [if_pos (by omega)]
  rw [hc i (by omega),e]
def Row (k : IntKind) (t : TypeId) (w : World) (g : Nat) (zs : List Nat) : Prop :=
  w.heap[g]? = some (.cells (zs.map fun z => Value.int k (z : Nat)).toArray t (0, 0))
section
variable {k : IntKind} {t : TypeId} {w w' : World} {g : Nat} {zs : List Nat}
theorem Row.lt (h : Row k t w g zs) : g < w.heap.size := (Array.getElem?_eq_some_iff.1 h).1
theorem Row.cell (h : Row k t w g zs) (i : Nat) (hi : i < zs.length) : w.cell? ⟨g,i,none⟩ = some (.int k (zs.getD i 0 : Nat)) := by
 rw [cell_of_row w g i _ t (0,0) h];simp [List.getElem?_eq_getElem hi]
theorem Row.frozen (h : Row k t w g zs) (i : Nat) : w.frozen? ⟨g, i, none⟩ = false := frozen_of_row w g i _ t h
theorem Row.set (h : Row k t w g zs) (i : Nat) (z : Int) (n : Nat) (hz : z = (n : Int)) : Row k t (w.setCell ⟨g,i,none⟩ (.int k z)) g (zs.set i n) := by
 subst hz;unfold Row;rw [heap_setCell_same w g i _ t _ h];simp
theorem Row.keep (h : Row k t w g zs) {B : Nat} (hb : Below B w w') (hg : g < B) : Row k t w' g zs := (hb.block g hg).trans h
theorem Row.other (h : Row k t w g zs) {a : Addr} (ha : a.block ≠ g) (v : Value) : Row k t (w.setCell a v) g zs :=
  (heap_setCell_other w a g v (fun e => ha e.symm)).trans h
theorem Row.new (w : World) (k : IntKind) (t : TypeId) (zs : List Nat) : Row k t (w.alloc (.cells (zs.map fun z => Value.int k (z : Nat)).toArray t (0, 0))) w.heap.size zs := heap_alloc_new w _
theorem Row.seg (h : Row k t w g zs) (off n : Nat) (hn : off + n ≤ zs.length) : Seg k w (some ⟨g,off,none⟩) ((zs.drop off).take n) := by
 refine Or.inr ⟨g,off,rfl,fun i hi => ?_⟩
 simp only [List.length_take,List.length_drop] at hi;rw [h.cell (off + i) (by omega)]
 congr 2
 simp only [List.getD_eq_getElem?_getD,List.getElem?_take,List.getElem?_drop];rw [if_pos (by omega)]
theorem Row.all (h : Row k t w g zs) : Seg k w (some ⟨g,0,none⟩) zs := by
 have := h.seg 0 zs.length (by omega)
 simpa using this
theorem Row.first (h : Row k t w g zs) (n : Nat) (hn : n ≤ zs.length) : Seg k w (some ⟨g,0,none⟩) (zs.take n) := by
 have := h.seg 0 n (by omega)
 simpa using this
end
def Blk (t : TypeId) (w : World) (b : Nat) (cs : Array Value) : Prop := w.heap[b]? = some (.cells cs t (0, 0))
section
variable {t : TypeId} {w w' : World} {b : Nat} {cs : Array Value}
theorem Blk.lt (h : Blk t w b cs) : b < w.heap.size := (Array.getElem?_eq_some_iff.1 h).1
theorem Blk.cell (h : Blk t w b cs) (i : Nat) : w.cell? ⟨b, i, none⟩ = cs[i]? := cell_of_row w b i _ t (0, 0) h
theorem Blk.frozen (h : Blk t w b cs) (i : Nat) : w.frozen? ⟨b, i, none⟩ = false := frozen_of_row w b i _ t h
theorem Blk.keep (h : Blk t w b cs) {B : Nat} (hb : Below B w w') (hg : b < B) : Blk t w' b cs := (hb.block b hg).trans h
theorem Blk.stay (h : Blk t w b cs) (hb : Below w.heap.size w w') : Blk t w' b cs := h.keep hb h.lt
theorem Blk.alloc (h : Blk t w b cs) (o : Obj) : Blk t (w.alloc o) b cs := (Below.heap_alloc w o b h.lt).trans h
theorem Blk.other (h : Blk t w b cs) {a : Addr} (ha : a.block ≠ b) (v : Value) : Blk t (w.setCell a v) b cs := (heap_setCell_other w a b v (fun e => ha e.symm)).trans h
theorem Blk.new (w : World) (t : TypeId) (cs : Array Value) : Blk t (w.alloc (.cells cs t (0, 0))) w.heap.size cs := heap_alloc_new w _
theorem Blk.set (h : Blk t w b cs) (i : Nat) (v : Value) : Blk t (w.setCell ⟨b, i, none⟩ v) b (cs.setIfInBounds i v) := heap_setCell_same w b i _ t _ h
end
theorem Blk.drew {t : TypeId} {w : World} {b : Nat} {cs : Array Value} (h : Blk t w b cs) : Blk t w.drew b cs := h
theorem Blk.two {t : TypeId} {w : World} {b : Nat} {x y : Value} (h : Blk t w b #[x, y]) :
    w.cell? ⟨b, 0, none⟩ = some x ∧ w.cell? ⟨b, 1, none⟩ = some y ∧ w.frozen? ⟨b, 0, none⟩ = false ∧ w.frozen? ⟨b, 1, none⟩ = false :=
  ⟨h.cell 0, h.cell 1, h.frozen 0, h.frozen 1⟩
theorem Seg.store2 {k : IntKind} {w : World} {ao : Option Addr} {xs : List Nat} (h : Seg k w ao xs) {t : TypeId} {b : Nat} {x : Bool} {a : Option Addr} {n c : Nat} (hB : Blk t w b #[.bool x,.slice a n c]) (y : Bool) (a' : Option Addr) (n' c' : Nat) :
  Seg k ((w.setCell ⟨b,0,none⟩ (.bool y)).setCell ⟨b,1,none⟩ (.slice a' n' c')) ao xs := by
 rcases h with h | ⟨g,off,rfl,hc⟩
 · exact Or.inl h
 ·
  refine Or.inr ⟨g,off,rfl,fun i hi => ?_⟩
  have h1 := hc i hi;have hne : g ≠ b := by
   intro e;subst e;rw [hB.cell (off + i)] at h1;have h2 : off + i = 0 ∨ off + i = 1 ∨ 2 ≤ off + i := by omega
   rcases h2 with h2 | h2 | h2
   · rw [h2] at h1;simp at h1
   · rw [h2] at h1;simp at h1
   · rw [Array.getElem?_eq_none (by simp;omega)] at h1;cases h1
  have e1 : ((w.setCell ⟨b,0,none⟩ (.bool y)).setCell ⟨b,1,none⟩ (.slice a' n' c')).heap[g]? = w.heap[g]? := by
   rw [heap_setCell_other _ ⟨b,1,none⟩ g _ hne,heap_setCell_other _ ⟨b,0,none⟩ g _ hne]
  rw [World.cell?_of_block (a := ⟨g,off + i,none⟩) e1];exact h1
theorem below_store2 {w w1 : World} {B b : Nat} (h : Below B w w1) (hb : B ≤ b) (u v : Value) : Below B w ((w1.setCell ⟨b, 0, none⟩ u).setCell ⟨b, 1, none⟩ v) := (h.setCell (p := ⟨b, 0, none⟩) hb u).setCell (p := ⟨b, 1, none⟩) hb v
structure Only (g : Nat) (w w' : World) : Prop where
  os : w'.os = w.os
  tape : w'.tape = w.tape
  output : w'.output = w.output
  size : w'.heap.size = w.heap.size
  block : ∀ k, k ≠ g → w'.heap[k]? = w.heap[k]?
theorem Only.refl (g : Nat) (w : World) : Only g w w := ⟨rfl, rfl, rfl, rfl, fun _ _ => rfl⟩
theorem Only.set {g : Nat} {w w' : World} (h : Only g w w') (i : Nat) (v : Value) : Only g w (w'.setCell ⟨g, i, none⟩ v) :=
  ⟨h.os, h.tape, h.output, by rw [← h.size]; simp, fun k hk => (heap_setCell_other w' ⟨g, i, none⟩ k v hk).trans (h.block k hk)⟩
theorem Only.trans {g : Nat} {a b c : World} (h : Only g a b) (k : Only g b c) : Only g a c :=
  ⟨k.os.trans h.os, k.tape.trans h.tape, k.output.trans h.output, k.size.trans h.size, fun i hi => (k.block i hi).trans (h.block i hi)⟩
theorem Only.below {g : Nat} {w w' : World} (h : Only g w w') {B : Nat} (hB : B ≤ g) : Below B w w' :=
  ⟨h.os, h.tape, h.output, by rw [h.size]; exact Nat.le_refl _, fun k hk => h.block k (by omega)⟩
theorem Only.row {g : Nat} {w w' : World} (h : Only g w w') {k : IntKind} {t : TypeId} {b : Nat} {zs : List Nat} (hr : Row k t w b zs) (hb : b ≠ g) : Row k t w' b zs := (h.block b hb).trans hr
theorem Only.seg {g : Nat} {w w' : World} (h : Only g w w') {k : IntKind} {ao : Option Addr} {xs : List Nat} (hs : Seg k w ao xs) (hne : ∀ a,ao = some a → a.block ≠ g) : Seg k w' ao xs := by
 rcases hs with hs | ⟨b,off,rfl,hc⟩
 · exact Or.inl hs
 ·
  refine Or.inr ⟨b,off,rfl,fun i hi => ?_⟩
  rw [World.cell?_of_block (a := ⟨b,off + i,none⟩) (h.block b (hne _ rfl))];exact hc i hi
theorem _root_.Go.RowKit.Below.step {B : Nat} {w0 w1 w2 : World} (h : Below B w0 w1) (k : Below w1.heap.size w1 w2) (hB : B ≤ w0.heap.size) : Below B w0 w2 := h.trans (k.mono (Nat.le_trans hB h.size))
theorem wpList_make_nums {P : Program} (w : World) {ops : Array Oper} {rest : List Oper} {o : Oper} {a : Act} {Q : Exit → Act → World → Prop}
  (hg : o.guard = none) (l c : Operand) (t : TypeId) (hop : o.op = Op.makeSlice t l c)
  (e : TypeId) (k : IntKind) (bytes : Nat) (h1 : P.underlying t = some (.slice e)) (h2 : (P.info? e).map (fun i => (i.zero,i.size,i.bytes)) = some (some (.int k 0),1,bytes))
  (kl kc : IntKind) (L C : Int) (n : Nat) (hl : a.eval l = .int kl L) (hc : a.eval c = .int kc C) (hL : L = (n : Int)) (hC : C = (n : Int)) (hby : bytes ≤ 64) (hnn : n ≤ 10000)
  (hK : ∀ w',Row k e w' w.heap.size (List.replicate n 0) → Below w.heap.size w w' → w'.heap.size = w.heap.size + 1 → wpList P ops Q rest (a.put o.dst (.slice (some ⟨w.heap.size,0,none⟩) n n)) w') :
  wpList P ops Q (o :: rest) a w := by
 obtain ⟨i,hi,hz0,hz1,hz2⟩ := info_parts h2;subst hL;subst hC;refine wpList_plain hg fun K hK' => ?_
 have b2 : bytes * n ≤ 64 * 10000 := Nat.mul_le_mul hby hnn;have b3' : (n : Int) ≤ 9223372036854775807 := by omega
 have hb' : (i.bytes : Int) * (n : Int) ≤ 281474976710656 := by
  rw [hz2];have h : ((bytes * n : Nat) : Int) ≤ 281474976710656 := by omega
  rwa [Int.natCast_mul] at h
 have hr := run_make (P := P) w t e i (.int k 0) h1 hi hz0 kl kc n n (by omega) (Int.le_refl _) hb' b3'
 have e1 : madeCells (Value.int k 0).cells n = ((List.replicate n 0).map fun z => Value.int k ((z : Nat) : Int)).toArray := by
  rw [show (Value.int k 0).cells = #[Value.int k 0] from rfl]
  apply Array.toList_inj.1
  rw [toList_madeCells_one];simp
 simp only [Int.toNat_natCast,hz1,Nat.mul_one,e1] at hr;unfold Oper.wp;simp [execOp,hop,hl,hc,hr,Result.andThen,-List.map_replicate,-List.toArray_replicate,-List.map_toArray];refine hK' _ _ (hK _ (Row.new w k e _) ?_ ?_)
 · exact (Below.refl _ _).alloc (Nat.le_refl _) _
 · simp
theorem wpList_copy_nums {P : Program} {w : World} {ops : Array Oper} {rest : List Oper} {o : Oper} {a : Act} {Q : Exit → Act → World → Prop} (hgd : o.guard = none) (d s : Operand) (dT : TypeId)
  (ho : o.op = .call { callee := .builtin .copy,args := #[d,s],argTypes := #[dT,dT] }) (e : TypeId) (k : IntKind) (bytes : Nat) (h1 : P.underlying dT = some (.slice e)) (h2 : (P.info? e).map (fun i => (i.zero,i.size,i.bytes)) = some (some (.int k 0),1,bytes))
  (g dLen dCap : Nat) (ao : Option Addr) (n cap : Nat) (hd : a.eval d = .slice (some ⟨g,0,none⟩) dLen dCap) (hs : a.eval s = .slice ao n cap)
  (zs xs : List Nat) (hg : Row k e w g zs) (hz : zs.length = dLen) (hx : xs.length = n) (hsrc : Seg k w ao xs) (hle : n ≤ dLen)
  (hK : ∀ w',Row k e w' g (xs ++ zs.drop n) → Below g w w' → w'.heap.size = w.heap.size → wpList P ops Q rest (a.put o.dst (goInt n)) w') :
  wpList P ops Q (o :: rest) a w := by
 obtain ⟨i,hi,hz0,hz1,hz2⟩ := info_parts h2;have hsz : (P.info? e).map (·.size) = some 1 := by rw [hi];simp [hz1]
 subst hx;subst hz;by_cases h0 : xs.length = 0
 ·
  obtain rfl : xs = [] := List.eq_nil_of_length_eq_zero h0;refine wpList_copy_nothing hgd d s dT dT ho e h1 hsz _ _ _ _ _ _ hd hs (by simp) ?_
  exact hK w (by simpa using hg) (Below.refl _ _) rfl
 ·
  obtain ⟨b,off,rfl,hc⟩ := hsrc.open 0 (by omega)
  refine wpList_copy_own hgd d s dT dT ho e h1 hsz g 0 _ _ ⟨b,off,none⟩ _ _ hd hs _ e hg (xs.map fun z => Value.int k ((z : Nat) : Int)) ?_ ?_ ?_ ?_ ?_
  · rw [List.length_map];exact (Nat.min_eq_left hle).symm
  ·
   intro j v hv;have hj : j < xs.length := by simpa using (List.getElem?_eq_some_iff.1 hv).1
   rw [Addr.add_lit,hc j hj];simp only [List.getElem?_map,List.getElem?_eq_getElem hj,Option.map_some,Option.some.injEq] at hv;rw [← hv,List.getD_eq_getElem?_getD,List.getElem?_eq_getElem hj];rfl
  · simp;omega
  · intro v hv;obtain ⟨_,_,rfl⟩ := List.mem_map.1 hv;rfl
  ·
   have e2 : (goInt ((xs.map fun z => Value.int k ((z : Nat) : Int)).length)) = goInt xs.length := by simp
   rw [e2];refine hK _ ?_ (below_setRow (Below.refl _ _) (Nat.le_refl _) _) (by simp [World.setRow])
   unfold Row;rw [setRow_heap w g _ _ e _ hg];simp
def val (B : Nat) : List Nat → Nat
  | [] => 0
  | x :: r => x + B * val B r
def trimZ : List Nat → List Nat
  | [] => []
  | x :: r => if trimZ r = [] ∧ x = 0 then [] else x :: trimZ r
def Digs (B : Nat) (xs : List Nat) : Prop := ∀ x, x ∈ xs → x < B
theorem Digs.nil (B : Nat) : Digs B [] := fun _ h => by simp at h
theorem Digs.tail {B x : Nat} {r : List Nat} (h : Digs B (x :: r)) : Digs B r := fun y hy => h y (List.mem_cons_of_mem _ hy)
theorem Digs.head {B x : Nat} {r : List Nat} (h : Digs B (x :: r)) : x < B := h x (List.mem_cons_self ..)
theorem Digs.cons {B x : Nat} {r : List Nat} (hx : x < B) (h : Digs B r) : Digs B (x :: r) := by
 intro y hy;rcases List.mem_cons.1 hy with h' | h'
 · subst h';exact hx
 · exact h y h'
theorem Digs.append {B : Nat} {a b : List Nat} (ha : Digs B a) (hb : Digs B b) : Digs B (a ++ b) := by
 intro y hy;rcases List.mem_append.1 hy with h' | h'
 · exact ha y h'
 · exact hb y h'
theorem Digs.take {B : Nat} {a : List Nat} (ha : Digs B a) (n : Nat) : Digs B (a.take n) := fun y hy => ha y (List.mem_of_mem_take hy)
theorem Digs.drop {B : Nat} {a : List Nat} (ha : Digs B a) (n : Nat) : Digs B (a.drop n) := fun y hy => ha y (List.mem_of_mem_drop hy)
theorem Digs.getD {B : Nat} {a : List Nat} (ha : Digs B a) (hB : 0 < B) (i : Nat) : a.getD i 0 < B := by
 rw [List.getD_eq_getElem?_getD];cases h : a[i]? with
 | none => simpa using hB
 | some y => simpa using ha y (List.mem_of_getElem? h)
theorem Digs.get {B : Nat} {a : List Nat} (ha : Digs B a) (hB : 0 < B) (i : Nat) : a[i]?.getD 0 < B := by
 rw [← List.getD_eq_getElem?_getD];exact ha.getD hB i
theorem val_nil (B : Nat) : val B [] = 0 := rfl
theorem val_cons (B x : Nat) (r : List Nat) : val B (x :: r) = x + B * val B r := rfl
theorem val_append (B : Nat) (a b : List Nat) : val B (a ++ b) = val B a + B ^ a.length * val B b := by
 induction a with
 | nil => simp [val]
 | cons x r ih =>
  simp only [List.cons_append,val,ih,List.length_cons,Nat.pow_succ,Nat.mul_add,Nat.add_assoc];congr 2
  rw [← Nat.mul_assoc,Nat.mul_comm B]
theorem val_snoc (B : Nat) (a : List Nat) (x : Nat) : val B (a ++ [x]) = val B a + B ^ a.length * x := by
 rw [val_append];simp [val]
theorem take_snoc (xs : List Nat) (k : Nat) (h : k < xs.length) : xs.take (k + 1) = xs.take k ++ [xs.getD k 0] := by
 rw [List.take_succ_eq_append_getElem h,List.getD_eq_getElem?_getD,List.getElem?_eq_getElem h];rfl
theorem val_take_succ (B : Nat) (xs : List Nat) (k : Nat) (h : k < xs.length) : val B (xs.take (k + 1)) = val B (xs.take k) + B ^ k * xs.getD k 0 := by
 rw [take_snoc xs k h,val_snoc,List.length_take,Nat.min_eq_left (Nat.le_of_lt h)]
theorem val_lt {B : Nat} {xs : List Nat} (h : Digs B xs) : val B xs < B ^ xs.length := by
 induction xs with
 | nil => simp [val]
 | cons x r ih =>
  have h1 := ih h.tail;have h2 := h.head;simp only [val,List.length_cons,Nat.pow_succ];have h3 : B * (val B r + 1) ≤ B * B ^ r.length := Nat.mul_le_mul_left _ h1;rw [Nat.mul_add,Nat.mul_one] at h3;rw [Nat.mul_comm (B ^ r.length) B];omega
theorem val_replicate_zero (B n : Nat) : val B (List.replicate n 0) = 0 := by
 induction n with
 | zero => rfl
 | succ n ih => simp [List.replicate_succ,val,ih]
theorem val_trimZ (B : Nat) (xs : List Nat) : val B (trimZ xs) = val B xs := by
 induction xs with
 | nil => rfl
 | cons x r ih =>
  simp only [trimZ];split
  · next h => obtain ⟨h1,h2⟩ := h;rw [h1] at ih;simp [val] at ih ⊢;rw [← ih,h2];simp
  · simp [val,ih]
theorem trimZ_snoc_zero (l : List Nat) : trimZ (l ++ [0]) = trimZ l := by
 induction l with
 | nil => simp [trimZ]
 | cons x r ih => simp [trimZ,ih]
theorem trimZ_snoc_ne (l : List Nat) (x : Nat) (h : x ≠ 0) : trimZ (l ++ [x]) = l ++ [x] := by
 induction l with
 | nil => simp [trimZ,h]
 | cons y r ih => simp [trimZ,ih]
theorem trimZ_take (xs : List Nat) : trimZ xs = xs.take (trimZ xs).length := by
 induction xs with
 | nil => rfl
 | cons x r ih =>
  simp only [trimZ];split
  · simp
  · simp only [List.length_cons,List.take_succ_cons];rw [← ih]
theorem trimZ_length_le (xs : List Nat) : (trimZ xs).length ≤ xs.length := by
 have h := congrArg List.length (trimZ_take xs);rw [List.length_take] at h;omega
theorem Digs.trimZ {B : Nat} {xs : List Nat} (h : Digs B xs) : Digs B (trimZ xs) := by
 rw [trimZ_take];exact h.take _
def Norm (xs : List Nat) : Prop := trimZ xs = xs
theorem Norm.nil : Norm [] := rfl
theorem norm_trimZ (xs : List Nat) : Norm (trimZ xs) := by
 induction xs with
 | nil => rfl
 | cons x r ih =>
  unfold Norm at ih ⊢;by_cases h : trimZ r = [] ∧ x = 0
  · rw [show trimZ (x :: r) = [] by simp [trimZ,h]];rfl
  ·
   have e : trimZ (x :: r) = x :: trimZ r := by simp only [trimZ];rw [if_neg h]
   rw [e];simp only [trimZ,ih];rw [if_neg h]
theorem Norm.tail {x : Nat} {r : List Nat} (h : Norm (x :: r)) : Norm r := by
 unfold Norm at h ⊢;simp only [trimZ] at h;split at h
 · cases h
 · exact (List.cons.inj h).2
theorem Norm.pos {B : Nat} {xs : List Nat} (h : Norm xs) (hne : xs ≠ []) : 0 < val B xs ∨ B = 0 := by
 induction xs with
 | nil => exact absurd rfl hne
 | cons x r ih =>
  by_cases hr : r = []
  ·
   subst hr;unfold Norm at h;simp only [trimZ] at h;split at h
   · cases h
   · next h' => simp at h';left;simp [val];omega
  ·
   rcases ih h.tail hr with h1 | h1
   ·
    by_cases hB : B = 0
    · exact Or.inr hB
    · left;simp only [val];exact Nat.lt_of_lt_of_le (Nat.mul_pos (Nat.pos_of_ne_zero hB) h1) (Nat.le_add_left _ _)
   · exact Or.inr h1
theorem Norm.ge {B : Nat} {xs : List Nat} (h : Norm xs) (hne : xs ≠ []) (hB : 0 < B) : B ^ (xs.length - 1) ≤ val B xs := by
 induction xs with
 | nil => exact absurd rfl hne
 | cons x r ih =>
  by_cases hr : r = []
  ·
   subst hr;have := (h.pos (B := B) (by simp)).resolve_right (by omega)
   simp;omega
  ·
   have h1 := ih h.tail hr;have hl : 0 < r.length := List.length_pos_iff.2 hr;simp only [val,List.length_cons,Nat.add_sub_cancel];have e : B ^ r.length = B * B ^ (r.length - 1) := by
    rw [Nat.mul_comm,← Nat.pow_succ];congr 1;omega
   rw [e];exact Nat.le_trans (Nat.mul_le_mul_left _ h1) (Nat.le_add_left _ _)
theorem Norm.eq_nil {B : Nat} {xs : List Nat} (h : Norm xs) (hB : 0 < B) (hv : val B xs = 0) : xs = [] := by
 by_cases hne : xs = []
 · exact hne
 ·
  have := (h.pos (B := B) hne).resolve_right (by omega)
  omega
theorem Norm.last {xs : List Nat} (h : Norm xs) (hne : 0 < xs.length) : xs.getD (xs.length - 1) 0 ≠ 0 := by
 intro e;have h1 := take_snoc xs (xs.length - 1) (by omega)
 rw [show xs.length - 1 + 1 = xs.length by omega,List.take_length,e] at h1
 unfold Norm at h;have h2 := congrArg trimZ h1;rw [h,trimZ_snoc_zero] at h2;have h3 := congrArg List.length h2;have h4 := trimZ_length_le (xs.take (xs.length - 1));simp only [List.length_take] at h4;omega
theorem val_lt_of_length {B : Nat} {xs ys : List Nat} (hx : Digs B xs) (hy : Norm ys) (hB : 0 < B) (h : xs.length < ys.length) : val B xs < val B ys := by
 have h1 := val_lt hx;have h2 := hy.ge (B := B) (by intro e;subst e;simp at h) hB
 have h3 : B ^ xs.length ≤ B ^ (ys.length - 1) := Nat.pow_le_pow_right hB (by omega)
 omega
theorem val_inj {B : Nat} {xs ys : List Nat} (hx : Digs B xs) (hy : Digs B ys) (hl : xs.length = ys.length) (h : val B xs = val B ys) : xs = ys := by
 induction xs generalizing ys with
 | nil => cases ys with
  | nil => rfl
  | cons y s => simp at hl
 | cons x r ih => cases ys with
  | nil => simp at hl
  | cons y s =>
   simp only [val] at h;have hx0 := hx.head;have hy0 := hy.head;have h1 : x = y := by
    have a := congrArg (· % B) h;simp only [Nat.add_mul_mod_self_left] at a;rwa [Nat.mod_eq_of_lt hx0,Nat.mod_eq_of_lt hy0] at a
   subst h1;have h2 : val B r = val B s := Nat.eq_of_mul_eq_mul_left (show 0 < B by omega) (Nat.add_left_cancel h)
   rw [ih hx.tail hy.tail (by simpa using hl) h2]
theorem Norm.inj {B : Nat} {xs ys : List Nat} (hx : Digs B xs) (hy : Digs B ys) (nx : Norm xs) (ny : Norm ys) (hB : 0 < B) (h : val B xs = val B ys) : xs = ys := by
 apply val_inj hx hy _ h
 rcases Nat.lt_trichotomy xs.length ys.length with h1 | h1 | h1
 · have := val_lt_of_length hx ny hB h1;omega
 · exact h1
 · have := val_lt_of_length hy nx hB h1;omega
theorem trimZ_eq_of_zeros (xs : List Nat) (k : Nat) (hk : k ≤ xs.length) (h : ∀ i,k ≤ i → i < xs.length → xs.getD i 0 = 0) : trimZ xs = trimZ (xs.take k) := by
 induction hn : xs.length - k generalizing k with
 | zero => rw [List.take_of_length_le (by omega)]
 | succ n ih =>
  rw [ih (k + 1) (by omega) (fun i h1 h2 => h i (by omega) h2) (by omega),take_snoc xs k (by omega),h k (Nat.le_refl _) (by omega),trimZ_snoc_zero]
theorem take_set_succ (zs : List Nat) (k d : Nat) (hk : k < zs.length) : (zs.set k d).take (k + 1) = zs.take k ++ [d] := by
 rw [take_snoc _ k (by simpa using hk),List.take_set_of_le (Nat.le_refl k)]
 simp [List.getD_eq_getElem?_getD,hk]
theorem val_set_succ (B : Nat) (zs : List Nat) (k d : Nat) (hk : k < zs.length) : val B ((zs.set k d).take (k + 1)) = val B (zs.take k) + B ^ k * d := by
 rw [take_set_succ zs k d hk,val_snoc,List.length_take,Nat.min_eq_left (Nat.le_of_lt hk)]
theorem Digs.set {B : Nat} {zs : List Nat} (h : Digs B zs) (k d : Nat) (hd : d < B) : Digs B (zs.set k d) := by
 intro y hy;rcases List.mem_or_eq_of_mem_set hy with h' | h'
 · exact h y h'
 · subst h';exact hd
theorem Digs.replicate (B n : Nat) (hB : 0 < B) : Digs B (List.replicate n 0) := by
 intro y hy;have := List.eq_of_mem_replicate hy;subst this;exact hB
theorem val_take_succ' (B : Nat) (xs : List Nat) (k : Nat) : val B (xs.take (k + 1)) = val B (xs.take k) + B ^ k * xs.getD k 0 := by
 rcases Nat.lt_or_ge k xs.length with h | h
 · exact val_take_succ B xs k h
 ·
  rw [List.take_of_length_le (by omega),List.take_of_length_le h,List.getD_eq_getElem?_getD,List.getElem?_eq_none h]
  simp
theorem norm_of_ge {B : Nat} {zs : List Nat} (hB : 2 ≤ B) (hd : Digs B zs) (hl : 0 < zs.length) (h : B ^ (zs.length - 1) ≤ val B zs) : Norm zs := by
 have h1 := val_lt hd.trimZ;rw [val_trimZ] at h1;have h2 := trimZ_length_le zs;have h3 : zs.length - 1 < (trimZ zs).length := by
  rcases Nat.lt_or_ge (zs.length - 1) (trimZ zs).length with h4 | h4
  · exact h4
  ·
   have : B ^ (trimZ zs).length ≤ B ^ (zs.length - 1) := Nat.pow_le_pow_right (by omega) h4
   omega
 unfold Norm;have h5 := trimZ_take zs;rw [List.take_of_length_le (by omega)] at h5
 exact h5
theorem plus_step (P A c X Y x y d c' B : Nat) (h : A + P * c = X + Y) (hs : d + B * c' = c + x + y) : (A + P * d) + P * B * c' = (X + P * x) + (Y + P * y) := by
 have e := congrArg (P * ·) hs;simp only [Nat.mul_add,Nat.mul_assoc] at *;omega
theorem scale_step (P A c V x f m d c' B : Nat) (h : A + P * c = V * f + m) (hs : d + B * c' = x * f + c) : (A + P * d) + P * B * c' = (V + P * x) * f + m := by
 have e := congrArg (P * ·) hs;simp only [Nat.mul_add,Nat.add_mul,Nat.mul_assoc] at *;omega
theorem Tryz.underlying29 : Tryz.prog.underlying 29 = some (.slice 167) := by kernel_rfl
theorem Tryz.underlying167 : Tryz.prog.underlying 167 = some (.int .u32) := by kernel_rfl
theorem Tryz.info167 : (Tryz.prog.info? 167).map (fun i => (i.zero,i.size,i.bytes)) = some (some (.int .u32 0),1,4) := by kernel_rfl
theorem trim_end (xs : List Nat) (j : Nat) (hj : j < xs.length) (h : ∀ i,j + 1 ≤ i → i < xs.length → xs.getD i 0 = 0) (h0 : ((xs[j]?.getD 0 : Nat) : Int) == 0 → False) :
  (trimZ xs).length = j + 1 := by
 rw [trimZ_eq_of_zeros xs (j + 1) (by omega) h,take_snoc xs j hj,trimZ_snoc_ne _ _ (fun e => h0 (by rw [List.getD_eq_getElem?_getD] at e;simp [e]))]
 simp;omega
set_option maxHeartbeats 400000 in
theorem trimmed_any (ao : Option Addr) (n cap : Nat) (xs : List Nat) (w : World) (hn : xs.length = n) (h1 : n ≤ cap) (h2 : cap ≤ maxLen) (hs : Seg .u32 w ao xs) :
  Calls Tryz.prog 113 #[.slice ao n cap] w fun e w' => e = .returned (.slice ao (trimZ xs).length cap) ∧ w' = w := by
 subst hn;unfold maxLen at h2;go_enter Tryz.func113,Tryz.ntmps113;go_wp2;go_loop [3] (fun n => ∃ k : Nat,k ≤ xs.length ∧ n = .int .i64 k ∧ Hid (∀ i,k ≤ i → i < xs.length → xs.getD i 0 = 0)) (fun n => (intOf n).toNat)
 case atStart => exact ⟨_,Nat.le_refl _,rfl,fun i h1 h2 => by omega⟩
 case round =>
  obtain ⟨k,hk,rfl,hz⟩ := hrel;by_cases h0 : 0 < k
  ·
   obtain ⟨b,off,rfl,hc⟩ := hs.open (k - 1) (by omega)
   have hcell := hc (k - 1) (by omega)
   have hkk : ∃ j,k = j + 1 := ⟨k - 1,by omega⟩
   obtain ⟨j,rfl⟩ := hkk;simp only [Nat.add_sub_cancel] at hcell;clear hc;go_wp2
   ·
    have h0' : ((xs[j]?.getD 0 : Nat) : Int) == 0 := by assumption
    go_round
    case rel =>
     refine ⟨j,by omega,rfl,fun i h1 h2 => ?_⟩
     by_cases e : i = j
     · subst e;rw [List.getD_eq_getElem?_getD];simpa using h0'
     · exact hz.out i (by omega) h2
    case measure => simp [intOf]
   ·
    have h0' : (((xs[j]?.getD 0 : Nat) : Int) == 0) = false := by assumption
    go_ret
    refine ⟨?_,rfl⟩;rw [trim_end xs j (by omega) hz.out (fun h => by rw [h0'] at h;cases h)]
    rfl
  ·
   go_wp2;go_ret
   refine ⟨?_,rfl⟩;have hk0 : k = 0 := by omega
   subst hk0;rw [trimZ_eq_of_zeros xs 0 (by omega) hz.out]
   rfl
end Go.Proofs.YteefniagebcagaaGreatDoor
