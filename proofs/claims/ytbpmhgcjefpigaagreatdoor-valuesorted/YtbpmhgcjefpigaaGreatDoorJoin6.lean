/- DERIVED: THE SHELF's CONTRACTS AT THIS DUMP, IN PLAIN WORDS (tools/lay-plain.mjs out of 'TryzShelf.lean', which tools/lay-shelf.mjs wrote): THE SAME DECLARATIONS UNDER THE SAME NAMES: 'import', 'namespace', 'open', 'def', 'theorem' AND NOTHING ELSE: no command of the shelf's: FOR A HAND-IN. Each laying: the table of numbers ('.._ren') and one theorem, a field a fact of the dump's own or the kernel's comparison; each contract: ONE APPLICATION. The places of two keys as the keys rise. -/
import Derived.Shelf.Small.Bits
import Derived.Shelf.Strconv.Itoa0
import Derived.Shelf.Strconv.Itoa1
import Derived.Shelf.LaysM
import Derived.Shelf.Strconv.Itoa2
import Derived.Shelf.Strconv.Itoa3
import Derived.Shelf.Strings.Search1
import Derived.Shelf.Strings.Search2
import Derived.Shelf.Strings.Search3
import Derived.Shelf.Strings.Count
import Derived.Shelf.Strconv.AppendInt10
import Derived.Shelf.Strconv.AppendIntPublic10
import Derived.Ground.SlsfProg
import Derived.Shelf.SlSortCmp.Insertion
import Derived.Shelf.SlSortCmp.Small
import Derived.Ground.NamesProg
import Derived.Test.YtbpmhgcjefpigaaGreatDoorProg
import Derived.Test.YtbpmhgcjefpigaaGreatDoorCopied
import Derived.Shelf.SlSortFunc.HeapSort
namespace Go.Proofs
open Go.Shelf
def Tryz.lays125_ren : Go.Shelf.Ren := ⟨fun | 125 => 109 | 128 => 136 | 129 => 137 | n => n, fun | 46 => 107 | 3 => 3 | 51 => 144 | 53 => 119 | 4 => 4 | 5 => 5 | 9 => 9 | n => n, fun | n => n⟩
theorem Tryz.lays125 : Go.Proofs.Lays.n125 Tryz.prog Tryz.lays125_ren := {
  mixed := by kernel_rfl
  f125 := Tryz.func109.trans (congrArg some (by kernel_rfl))
  f128 := Tryz.func136.trans (congrArg some (by kernel_rfl))
  f129 := Tryz.func137.trans (congrArg some (by kernel_rfl))
  t3 := Tryz.underlying3
  a3 := Tryz.isAgg3
  z3 := Tryz.sizeOf3
  v3 := Tryz.zeroValue3
  t4 := Tryz.underlying4
  a4 := Tryz.isAgg4
  z4 := Tryz.sizeOf4
  v4 := Tryz.zeroValue4
  t5 := Tryz.underlying5
  a5 := Tryz.isAgg5
  z5 := Tryz.sizeOf5
  v5 := Tryz.zeroValue5
  t9 := Tryz.underlying9
  a9 := Tryz.isAgg9
  z9 := Tryz.sizeOf9
  v9 := Tryz.zeroValue9
  t46 := Tryz.underlying107
  a46 := Tryz.isAgg107
  z46 := Tryz.sizeOf107
  v46 := Tryz.zeroValue107
  t51 := Tryz.underlying144
  a51 := Tryz.isAgg144
  z51 := Tryz.sizeOf144
  v51 := Tryz.zeroValue144
  t53 := Tryz.underlying119
  a53 := Tryz.isAgg119
  z53 := Tryz.sizeOf119
  v53 := Tryz.zeroValue119 }
/-- bits.Len: "Len returns the minimum number of bits required to represent x; the result is 0 for x == 0.": IT RETURNS 'Lib.bitLen x'; the world is as it was. (A uint has 64 bits in the model.) ITS CALLEE bits.Len64 IS MET BY ITS OWN CONTRACT OFF THE SHELF (lay that first). (LAID: no walk: one application.) -/
theorem Tryz.bits_Len (x : Int) (w : World) (h0 : 0 ≤ x) (h1 : x ≤ 18446744073709551615) :
    Calls Tryz.prog 109 #[.int .u64 x] w fun e w' => e = .returned (.int .i64 (Lib.bitLen x.toNat)) ∧ w' = w := Any.bits_Len Tryz.lays125 x w h0 h1
def Tryz.lays138_ren : Go.Shelf.Ren := ⟨fun | 138 => 122 | 195 => 145 | 218 => 146 | 143 => 124 | 219 => 149 | 217 => 168 | 225 => 169 | 224 => 170 | 267 => 171 | 266 => 176 | 314 => 177 | n => n, fun | 9 => 9 | 3 => 3 | 4 => 4 | 5 => 5 | 0 => 0 | 46 => 107 | 146 => 174 | 51 => 144 | n => n, fun | 1 => 2 | n => n⟩
theorem Tryz.lays138 : Go.Proofs.Lays.n138 Tryz.prog Tryz.lays138_ren := {
  mixed := by kernel_rfl
  f138 := Tryz.func122.trans (congrArg some (by kernel_rfl))
  f143 := Tryz.func124.trans (congrArg some (by kernel_rfl))
  f195 := Tryz.func145.trans (congrArg some (by kernel_rfl))
  f217 := Tryz.func168.trans (congrArg some (by kernel_rfl))
  f218 := Tryz.func146.trans (congrArg some (by kernel_rfl))
  f219 := Tryz.func149.trans (congrArg some (by kernel_rfl))
  f224 := Tryz.func170.trans (congrArg some (by kernel_rfl))
  f225 := Tryz.func169.trans (congrArg some (by kernel_rfl))
  f266 := Tryz.func176.trans (congrArg some (by kernel_rfl))
  f267 := Tryz.func171.trans (congrArg some (by kernel_rfl))
  f314 := Tryz.func177.trans (congrArg some (by kernel_rfl))
  t0 := Tryz.underlying0
  a0 := Tryz.isAgg0
  z0 := Tryz.sizeOf0
  v0 := Tryz.zeroValue0
  t3 := Tryz.underlying3
  a3 := Tryz.isAgg3
  z3 := Tryz.sizeOf3
  v3 := Tryz.zeroValue3
  t4 := Tryz.underlying4
  a4 := Tryz.isAgg4
  z4 := Tryz.sizeOf4
  v4 := Tryz.zeroValue4
  t5 := Tryz.underlying5
  a5 := Tryz.isAgg5
  z5 := Tryz.sizeOf5
  v5 := Tryz.zeroValue5
  t9 := Tryz.underlying9
  a9 := Tryz.isAgg9
  z9 := Tryz.sizeOf9
  v9 := Tryz.zeroValue9
  t46 := Tryz.underlying107
  a46 := Tryz.isAgg107
  z46 := Tryz.sizeOf107
  v46 := Tryz.zeroValue107
  t51 := Tryz.underlying144
  a51 := Tryz.isAgg144
  z51 := Tryz.sizeOf144
  v51 := Tryz.zeroValue144
  t146 := Tryz.underlying174
  a146 := Tryz.isAgg174
  z146 := Tryz.sizeOf174
  v146 := Tryz.zeroValue174
  g1 := by kernel_rfl }
open Go.RowKit Go.Lib in
/-- strings.Count AT A substr OF ONE BYTE ('hp'): "Count counts the number of non-overlapping instances of substr in s.": IT RETURNS 'Lib.countByte s (that byte)'; the world is as it was. ✋ NO CONTRACT HERE YET at an empty substr (utf8.RuneCountInString) or at a longer one (a loop over strings.Index). (LAID: no walk: one application.) -/
theorem Tryz.strings_Count_one (s : ByteArray) (c : UInt8) (w : World) :
    Calls Tryz.prog 122 #[.string s, .string ⟨#[c]⟩] w fun e w' => e = .returned (.int .i64 (Lib.countByte s.data.toList c)) ∧ w' = w := Any.strings_Count_one Tryz.lays138 s c w
def Tryz.laysM176_ren : Go.Shelf.Ren := ⟨fun | 176 => 99 | 249 => 117 | 288 => 140 | 283 => 118 | 284 => 119 | 285 => 120 | 286 => 121 | 129 => 137 | 317 => 141 | 318 => 142 | 319 => 143 | 320 => 144 | 337 => 164 | 338 => 165 | n => n, fun | 37 => 67 | 2 => 2 | 3 => 3 | 53 => 119 | 4 => 4 | 9 => 9 | 171 => 118 | 0 => 0 | 173 => 122 | 212 => 149 | 51 => 144 | 5 => 5 | 20 => 20 | 213 => 150 | 46 => 107 | 232 => 172 | 233 => 173 | n => n, fun | 17 => 3 | 18 => 4 | 19 => 5 | n => n⟩
theorem Tryz.laysM176 : Go.Proofs.LaysM.n176 Tryz.prog Tryz.laysM176_ren := {
  mixed := by kernel_rfl
  f129 := Tryz.func137.trans (congrArg some (by kernel_rfl))
  f176 := Tryz.func99.trans (congrArg some (by kernel_rfl))
  f249 := Tryz.func117.trans (congrArg some (by kernel_rfl))
  f283 := Tryz.func118.trans (congrArg some (by kernel_rfl))
  f284 := Tryz.func119.trans (congrArg some (by kernel_rfl))
  f285 := Tryz.func120.trans (congrArg some (by kernel_rfl))
  f286 := Tryz.func121.trans (congrArg some (by kernel_rfl))
  f288 := Tryz.func140.trans (congrArg some (by kernel_rfl))
  f317 := Tryz.func141.trans (congrArg some (by kernel_rfl))
  f318 := Tryz.func142.trans (congrArg some (by kernel_rfl))
  f319 := Tryz.func143.trans (congrArg some (by kernel_rfl))
  f320 := Tryz.func144.trans (congrArg some (by kernel_rfl))
  f337 := Tryz.func164.trans (congrArg some (by kernel_rfl))
  f338 := Tryz.func165.trans (congrArg some (by kernel_rfl))
  t0 := Tryz.underlying0
  a0 := Tryz.isAgg0
  z0 := Tryz.sizeOf0
  v0 := Tryz.zeroValue0
  t2 := Tryz.underlying2
  a2 := Tryz.isAgg2
  z2 := Tryz.sizeOf2
  v2 := Tryz.zeroValue2
  t3 := Tryz.underlying3
  a3 := Tryz.isAgg3
  z3 := Tryz.sizeOf3
  v3 := Tryz.zeroValue3
  t4 := Tryz.underlying4
  a4 := Tryz.isAgg4
  z4 := Tryz.sizeOf4
  v4 := Tryz.zeroValue4
  t5 := Tryz.underlying5
  a5 := Tryz.isAgg5
  z5 := Tryz.sizeOf5
  v5 := Tryz.zeroValue5
  t9 := Tryz.underlying9
  a9 := Tryz.isAgg9
  z9 := Tryz.sizeOf9
  v9 := Tryz.zeroValue9
  t20 := Tryz.underlying20
  a20 := Tryz.isAgg20
  z20 := Tryz.sizeOf20
  v20 := Tryz.zeroValue20
  t37 := Tryz.underlying67
  a37 := Tryz.isAgg67
  z37 := Tryz.sizeOf67
  v37 := Tryz.zeroValue67
  t46 := Tryz.underlying107
  a46 := Tryz.isAgg107
  z46 := Tryz.sizeOf107
  v46 := Tryz.zeroValue107
  t51 := Tryz.underlying144
  a51 := Tryz.isAgg144
  z51 := Tryz.sizeOf144
  v51 := Tryz.zeroValue144
  t53 := Tryz.underlying119
  a53 := Tryz.isAgg119
  z53 := Tryz.sizeOf119
  v53 := Tryz.zeroValue119
  t171 := Tryz.underlying118
  a171 := Tryz.isAgg118
  z171 := Tryz.sizeOf118
  v171 := Tryz.zeroValue118
  t173 := Tryz.underlying122
  a173 := Tryz.isAgg122
  z173 := Tryz.sizeOf122
  v173 := Tryz.zeroValue122
  t212 := Tryz.underlying149
  a212 := Tryz.isAgg149
  z212 := Tryz.sizeOf149
  v212 := Tryz.zeroValue149
  t213 := Tryz.underlying150
  a213 := Tryz.isAgg150
  z213 := Tryz.sizeOf150
  t232 := Tryz.underlying172
  a232 := Tryz.isAgg172
  z232 := Tryz.sizeOf172
  v232 := Tryz.zeroValue172
  t233 := Tryz.underlying173
  a233 := Tryz.isAgg173
  z233 := Tryz.sizeOf173
  v233 := Tryz.zeroValue173
  g17 := by kernel_rfl
  g18 := by kernel_rfl
  g19 := by kernel_rfl
  i0 := by kernel_rfl
  i2 := by kernel_rfl
  i3 := by kernel_rfl
  i4 := by kernel_rfl
  i5 := by kernel_rfl
  i9 := by kernel_rfl
  i20 := by kernel_rfl
  i37 := by kernel_rfl
  i46 := by kernel_rfl
  i51 := by kernel_rfl
  i53 := by kernel_rfl
  i171 := by kernel_rfl
  i173 := by kernel_rfl
  i212 := by kernel_rfl
  i232 := by kernel_rfl
  i233 := by kernel_rfl
  m17 := by kernel_rfl
  m18 := by kernel_rfl
  m19 := by kernel_rfl }
def Tryz.laysSlF6_f110_ren : Go.Shelf.Ren := ⟨fun | 6 => 110 | 15 => 109 | 14 => 138 | 28 => 136 | 29 => 137 | 20 => 156 | 21 => 157 | 22 => 158 | 23 => 159 | 24 => 160 | 25 => 161 | 26 => 162 | 27 => 163 | 46 => 173 | 47 => 152 | 48 => 153 | 49 => 174 | 50 => 175 | 57 => 178 | n => n, fun | 22 => 90 | 24 => 3 | 25 => 96 | 3 => 3 | 39 => 107 | 0 => 0 | 53 => 144 | 55 => 119 | 4 => 4 | 46 => 137 | 45 => 136 | 50 => 141 | 5 => 5 | 9 => 9 | 66 => 154 | 70 => 158 | 76 => 168 | 77 => 30 | n => n, fun | n => n⟩
theorem Tryz.laysSlF6_f110 : Go.Proofs.SlLaysF.n6 Tryz.prog Tryz.laysSlF6_f110_ren := {
  mixed := by kernel_rfl
  f6 := ⟨Tryz.f110.name, by decide, Tryz.func110.trans (congrArg some (by kernel_rfl))⟩
  f14 := ⟨Tryz.f138.name, by decide, Tryz.func138.trans (congrArg some (by kernel_rfl))⟩
  f15 := Tryz.func109.trans (congrArg some (by kernel_rfl))
  f20 := ⟨Tryz.f156.name, by decide, Tryz.func156.trans (congrArg some (by kernel_rfl))⟩
  f21 := ⟨Tryz.f157.name, by decide, Tryz.func157.trans (congrArg some (by kernel_rfl))⟩
  f22 := ⟨Tryz.f158.name, by decide, Tryz.func158.trans (congrArg some (by kernel_rfl))⟩
  f23 := ⟨Tryz.f159.name, by decide, Tryz.func159.trans (congrArg some (by kernel_rfl))⟩
  f24 := ⟨Tryz.f160.name, by decide, Tryz.func160.trans (congrArg some (by kernel_rfl))⟩
  f25 := ⟨Tryz.f161.name, by decide, Tryz.func161.trans (congrArg some (by kernel_rfl))⟩
  f26 := ⟨Tryz.f162.name, by decide, Tryz.func162.trans (congrArg some (by kernel_rfl))⟩
  f27 := ⟨Tryz.f163.name, by decide, Tryz.func163.trans (congrArg some (by kernel_rfl))⟩
  f28 := Tryz.func136.trans (congrArg some (by kernel_rfl))
  f29 := Tryz.func137.trans (congrArg some (by kernel_rfl))
  f46 := ⟨Tryz.f173.name, by decide, Tryz.func173.trans (congrArg some (by kernel_rfl))⟩
  f47 := Tryz.func152.trans (congrArg some (by kernel_rfl))
  f48 := Tryz.func153.trans (congrArg some (by kernel_rfl))
  f49 := ⟨Tryz.f174.name, by decide, Tryz.func174.trans (congrArg some (by kernel_rfl))⟩
  f50 := ⟨Tryz.f175.name, by decide, Tryz.func175.trans (congrArg some (by kernel_rfl))⟩
  f57 := ⟨Tryz.f178.name, by decide, Tryz.func178.trans (congrArg some (by kernel_rfl))⟩
  t0 := Tryz.underlying0
  a0 := Tryz.isAgg0
  z0 := Tryz.sizeOf0
  v0 := Tryz.zeroValue0
  t3 := Tryz.underlying3
  a3 := Tryz.isAgg3
  z3 := Tryz.sizeOf3
  v3 := Tryz.zeroValue3
  t4 := Tryz.underlying4
  a4 := Tryz.isAgg4
  z4 := Tryz.sizeOf4
  v4 := Tryz.zeroValue4
  t5 := Tryz.underlying5
  a5 := Tryz.isAgg5
  z5 := Tryz.sizeOf5
  v5 := Tryz.zeroValue5
  t9 := Tryz.underlying9
  a9 := Tryz.isAgg9
  z9 := Tryz.sizeOf9
  v9 := Tryz.zeroValue9
  t22 := Tryz.underlying90
  a22 := Tryz.isAgg90
  z22 := Tryz.sizeOf90
  v22 := Tryz.zeroValue90
  a24 := Tryz.isAgg3
  z24 := Tryz.sizeOf3
  t25 := Tryz.underlying96
  a25 := Tryz.isAgg96
  z25 := Tryz.sizeOf96
  v25 := Tryz.zeroValue96
  t39 := Tryz.underlying107
  a39 := Tryz.isAgg107
  z39 := Tryz.sizeOf107
  v39 := Tryz.zeroValue107
  t45 := Tryz.underlying136
  a45 := Tryz.isAgg136
  z45 := Tryz.sizeOf136
  v45 := Tryz.zeroValue136
  t46 := Tryz.underlying137
  a46 := Tryz.isAgg137
  z46 := Tryz.sizeOf137
  v46 := Tryz.zeroValue137
  t50 := Tryz.underlying141
  a50 := Tryz.isAgg141
  z50 := Tryz.sizeOf141
  v50 := Tryz.zeroValue141
  t53 := Tryz.underlying144
  a53 := Tryz.isAgg144
  z53 := Tryz.sizeOf144
  v53 := Tryz.zeroValue144
  t55 := Tryz.underlying119
  a55 := Tryz.isAgg119
  z55 := Tryz.sizeOf119
  v55 := Tryz.zeroValue119
  t66 := Tryz.underlying154
  a66 := Tryz.isAgg154
  z66 := Tryz.sizeOf154
  v66 := Tryz.zeroValue154
  t70 := Tryz.underlying158
  a70 := Tryz.isAgg158
  z70 := Tryz.sizeOf158
  v70 := Tryz.zeroValue158
  t76 := Tryz.underlying168
  a76 := Tryz.isAgg168
  z76 := Tryz.sizeOf168
  v76 := Tryz.zeroValue168
  t77 := Tryz.underlying30
  a77 := Tryz.isAgg30
  z77 := Tryz.sizeOf30
  v77 := Tryz.zeroValue30 }
open Go.RowKit Go.Lib Go.Sort in
/-- slices.SortFunc AT 12 ELEMENTS OR FEWER (0 and 1 among them): THE ROW HOLDS 'Sort.insertionSort (ltOf cf) d 0 d.size'. (LAID AT THE INSTANCE 'slices.SortFunc[[]int,int]': no walk: one application.) -/
theorem Tryz.slices_SortFunc_small {α : Type} [Inhabited α] (enc : α → Value) (hO : OneCell enc) (cf : α → α → Int) (g : Nat) (cb : Array Value) (blk off cap : Nat) (d : Array α) (w : World) (eg : ∀ args w, (callFunc g args).run Tryz.prog w = .ok (.enter g args) w) (hcmp : CmpReads Tryz.prog g cb enc cf blk off d.size w) (hH : Holds enc w blk off d) (h12 : d.size ≤ 12) (hlen : ∀ (n : Nat) (W : World), n ≤ 12 → Calls Tryz.prog 109 #[.int .u64 n] W fun e w' => (∃ l : Int, e = .returned (.int .i64 l)) ∧ w' = W) :
    Calls Tryz.prog 110 #[.slice (some ⟨blk, off, none⟩) d.size cap, .func (.func g) #[] cb] w fun e w' => e = .returned (.tuple #[]) ∧ ∃ n, w' = (putRow enc w blk off (Sort.insertionSort (ltOf cf) d 0 d.size)).drewN n := Any.slices_SortFunc_small Tryz.laysSlF6_f110 enc hO cf g cb blk off cap d w eg hcmp hH h12 hlen
end Go.Proofs

namespace Go.Proofs.YtbpmhgcjefpigaaGreatDoor
open Go.RowKit Go.Shelf Go.WideShapes Go.Sort Go.Lib
set_option linter.unusedVariables false
/-- The key at a place. -/
def keyAt (k0 k1 : ByteArray) (x : Fin 2) : ByteArray := if x = 0 then k0 else k1
/-- Two keys lie at a place, and where that place is stands in a block. -/
def TwoKeys (W : World) (bx b off kc : Nat) (k0 k1 : ByteArray) : Prop :=
  W.cell? ⟨bx, 0, none⟩ = some (.slice (some ⟨b, off, none⟩) 2 kc) ∧ W.cell? ⟨b, off, none⟩ = some (.string k0) ∧ W.cell? ⟨b, off + 1, none⟩ = some (.string k1)
set_option maxHeartbeats 1000000 in
theorem cmp_two (W : World) (bx b off kc : Nat) (k0 k1 : ByteArray) (h : TwoKeys W bx b off kc k0 k1) (x y : Fin 2) :
    Calls Tryz.prog 111 #[.int .i64 (x.val : Int), .int .i64 (y.val : Int), .pointer (some ⟨bx, 0, none⟩)] W fun e w' => e = .returned (.int .i64 (Lib.compareBytes (keyAt k0 k1 x).data.toList (keyAt k0 k1 y).data.toList)) ∧ ∃ q, w' = W.drewN q := by
  obtain ⟨h0, h1, h2⟩ := h
  have hc : ∀ z : Fin 2, W.cell? ⟨b, off + z.val, none⟩ = some (.string (keyAt k0 k1 z)) := fun z => by
    match z with
    | ⟨0, _⟩ => simpa [keyAt] using h1
    | ⟨1, _⟩ => simpa [keyAt] using h2
  have hx := hc x
  have hy := hc y
  have lx : (x.val : Int) < 2 := by have := x.isLt; omega
  have ly : (y.val : Int) < 2 := by have := y.isLt; omega
  have px : 0 ≤ (x.val : Int) := by omega
  have py : 0 ≤ (y.val : Int) := by omega
  generalize keyAt k0 k1 x = kx at *
  generalize keyAt k0 k1 y = ky at *
  generalize x.val = i at *
  generalize y.val = j at *
  clear hc h1 h2
  go_enter Tryz.func111, Tryz.ntmps111
  go_wp2_with fail
  go_quiet ((go_at_call 95; exact Calls.quiet_of_same (Tryz.strings_Compare _ _ _)))
  go_wp2_with fail
  go_ret
  exact ⟨rfl, _, rfl⟩
/-- The places as the keys rise: the second first just if its key is less. -/
def placesOf (k0 k1 : ByteArray) : Array (Fin 2) := if Lib.compareBytes k1.data.toList k0.data.toList < 0 then #[1, 0] else #[0, 1]
theorem sort_two (k0 k1 : ByteArray) : Sort.insertionSort (ltOf fun x y : Fin 2 => Lib.compareBytes (keyAt k0 k1 x).data.toList (keyAt k0 k1 y).data.toList) #[0, 1] 0 2 = placesOf k0 k1 := by
  unfold placesOf Sort.insertionSort
  rw [Sort.insOuter, if_pos (by omega), Sort.insOuter, if_neg (by omega)]
  by_cases h : Lib.compareBytes k1.data.toList k0.data.toList < 0
  · rw [if_pos h]
    simp [Sort.insInner, ltOf, keyAt, h, Sort.swp]
  · rw [if_neg h]
    simp [Sort.insInner, ltOf, keyAt, h]
theorem Tryz.info3 : (Tryz.prog.info? 3).map (fun i => (i.zero, i.size, i.bytes)) = some (some (.int .i64 0), 1, 8) := by kernel_rfl
theorem putRow_below {α : Type} [Inhabited α] {enc : α → Value} {B : Nat} {w w1 : World} (h : Below B w w1) {blk off : Nat} (hb : B ≤ blk) (d : Array α) : Below B w (putRow enc w1 blk off d) :=
  ⟨h.os, h.tape, h.output, by simpa [putRow, mapBlock] using h.size, fun k hk => by
    rw [← h.block k hk]
    simp only [putRow, mapBlock, Array.getElem?_modify]
    rw [if_neg (by omega)]⟩
theorem below_drewN' {B : Nat} {w w1 : World} (h : Below B w w1) (n : Nat) : Below B w (w1.drewN n) := ⟨h.os, h.tape, h.output, h.size, h.block⟩
set_option maxRecDepth 100000 in
set_option maxHeartbeats 2000000 in
theorem bykeys_two (b off kc : Nat) (k0 k1 : ByteArray) (w : World) (hb : b < w.heap.size) (h1 : w.cell? ⟨b, off, none⟩ = some (.string k0)) (h2 : w.cell? ⟨b, off + 1, none⟩ = some (.string k1)) :
    Calls Tryz.prog 86 #[.slice (some ⟨b, off, none⟩) 2 kc] w fun e w' => e = .returned (.slice (some ⟨w.heap.size + 1, 0, none⟩) 2 2) ∧ Below w.heap.size w w' ∧ w.heap.size + 1 < w'.heap.size ∧
      w'.cell? ⟨w.heap.size + 1, 0, none⟩ = some (.int .i64 ((placesOf k0 k1)[0]!.val : Int)) ∧ w'.cell? ⟨w.heap.size + 1, 1, none⟩ = some (.int .i64 ((placesOf k0 k1)[1]!.val : Int)) := by
  have hmk : ∀ W : World, (Instr.makeSlice 90 (.int .i64 2) (.int .i64 2)).run Tryz.prog W = .ok (.slice (some ⟨W.heap.size, 0, none⟩) 2 2) (W.alloc (.cells #[.int .i64 0, .int .i64 0] 3)) := fun W => by
    obtain ⟨i0, hi, hz0, hz1, hz2⟩ := info_parts Tryz.info3
    have := run_makeSlice (P := Tryz.prog) W 90 3 i0 _ Tryz.underlying90 hi hz0 .i64 .i64 2 2 (by omega) (by omega) (by rw [hz1]; omega) (by rw [hz2]; omega) (by omega)
    rw [hz1] at this
    have e : madeCells (Value.int .i64 0).cells (Int.toNat 2 * 1) = #[.int .i64 0, .int .i64 0] := by kernel_rfl
    rw [e] at this
    exact this
  obtain ⟨W1, hW1⟩ : ∃ W1, (w.alloc (.cells #[.slice (some ⟨b, off, none⟩) 2 kc] 23)).alloc (.cells #[.int .i64 0, .int .i64 1] 3) = W1 := ⟨_, rfl⟩
  have HW1 := hidE hW1
  go_enter Tryz.func86, Tryz.ntmps86
  go_wp2_with fail
  refine wp_loop_rounds 3 ?_
  rw [rounds_succ]
  go_wp2_with fail
  rw [rounds_succ]
  go_wp2_with fail
  rw [rounds_succ]
  go_wp2_with fail
  have hs1 : W1.heap.size = w.heap.size + 2 := by rw [← HW1.out]; simp
  have hb1 : Below w.heap.size w W1 := by rw [← HW1.out]; exact ((Below.refl _ _).alloc (Nat.le_refl _) _).alloc (by simp) _
  have hkeys : TwoKeys W1 w.heap.size b off kc k0 k1 := by
    refine ⟨?_, (hb1.cell (p := ⟨b, off, none⟩) hb).trans h1, (hb1.cell (p := ⟨b, off + 1, none⟩) hb).trans h2⟩
    rw [← HW1.out, World.cell?_of_block (Below.heap_alloc _ _ _ (by simp))]
    exact cell_new _ _ _ 0 _ rfl
  have hnew : W1.heap[w.heap.size + 1]? = some (.cells #[.int .i64 0, .int .i64 1] 3 (0, 0)) := by
    have := World.alloc_heap_new (w.alloc (.cells #[.slice (some ⟨b, off, none⟩) 2 kc] 23)) (.cells #[.int .i64 0, .int .i64 1] 3)
    rw [World.size_alloc, HW1.out] at this
    exact this
  have hH : Holds (fun x : Fin 2 => Value.int .i64 (x.val : Int)) W1 (w.heap.size + 1) 0 #[0, 1] := by
    intro j hj
    have hj' : j < 2 := hj
    match j, hj' with
    | 0, _ => exact ⟨by unfold World.cell?; simp [hnew], by unfold World.frozen?; simp [hnew]⟩
    | 1, _ => exact ⟨by unfold World.cell?; simp [hnew], by unfold World.frozen?; simp [hnew]⟩
  refine (Tryz.slices_SortFunc_small (fun x : Fin 2 => Value.int .i64 (x.val : Int)) (fun _ => rfl) (fun x y => Lib.compareBytes (keyAt k0 k1 x).data.toList (keyAt k0 k1 y).data.toList) 111 #[.pointer (some ⟨w.heap.size, 0, none⟩)] (w.heap.size + 1) 0 2 #[0, 1] W1
    (enters_of Tryz.func111 (by kernel_rfl) rfl) ?_ hH (by simp) (fun n W hn => (Tryz.bits_Len n W (by omega) (by omega)).mono fun e w' ⟨h, h'⟩ => ⟨⟨_, h⟩, h'⟩)).mono ?_
  · intro m os dk hdk x y
    have hk : TwoKeys (sortWorld (fun x : Fin 2 => Value.int .i64 (x.val : Int)) W1 (w.heap.size + 1) 0 m dk os) w.heap.size b off kc k0 k1 := by
      obtain ⟨a1, a2, a3⟩ := hkeys
      refine ⟨?_, ?_, ?_⟩
      · rw [cell?_sortWorld_other _ _ _ _ _ _ _ _ (by simp) (by rw [hs1]; simp)]; exact a1
      · rw [cell?_sortWorld_other _ _ _ _ _ _ _ _ (by simp; omega) (by rw [hs1]; simp; omega)]; exact a2
      · rw [cell?_sortWorld_other _ _ _ _ _ _ _ _ (by simp; omega) (by rw [hs1]; simp; omega)]; exact a3
    exact cmp_two _ w.heap.size b off kc k0 k1 hk x y
  · rintro e w2 ⟨rfl, q, hw2⟩
    have hsort := sort_two k0 k1
    have hp : (#[0, 1] : Array (Fin 2)).size = 2 := rfl
    rw [hp, hsort] at hw2
    have hps : (placesOf k0 k1).size = 2 := by unfold placesOf; split <;> rfl
    have HB2 : Hid (Below w.heap.size w w2) := by rw [hw2]; exact below_drewN' (putRow_below hb1 (by omega) _) _
    have hc : ∀ j, j < 2 → w2.cell? ⟨w.heap.size + 1, j, none⟩ = some (.int .i64 ((placesOf k0 k1)[j]!.val : Int)) := fun j hj => by
      have := cell?_putRow (fun x : Fin 2 => Value.int .i64 (x.val : Int)) W1 (w.heap.size + 1) 0 #[0, 1] (placesOf k0 k1) hH (by rw [hps]; rfl) j (by rw [hps]; exact hj)
      rw [hw2]
      simpa using this
    have HC0 := hidE (hc 0 (by omega))
    have HC1 := hidE (hc 1 (by omega))
    have HSZ : Hid (w.heap.size + 1 < w2.heap.size) := lt_of_cell (hc 0 (by omega))
    clear hc hw2
    go_wp2_with fail
    go_ret
    exact ⟨rfl, HB2.out, HSZ.out, HC0.out, HC1.out⟩
end Go.Proofs.YtbpmhgcjefpigaaGreatDoor

