/- DERIVED: THE SHELF's CONTRACTS AT THIS DUMP, IN PLAIN WORDS (tools/lay-plain.mjs out of 'TryzShelf.lean', which tools/lay-shelf.mjs wrote): THE SAME DECLARATIONS UNDER THE SAME NAMES: 'import', 'namespace', 'open', 'def', 'theorem' AND NOTHING ELSE: no command of the shelf's: FOR A HAND-IN. Each laying: the table of numbers ('.._ren') and one theorem, a field a fact of the dump's own or the kernel's comparison; each contract: ONE APPLICATION. The places of two keys as the keys rise. Whatever order a region draws, where operations write: facts about values, and a state of the world that hangs on what has come up. -/
import Derived.Shelf.Small.Bits
import Derived.Shelf.Strconv.Itoa0
import Derived.Shelf.Strconv.Itoa1
import Derived.Shelf.LaysM
import Derived.Shelf.Strconv.Itoa2
import Derived.Shelf.Strconv.Itoa3
import Derived.Shelf.Strings.Search1
import Derived.Shelf.Strings.Search2
import Derived.Shelf.Strings.Search3
import Derived.Shelf.Strings.Count
import Derived.Shelf.Strconv.AppendInt10
import Derived.Shelf.Strconv.AppendIntPublic10
import Derived.Ground.SlsfProg
import Derived.Shelf.SlSortCmp.Insertion
import Derived.Shelf.SlSortCmp.Small
import Derived.Ground.NamesProg
import Derived.Test.YtbpmhgcjefpigaaGreatDoorProg
import Derived.Test.YtbpmhgcjefpigaaGreatDoorJoin12
import Derived.Shelf.SlSortFunc.HeapSort
import Derived.Test.YtbpmhgcjefpigaaGreatDoorFacts
namespace Go.Proofs
open Go.Shelf
def Tryz.lays125_ren : Go.Shelf.Ren := ⟨fun | 125 => 109 | 128 => 136 | 129 => 137 | n => n, fun | 46 => 107 | 3 => 3 | 51 => 144 | 53 => 119 | 4 => 4 | 5 => 5 | 9 => 9 | n => n, fun | n => n⟩
theorem Tryz.lays125 : Go.Proofs.Lays.n125 Tryz.prog Tryz.lays125_ren := {
 mixed := by kernel_rfl
 f125 := Tryz.func109.trans (congrArg some (by kernel_rfl))
 f128 := Tryz.func136.trans (congrArg some (by kernel_rfl))
 f129 := Tryz.func137.trans (congrArg some (by kernel_rfl))
 t3 := Tryz.underlying3
 a3 := Tryz.isAgg3
 z3 := Tryz.sizeOf3
 v3 := Tryz.zeroValue3
 t4 := Tryz.underlying4
 a4 := Tryz.isAgg4
 z4 := Tryz.sizeOf4
 v4 := Tryz.zeroValue4
 t5 := Tryz.underlying5
 a5 := Tryz.isAgg5
 z5 := Tryz.sizeOf5
 v5 := Tryz.zeroValue5
 t9 := Tryz.underlying9
 a9 := Tryz.isAgg9
 z9 := Tryz.sizeOf9
 v9 := Tryz.zeroValue9
 t46 := Tryz.underlying107
 a46 := Tryz.isAgg107
 z46 := Tryz.sizeOf107
 v46 := Tryz.zeroValue107
 t51 := Tryz.underlying144
 a51 := Tryz.isAgg144
 z51 := Tryz.sizeOf144
 v51 := Tryz.zeroValue144
 t53 := Tryz.underlying119
 a53 := Tryz.isAgg119
 z53 := Tryz.sizeOf119
 v53 := Tryz.zeroValue119 }
theorem Tryz.bits_Len (x : Int) (w : World) (h0 : 0 ≤ x) (h1 : x ≤ 18446744073709551615) :
  Calls Tryz.prog 109 #[.int .u64 x] w fun e w' => e = .returned (.int .i64 (Lib.bitLen x.toNat)) ∧ w' = w := Any.bits_Len Tryz.lays125 x w h0 h1
def Tryz.laysM176_ren : Go.Shelf.Ren := ⟨fun | 176 => 99 | 249 => 117 | 288 => 140 | 283 => 118 | 284 => 119 | 285 => 120 | 286 => 121 | 129 => 137 | 317 => 141 | 318 => 142 | 319 => 143 | 320 => 144 | 337 => 164 | 338 => 165 | n => n, fun | 37 => 67 | 2 => 2 | 3 => 3 | 53 => 119 | 4 => 4 | 9 => 9 | 171 => 118 | 0 => 0 | 173 => 122 | 212 => 149 | 51 => 144 | 5 => 5 | 20 => 20 | 213 => 150 | 46 => 107 | 232 => 172 | 233 => 173 | n => n, fun | 17 => 3 | 18 => 4 | 19 => 5 | n => n⟩
theorem Tryz.laysM176 : Go.Proofs.LaysM.n176 Tryz.prog Tryz.laysM176_ren := {
 mixed := by kernel_rfl
 f129 := Tryz.func137.trans (congrArg some (by kernel_rfl))
 f176 := Tryz.func99.trans (congrArg some (by kernel_rfl))
 f249 := Tryz.func117.trans (congrArg some (by kernel_rfl))
 f283 := Tryz.func118.trans (congrArg some (by kernel_rfl))
 f284 := Tryz.func119.trans (congrArg some (by kernel_rfl))
 f285 := Tryz.func120.trans (congrArg some (by kernel_rfl))
 f286 := Tryz.func121.trans (congrArg some (by kernel_rfl))
 f288 := Tryz.func140.trans (congrArg some (by kernel_rfl))
 f317 := Tryz.func141.trans (congrArg some (by kernel_rfl))
 f318 := Tryz.func142.trans (congrArg some (by kernel_rfl))
 f319 := Tryz.func143.trans (congrArg some (by kernel_rfl))
 f320 := Tryz.func144.trans (congrArg some (by kernel_rfl))
 f337 := Tryz.func164.trans (congrArg some (by kernel_rfl))
 f338 := Tryz.func165.trans (congrArg some (by kernel_rfl))
 t0 := Tryz.underlying0
 a0 := Tryz.isAgg0
 z0 := Tryz.sizeOf0
 v0 := Tryz.zeroValue0
 t2 := Tryz.underlying2
 a2 := Tryz.isAgg2
 z2 := Tryz.sizeOf2
 v2 := Tryz.zeroValue2
 t3 := Tryz.underlying3
 a3 := Tryz.isAgg3
 z3 := Tryz.sizeOf3
 v3 := Tryz.zeroValue3
 t4 := Tryz.underlying4
 a4 := Tryz.isAgg4
 z4 := Tryz.sizeOf4
 v4 := Tryz.zeroValue4
 t5 := Tryz.underlying5
 a5 := Tryz.isAgg5
 z5 := Tryz.sizeOf5
 v5 := Tryz.zeroValue5
 t9 := Tryz.underlying9
 a9 := Tryz.isAgg9
 z9 := Tryz.sizeOf9
 v9 := Tryz.zeroValue9
 t20 := Tryz.underlying20
 a20 := Tryz.isAgg20
 z20 := Tryz.sizeOf20
 v20 := Tryz.zeroValue20
 t37 := Tryz.underlying67
 a37 := Tryz.isAgg67
 z37 := Tryz.sizeOf67
 v37 := Tryz.zeroValue67
 t46 := Tryz.underlying107
 a46 := Tryz.isAgg107
 z46 := Tryz.sizeOf107
 v46 := Tryz.zeroValue107
 t51 := Tryz.underlying144
 a51 := Tryz.isAgg144
 z51 := Tryz.sizeOf144
 v51 := Tryz.zeroValue144
 t53 := Tryz.underlying119
 a53 := Tryz.isAgg119
 z53 := Tryz.sizeOf119
 v53 := Tryz.zeroValue119
 t171 := Tryz.underlying118
 a171 := Tryz.isAgg118
 z171 := Tryz.sizeOf118
 v171 := Tryz.zeroValue118
 t173 := Tryz.underlying122
 a173 := Tryz.isAgg122
 z173 := Tryz.sizeOf122
 v173 := Tryz.zeroValue122
 t212 := Tryz.underlying149
 a212 := Tryz.isAgg149
 z212 := Tryz.sizeOf149
 v212 := Tryz.zeroValue149
 t213 := Tryz.underlying150
 a213 := Tryz.isAgg150
 z213 := Tryz.sizeOf150
 t232 := Tryz.underlying172
 a232 := Tryz.isAgg172
 z232 := Tryz.sizeOf172
 v232 := Tryz.zeroValue172
 t233 := Tryz.underlying173
 a233 := Tryz.isAgg173
 z233 := Tryz.sizeOf173
 v233 := Tryz.zeroValue173
 g17 := by kernel_rfl
 g18 := by kernel_rfl
 g19 := by kernel_rfl
 i0 := by kernel_rfl
 i2 := by kernel_rfl
 i3 := by kernel_rfl
 i4 := by kernel_rfl
 i5 := by kernel_rfl
 i9 := by kernel_rfl
 i20 := by kernel_rfl
 i37 := by kernel_rfl
 i46 := by kernel_rfl
 i51 := by kernel_rfl
 i53 := by kernel_rfl
 i171 := by kernel_rfl
 i173 := by kernel_rfl
 i212 := by kernel_rfl
 i232 := by kernel_rfl
 i233 := by kernel_rfl
 m17 := by kernel_rfl
 m18 := by kernel_rfl
 m19 := by kernel_rfl }
def Tryz.laysSlF6_f110_ren : Go.Shelf.Ren := ⟨fun | 6 => 110 | 15 => 109 | 14 => 138 | 28 => 136 | 29 => 137 | 20 => 156 | 21 => 157 | 22 => 158 | 23 => 159 | 24 => 160 | 25 => 161 | 26 => 162 | 27 => 163 | 46 => 173 | 47 => 152 | 48 => 153 | 49 => 174 | 50 => 175 | 57 => 178 | n => n, fun | 22 => 90 | 24 => 3 | 25 => 96 | 3 => 3 | 39 => 107 | 0 => 0 | 53 => 144 | 55 => 119 | 4 => 4 | 46 => 137 | 45 => 136 | 50 => 141 | 5 => 5 | 9 => 9 | 66 => 154 | 70 => 158 | 76 => 168 | 77 => 30 | n => n, fun | n => n⟩
theorem Tryz.laysSlF6_f110 : Go.Proofs.SlLaysF.n6 Tryz.prog Tryz.laysSlF6_f110_ren := {
 mixed := by kernel_rfl
 f6 := ⟨Tryz.f110.name, by decide, Tryz.func110.trans (congrArg some (by kernel_rfl))⟩
 f14 := ⟨Tryz.f138.name, by decide, Tryz.func138.trans (congrArg some (by kernel_rfl))⟩
 f15 := Tryz.func109.trans (congrArg some (by kernel_rfl))
 f20 := ⟨Tryz.f156.name, by decide, Tryz.func156.trans (congrArg some (by kernel_rfl))⟩
 f21 := ⟨Tryz.f157.name, by decide, Tryz.func157.trans (congrArg some (by kernel_rfl))⟩
 f22 := ⟨Tryz.f158.name, by decide, Tryz.func158.trans (congrArg some (by kernel_rfl))⟩
 f23 := ⟨Tryz.f159.name, by decide, Tryz.func159.trans (congrArg some (by kernel_rfl))⟩
 f24 := ⟨Tryz.f160.name, by decide, Tryz.func160.trans (congrArg some (by kernel_rfl))⟩
 f25 := ⟨Tryz.f161.name, by decide, Tryz.func161.trans (congrArg some (by kernel_rfl))⟩
 f26 := ⟨Tryz.f162.name, by decide, Tryz.func162.trans (congrArg some (by kernel_rfl))⟩
 f27 := ⟨Tryz.f163.name, by decide, Tryz.func163.trans (congrArg some (by kernel_rfl))⟩
 f28 := Tryz.func136.trans (congrArg some (by kernel_rfl))
 f29 := Tryz.func137.trans (congrArg some (by kernel_rfl))
 f46 := ⟨Tryz.f173.name, by decide, Tryz.func173.trans (congrArg some (by kernel_rfl))⟩
 f47 := Tryz.func152.trans (congrArg some (by kernel_rfl))
 f48 := Tryz.func153.trans (congrArg some (by kernel_rfl))
 f49 := ⟨Tryz.f174.name, by decide, Tryz.func174.trans (congrArg some (by kernel_rfl))⟩
 f50 := ⟨Tryz.f175.name, by decide, Tryz.func175.trans (congrArg some (by kernel_rfl))⟩
 f57 := ⟨Tryz.f178.name, by decide, Tryz.func178.trans (congrArg some (by kernel_rfl))⟩
 t0 := Tryz.underlying0
 a0 := Tryz.isAgg0
 z0 := Tryz.sizeOf0
 v0 := Tryz.zeroValue0
 t3 := Tryz.underlying3
 a3 := Tryz.isAgg3
 z3 := Tryz.sizeOf3
 v3 := Tryz.zeroValue3
 t4 := Tryz.underlying4
 a4 := Tryz.isAgg4
 z4 := Tryz.sizeOf4
 v4 := Tryz.zeroValue4
 t5 := Tryz.underlying5
 a5 := Tryz.isAgg5
 z5 := Tryz.sizeOf5
 v5 := Tryz.zeroValue5
 t9 := Tryz.underlying9
 a9 := Tryz.isAgg9
 z9 := Tryz.sizeOf9
 v9 := Tryz.zeroValue9
 t22 := Tryz.underlying90
 a22 := Tryz.isAgg90
 z22 := Tryz.sizeOf90
 v22 := Tryz.zeroValue90
 a24 := Tryz.isAgg3
 z24 := Tryz.sizeOf3
 t25 := Tryz.underlying96
 a25 := Tryz.isAgg96
 z25 := Tryz.sizeOf96
 v25 := Tryz.zeroValue96
 t39 := Tryz.underlying107
 a39 := Tryz.isAgg107
 z39 := Tryz.sizeOf107
 v39 := Tryz.zeroValue107
 t45 := Tryz.underlying136
 a45 := Tryz.isAgg136
 z45 := Tryz.sizeOf136
 v45 := Tryz.zeroValue136
 t46 := Tryz.underlying137
 a46 := Tryz.isAgg137
 z46 := Tryz.sizeOf137
 v46 := Tryz.zeroValue137
 t50 := Tryz.underlying141
 a50 := Tryz.isAgg141
 z50 := Tryz.sizeOf141
 v50 := Tryz.zeroValue141
 t53 := Tryz.underlying144
 a53 := Tryz.isAgg144
 z53 := Tryz.sizeOf144
 v53 := Tryz.zeroValue144
 t55 := Tryz.underlying119
 a55 := Tryz.isAgg119
 z55 := Tryz.sizeOf119
 v55 := Tryz.zeroValue119
 t66 := Tryz.underlying154
 a66 := Tryz.isAgg154
 z66 := Tryz.sizeOf154
 v66 := Tryz.zeroValue154
 t70 := Tryz.underlying158
 a70 := Tryz.isAgg158
 z70 := Tryz.sizeOf158
 v70 := Tryz.zeroValue158
 t76 := Tryz.underlying168
 a76 := Tryz.isAgg168
 z76 := Tryz.sizeOf168
 v76 := Tryz.zeroValue168
 t77 := Tryz.underlying30
 a77 := Tryz.isAgg30
 z77 := Tryz.sizeOf30
 v77 := Tryz.zeroValue30 }
open Go.RowKit Go.Lib Go.Sort in
theorem Tryz.slices_SortFunc_small {α : Type} [Inhabited α] (enc : α → Value) (hO : OneCell enc) (cf : α → α → Int) (g : Nat) (cb : Array Value) (blk off cap : Nat) (d : Array α) (w : World) (eg : ∀ args w, (callFunc g args).run Tryz.prog w = .ok (.enter g args) w) (hcmp : CmpReads Tryz.prog g cb enc cf blk off d.size w) (hH : Holds enc w blk off d) (h12 : d.size ≤ 12) (hlen : ∀ (n : Nat) (W : World), n ≤ 12 → Calls Tryz.prog 109 #[.int .u64 n] W fun e w' => (∃ l : Int, e = .returned (.int .i64 l)) ∧ w' = W) :
  Calls Tryz.prog 110 #[.slice (some ⟨blk, off, none⟩) d.size cap, .func (.func g) #[] cb] w fun e w' => e = .returned (.tuple #[]) ∧ ∃ n, w' = (putRow enc w blk off (Sort.insertionSort (ltOf cf) d 0 d.size)).drewN n := Any.slices_SortFunc_small Tryz.laysSlF6_f110 enc hO cf g cb blk off cap d w eg hcmp hH h12 hlen
end Go.Proofs

namespace Go.Proofs.YtbpmhgcjefpigaaGreatDoor
open Go.RowKit Go.Shelf Go.WideShapes Go.Sort Go.Lib
set_option linter.unusedVariables false
def keyAt (k0 k1 : ByteArray) (x : Fin 2) : ByteArray := if x = 0 then k0 else k1
def TwoKeys (W : World) (bx b off kc : Nat) (k0 k1 : ByteArray) : Prop :=
 W.cell? ⟨bx, 0, none⟩ = some (.slice (some ⟨b, off, none⟩) 2 kc) ∧ W.cell? ⟨b, off, none⟩ = some (.string k0) ∧ W.cell? ⟨b, off + 1, none⟩ = some (.string k1)
set_option maxHeartbeats 1000000 in
theorem cmp_two (W : World) (bx b off kc : Nat) (k0 k1 : ByteArray) (h : TwoKeys W bx b off kc k0 k1) (x y : Fin 2) :
  Calls Tryz.prog 111 #[.int .i64 (x.val : Int), .int .i64 (y.val : Int), .pointer (some ⟨bx, 0, none⟩)] W fun e w' => e = .returned (.int .i64 (Lib.compareBytes (keyAt k0 k1 x).data.toList (keyAt k0 k1 y).data.toList)) ∧ ∃ q, w' = W.drewN q := by
 obtain ⟨h0, h1, h2⟩ := h
 have hc : ∀ z : Fin 2, W.cell? ⟨b, off + z.val, none⟩ = some (.string (keyAt k0 k1 z)) := fun z => by
  match z with
  | ⟨0, _⟩ => simpa [keyAt] using h1
  | ⟨1, _⟩ => simpa [keyAt] using h2
 have hx := hc x
 have hy := hc y
 have lx : (x.val : Int) < 2 := by have := x.isLt; omega
 have ly : (y.val : Int) < 2 := by have := y.isLt; omega
 have px : 0 ≤ (x.val : Int) := by omega
 have py : 0 ≤ (y.val : Int) := by omega
 generalize keyAt k0 k1 x = kx at *
 generalize keyAt k0 k1 y = ky at *
 generalize x.val = i at *
 generalize y.val = j at *
 clear hc h1 h2
 go_enter Tryz.func111, Tryz.ntmps111
 go_wp2_with fail
 go_quiet ((go_at_call 95; exact Calls.quiet_of_same (Tryz.strings_Compare _ _ _)))
 go_wp2_with fail
 go_ret
 exact ⟨rfl, _, rfl⟩
def placesOf (k0 k1 : ByteArray) : Array (Fin 2) := if Lib.compareBytes k1.data.toList k0.data.toList < 0 then #[1, 0] else #[0, 1]
theorem sort_two (k0 k1 : ByteArray) : Sort.insertionSort (ltOf fun x y : Fin 2 => Lib.compareBytes (keyAt k0 k1 x).data.toList (keyAt k0 k1 y).data.toList) #[0, 1] 0 2 = placesOf k0 k1 := by
 unfold placesOf Sort.insertionSort
 rw [Sort.insOuter, if_pos (by omega), Sort.insOuter, if_neg (by omega)]
 by_cases h : Lib.compareBytes k1.data.toList k0.data.toList < 0
 ·rw [if_pos h]
  simp [Sort.insInner, ltOf, keyAt, h, Sort.swp]
 ·rw [if_neg h]
  simp [Sort.insInner, ltOf, keyAt, h]
theorem Tryz.info3 : (Tryz.prog.info? 3).map (fun i => (i.zero, i.size, i.bytes)) = some (some (.int .i64 0), 1, 8) := by kernel_rfl
theorem putRow_below {α : Type} [Inhabited α] {enc : α → Value} {B : Nat} {w w1 : World} (h : Below B w w1) {blk off : Nat} (hb : B ≤ blk) (d : Array α) : Below B w (putRow enc w1 blk off d) :=
 ⟨h.os, h.tape, h.output, by simpa [putRow, mapBlock] using h.size, fun k hk => by
  rw [← h.block k hk]
  simp only [putRow, mapBlock, Array.getElem?_modify]
  rw [if_neg (by omega)]⟩
theorem below_drewN' {B : Nat} {w w1 : World} (h : Below B w w1) (n : Nat) : Below B w (w1.drewN n) := ⟨h.os, h.tape, h.output, h.size, h.block⟩
set_option maxRecDepth 100000 in
set_option maxHeartbeats 2000000 in
theorem bykeys_two (b off kc : Nat) (k0 k1 : ByteArray) (w : World) (hb : b < w.heap.size) (h1 : w.cell? ⟨b, off, none⟩ = some (.string k0)) (h2 : w.cell? ⟨b, off + 1, none⟩ = some (.string k1)) :
  Calls Tryz.prog 86 #[.slice (some ⟨b, off, none⟩) 2 kc] w fun e w' => e = .returned (.slice (some ⟨w.heap.size + 1, 0, none⟩) 2 2) ∧ Below w.heap.size w w' ∧ w.heap.size + 1 < w'.heap.size ∧
   w'.cell? ⟨w.heap.size + 1, 0, none⟩ = some (.int .i64 ((placesOf k0 k1)[0]!.val : Int)) ∧ w'.cell? ⟨w.heap.size + 1, 1, none⟩ = some (.int .i64 ((placesOf k0 k1)[1]!.val : Int)) := by
 have hmk : ∀ W : World, (Instr.makeSlice 90 (.int .i64 2) (.int .i64 2)).run Tryz.prog W = .ok (.slice (some ⟨W.heap.size, 0, none⟩) 2 2) (W.alloc (.cells #[.int .i64 0, .int .i64 0] 3)) := fun W => by
  obtain ⟨i0, hi, hz0, hz1, hz2⟩ := info_parts Tryz.info3
  have := run_makeSlice (P := Tryz.prog) W 90 3 i0 _ Tryz.underlying90 hi hz0 .i64 .i64 2 2 (by omega) (by omega) (by rw [hz1]; omega) (by rw [hz2]; omega) (by omega)
  rw [hz1] at this
  have e : madeCells (Value.int .i64 0).cells (Int.toNat 2 * 1) = #[.int .i64 0, .int .i64 0] := by kernel_rfl
  rw [e] at this
  exact this
 obtain ⟨W1, hW1⟩ : ∃ W1, (w.alloc (.cells #[.slice (some ⟨b, off, none⟩) 2 kc] 23)).alloc (.cells #[.int .i64 0, .int .i64 1] 3) = W1 := ⟨_, rfl⟩
 have HW1 := hidE hW1
 go_enter Tryz.func86, Tryz.ntmps86
 go_wp2_with fail
 refine wp_loop_rounds 3 ?_
 rw [rounds_succ]
 go_wp2_with fail
 rw [rounds_succ]
 go_wp2_with fail
 rw [rounds_succ]
 go_wp2_with fail
 have hs1 : W1.heap.size = w.heap.size + 2 := by rw [← HW1.out]; simp
 have hb1 : Below w.heap.size w W1 := by rw [← HW1.out]; exact ((Below.refl _ _).alloc (Nat.le_refl _) _).alloc (by simp) _
 have hkeys : TwoKeys W1 w.heap.size b off kc k0 k1 := by
  refine ⟨?_, (hb1.cell (p := ⟨b, off, none⟩) hb).trans h1, (hb1.cell (p := ⟨b, off + 1, none⟩) hb).trans h2⟩
  rw [← HW1.out, World.cell?_of_block (Below.heap_alloc _ _ _ (by simp))]
  exact cell_new _ _ _ 0 _ rfl
 have hnew : W1.heap[w.heap.size + 1]? = some (.cells #[.int .i64 0, .int .i64 1] 3 (0, 0)) := by
  have := World.alloc_heap_new (w.alloc (.cells #[.slice (some ⟨b, off, none⟩) 2 kc] 23)) (.cells #[.int .i64 0, .int .i64 1] 3)
  rw [World.size_alloc, HW1.out] at this
  exact this
 have hH : Holds (fun x : Fin 2 => Value.int .i64 (x.val : Int)) W1 (w.heap.size + 1) 0 #[0, 1] := by
  intro j hj
  have hj' : j < 2 := hj
  match j, hj' with
  | 0, _ => exact ⟨by unfold World.cell?; simp [hnew], by unfold World.frozen?; simp [hnew]⟩
  | 1, _ => exact ⟨by unfold World.cell?; simp [hnew], by unfold World.frozen?; simp [hnew]⟩
 refine (Tryz.slices_SortFunc_small (fun x : Fin 2 => Value.int .i64 (x.val : Int)) (fun _ => rfl) (fun x y => Lib.compareBytes (keyAt k0 k1 x).data.toList (keyAt k0 k1 y).data.toList) 111 #[.pointer (some ⟨w.heap.size, 0, none⟩)] (w.heap.size + 1) 0 2 #[0, 1] W1
  (enters_of Tryz.func111 (by kernel_rfl) rfl) ?_ hH (by simp) (fun n W hn => (Tryz.bits_Len n W (by omega) (by omega)).mono fun e w' ⟨h, h'⟩ => ⟨⟨_, h⟩, h'⟩)).mono ?_
 ·intro m os dk hdk x y
  have hk : TwoKeys (sortWorld (fun x : Fin 2 => Value.int .i64 (x.val : Int)) W1 (w.heap.size + 1) 0 m dk os) w.heap.size b off kc k0 k1 := by
   obtain ⟨a1, a2, a3⟩ := hkeys
   refine ⟨?_, ?_, ?_⟩
   ·rw [cell?_sortWorld_other _ _ _ _ _ _ _ _ (by simp) (by rw [hs1]; simp)]; exact a1
   ·rw [cell?_sortWorld_other _ _ _ _ _ _ _ _ (by simp; omega) (by rw [hs1]; simp; omega)]; exact a2
   ·rw [cell?_sortWorld_other _ _ _ _ _ _ _ _ (by simp; omega) (by rw [hs1]; simp; omega)]; exact a3
  exact cmp_two _ w.heap.size b off kc k0 k1 hk x y
 ·rintro e w2 ⟨rfl, q, hw2⟩
  have hsort := sort_two k0 k1
  have hp : (#[0, 1] : Array (Fin 2)).size = 2 := rfl
  rw [hp, hsort] at hw2
  have hps : (placesOf k0 k1).size = 2 := by unfold placesOf; split <;> rfl
  have HB2 : Hid (Below w.heap.size w w2) := by rw [hw2]; exact below_drewN' (putRow_below hb1 (by omega) _) _
  have hc : ∀ j, j < 2 → w2.cell? ⟨w.heap.size + 1, j, none⟩ = some (.int .i64 ((placesOf k0 k1)[j]!.val : Int)) := fun j hj => by
   have := cell?_putRow (fun x : Fin 2 => Value.int .i64 (x.val : Int)) W1 (w.heap.size + 1) 0 #[0, 1] (placesOf k0 k1) hH (by rw [hps]; rfl) j (by rw [hps]; exact hj)
   rw [hw2]
   simpa using this
  have HC0 := hidE (hc 0 (by omega))
  have HC1 := hidE (hc 1 (by omega))
  have HSZ : Hid (w.heap.size + 1 < w2.heap.size) := lt_of_cell (hc 0 (by omega))
  clear hc hw2
  go_wp2_with fail
  go_ret
  exact ⟨rfl, HB2.out, HSZ.out, HC0.out, HC1.out⟩
end Go.Proofs.YtbpmhgcjefpigaaGreatDoor

namespace Go.Proofs.YtbpmhgcjefpigaaGreatDoor
open Go.RowKit
set_option linter.unusedVariables false
def upd {α : Type} (f : Nat → α) (i : Nat) (x : α) : Nat → α := fun j => if j = i then x else f j
theorem upd_same {α : Type} (f : Nat → α) (i : Nat) (x : α) : upd f i x i = x := by simp [upd]
theorem upd_other {α : Type} (f : Nat → α) {i j : Nat} (x : α) (h : j ≠ i) : upd f i x j = f j := by simp [upd, h]
section
variable {P : Program} {ops : Array Oper} {Q : Exit → Act → World → Prop}
def writesOk (ops : Array Oper) (n : Nat) (A : Nat → List Nat) : Bool :=
 (List.range ops.size).all fun i =>
  match ops[i]? with
  | none => false
  | some o =>
   (o.after.all fun e => !Region.binds .any e || decide (e.on < i)) &&
   (match o.dst with
    | none => true
    | some d => decide (d < n) && (List.range i).all fun j => slotOf ops j != some d) &&
   (A i).all fun j => o.after.any fun e => Region.binds .any e && (e.on == j || (A e.on).contains j)
def Laid (ops : Array Oper) (n : Nat) (A : Nat → List Nat) : Prop :=
 ∀ i, i < ops.size → ∃ o, ops[i]? = some o ∧ slotOf ops i = o.dst ∧ (∀ d, o.dst = some d → d < n) ∧ (∀ e ∈ o.after, Region.binds .any e = true → e.on < i) ∧
   (∀ j d, j < i → o.dst = some d → slotOf ops j ≠ some d) ∧ (∀ j ∈ A i, ∃ e ∈ o.after, Region.binds .any e = true ∧ (e.on = j ∨ j ∈ A e.on))
theorem laid_of {n : Nat} {A : Nat → List Nat} (hok : writesOk ops n A = true) : Laid ops n A := by
 intro i hi
 have h := List.all_eq_true.1 hok i (List.mem_range.2 hi)
 have hoi : ops[i]? = some ops[i] := by simp [hi]
 rw [hoi] at h
 simp only [Bool.and_eq_true] at h
 obtain ⟨⟨h1, h2⟩, h3⟩ := h
 refine ⟨_, hoi, by simp [slotOf, hoi], ?_, ?_, ?_, ?_⟩
 ·intro d hd
  rw [hd] at h2
  simp only [Bool.and_eq_true, decide_eq_true_eq] at h2
  exact h2.1
 ·intro e he hb
  have := Array.all_eq_true_iff_forall_mem.1 h1 e he
  simpa [hb] using this
 ·intro j d hj hd
  rw [hd] at h2
  simp only [Bool.and_eq_true, decide_eq_true_eq] at h2
  have := List.all_eq_true.1 h2.2 j (List.mem_range.2 hj)
  simpa using this
 ·intro j hj
  have := List.all_eq_true.1 h3 j hj
  obtain ⟨k, hk, h⟩ := Array.any_eq_true.1 this
  simp only [Bool.and_eq_true, Bool.or_eq_true, beq_iff_eq, List.contains_iff_mem] at h
  exact ⟨_, Array.getElem_mem hk, h.1, h.2⟩
def WInv (ops : Array Oper) (A : Nat → List Nat) (G : Nat → Value → Prop) (S : (Nat → Bool) → (Nat → Value) → World → Prop) (base : Act) (listed : Array Bool) (a : Act) (w : World) : Prop :=
 listed.size = ops.size ∧ Same ops base a ∧ S (fun j => listed.getD j false) (val ops a) w ∧ ∀ i, listed.getD i false = true → G i (val ops a i) ∧ ∀ j ∈ A i, listed.getD j false = true
def Steps' (P : Program) (ops : Array Oper) (Q : Exit → Act → World → Prop) (G : Nat → Value → Prop) (S : (Nat → Bool) → (Nat → Value) → World → Prop) (i : Nat) (l : Nat → Bool) (a : Act) (w : World) : Prop :=
 wpOp P ops Q i (fun a' w' => ∃ v, a' = a.put (slotOf ops i) v ∧ G i (val ops a' i) ∧ S (upd l i true) (upd (val ops a) i (val ops a' i)) w') a w
theorem writes_rule {A : Nat → List Nat} {G : Nat → Value → Prop} {S : (Nat → Bool) → (Nat → Value) → World → Prop} {base : Act} {w0 : World} {id : Nat}
  (hm : P.follows .mixedOrders = true) (hok : writesOk ops base.tmps.size A = true)
  (hstart : S (fun _ => false) (val ops base) w0.drew)
  (hop : ∀ i, i < ops.size → ∀ l a w, Same ops base a → l i = false → (∀ k, l k = true → ∀ j ∈ A k, l j = true) → (∀ j ∈ A i, l j = true ∧ G j (val ops a j)) → S l (val ops a) w → Steps' P ops Q G S i l a w)
  (hend : ∀ l a w, Same ops base a → (∀ i, i < ops.size → l i = true ∧ G i (val ops a i)) → S l (val ops a) w → Q .normal a w) :
  (Code.region id ops true).wp P Q base w0 := by
 have hall := laid_of hok
 have hput : ∀ i, i < ops.size → ∀ (a : Act) (v : Value) (j : Nat), j ≠ i → val ops (a.put (slotOf ops i) v) j = val ops a j := by
  intro i hi a v j hji
  unfold val
  cases hj : slotOf ops j with
  | none => rfl
  | some d =>
   have hne : ∀ d', slotOf ops i = some d' → d' ≠ d := by
    intro d' hd' e
    subst e
    have hjs : j < ops.size := by
     rcases Nat.lt_or_ge j ops.size with h | h
     ·exact h
     ·unfold slotOf at hj; rw [Array.getElem?_eq_none h] at hj; cases hj
    obtain ⟨o, _, hs, _, _, hb, _⟩ := hall i hi
    obtain ⟨o', _, hs', _, _, hb', _⟩ := hall j hjs
    rcases Nat.lt_or_gt_of_ne hji with h | h
    ·exact hb j d' h (hs ▸ hd') hj
    ·exact hb' i d' h (hs' ▸ hj) hd'
   cases hi' : slotOf ops i with
   | none => simp [Act.put]
   | some d' => simp [Act.put, Act.eval, Array.getD_eq_getD_getElem?, Array.getElem?_setIfInBounds_ne (hne d' hi')]
 refine wp_region_any hm (wpAny_inv (WInv ops A G S base) ?_ ?_ _ _ _ _ (by rw [left_new]; exact Nat.le_refl _) ⟨by simp, ⟨rfl, rfl, fun _ _ => rfl⟩, ?_, ?_⟩)
 ·rintro listed a w i ⟨hsz, hS, hSt, hF⟩ hr
  obtain ⟨hun, o', ho', hedges⟩ := mem_ready.1 hr
  have hi : i < ops.size := by
   rcases Nat.lt_or_ge i ops.size with h | h
   ·exact h
   ·rw [Array.getElem?_eq_none h] at ho'; cases ho'
  obtain ⟨o, ho, hs, hdn, _, _, hA⟩ := hall i hi
  have : o' = o := by rw [ho] at ho'; exact (Option.some.inj ho').symm
  subst this
  have hli : listed.getD i false = false := by simpa [Array.getD, hsz, hi] using hun
  have hAl : ∀ j ∈ A i, listed.getD j false = true := by
   intro j hj
   obtain ⟨e, he, hb, hor⟩ := hA j hj
   have hl := hedges e he hb
   rcases hor with rfl | h
   ·exact hl
   ·exact (hF _ hl).2 j h
  refine wpOp_mono ?_ (hop i hi (fun j => listed.getD j false) a w hS hli (fun k hk => (hF k hk).2) (fun j hj => ⟨hAl j hj, (hF j (hAl j hj)).1⟩) hSt)
  rintro a' w' ⟨v, rfl, hG, hS'⟩
  have hl' : (fun j => (listed.setIfInBounds i true).getD j false) = upd (fun j => listed.getD j false) i true := by
   funext j
   by_cases hji : j = i
   ·subst hji; rw [upd_same]; simp [Array.getD_eq_getD_getElem?, hsz, hi]
   ·rw [upd_other _ _ hji]; simp [Array.getD_eq_getD_getElem?, Array.getElem?_setIfInBounds_ne (Ne.symm hji)]
  have hv' : val ops (a.put (slotOf ops i) v) = upd (val ops a) i (val ops (a.put (slotOf ops i) v) i) := by
   funext j
   by_cases hji : j = i
   ·subst hji; rw [upd_same]
   ·rw [upd_other _ _ hji]; exact hput i hi a v j hji
  refine ⟨by simp [hsz], ⟨?_, ?_, fun k hk => ?_⟩, ?_, fun j hj => ?_⟩
  ·cases slotOf ops i <;> simp [Act.put] <;> exact hS.1
  ·cases slotOf ops i <;> simp [Act.put] <;> exact hS.2.1
  ·have hne := hk i hi
   cases hsi : slotOf ops i with
   | none => simp [Act.put]; exact hS.2.2 k hk
   | some d =>
    have : d ≠ k := fun e => hne (by rw [hsi, e])
    simp only [Act.put, Array.getElem?_setIfInBounds_ne this]
    exact hS.2.2 k hk
  ·rw [hl', hv']; exact hS'
  ·by_cases hji : j = i
   ·subst hji
    refine ⟨hG, fun k hk => ?_⟩
    have := hAl k hk
    by_cases hkj : k = j
    ·subst hkj; rw [hli] at this; cases this
    ·simpa [Array.getD_eq_getD_getElem?, Array.getElem?_setIfInBounds_ne (Ne.symm hkj)] using this
   ·have hj' : listed.getD j false = true := by
     simpa [Array.getD_eq_getD_getElem?, Array.getElem?_setIfInBounds_ne (Ne.symm hji)] using hj
    refine ⟨by rw [hput i hi a v j hji]; exact (hF j hj').1, fun k hk => ?_⟩
    have := (hF j hj').2 k hk
    by_cases hki : k = i
    ·subst hki; rw [hli] at this; cases this
    ·simpa [Array.getD_eq_getD_getElem?, Array.getElem?_setIfInBounds_ne (Ne.symm hki)] using this
 ·rintro listed a w ⟨hsz, hS, hSt, hF⟩ hr
  have hlist : ∀ i, i < ops.size → listed.getD i false = true := by
   intro i
   induction i using Nat.strongRecOn with
   | _ i ih =>
    intro hi
    obtain ⟨o, ho, hs, hdn, hlt, _, _⟩ := hall i hi
    by_cases h : listed.getD i true = true
    ·simpa [Array.getD, hsz, hi] using h
    ·have hf : listed.getD i true = false := by simpa using h
     have : i ∈ Region.ready .any ops listed := mem_ready.2 ⟨hf, o, ho, fun e he hb => ih _ (hlt e he hb) (Nat.lt_trans (hlt e he hb) hi)⟩
     rw [hr] at this; cases this
  exact hend (fun j => listed.getD j false) a w hS (fun i hi => ⟨hlist i hi, (hF i (hlist i hi)).1⟩) hSt
 ·have e : (fun j => (Array.replicate ops.size false).getD j false) = fun _ => false := by
   funext j
   rcases Nat.lt_or_ge j ops.size with h | h
   ·simp [Array.getD, h]
   ·simp [Array.getD, Nat.not_lt.2 h]
  rw [e]; exact hstart
 ·intro i hi
  rcases Nat.lt_or_ge i ops.size with h | h
  ·simp [Array.getD, h] at hi
  ·simp [Array.getD, Nat.not_lt.2 h] at hi
variable {G : Nat → Value → Prop} {S : (Nat → Bool) → (Nat → Value) → World → Prop} {l : Nat → Bool}
theorem val_put {i : Nat} {o : Oper} {a : Act} {d : Tmp} (ho : ops[i]? = some o) (hd : o.dst = some d) (hn : d < a.tmps.size) (v : Value) : val ops (a.put (slotOf ops i) v) i = v := by
 have hs : slotOf ops i = some d := by simp [slotOf, ho, hd]
 simp [val, hs, Act.put, Act.eval, Array.getD_eq_getD_getElem?, hn]
theorem steps_value {i : Nat} {o : Oper} {a : Act} {w w' : World} {v : Value} {d : Tmp} (ho : ops[i]? = some o) (hd : o.dst = some d) (hn : d < a.tmps.size) (hw : Region.wanted o (yielded ops a.tmps) = true)
  (hr : (execOp a.eval o).run P w = .ok (.value v) w') (hG : G i v) (hS : S (upd l i true) (upd (val ops a) i v) w') : Steps' P ops Q G S i l a w := by
 unfold Steps' wpOp
 simp only [ho, hw, if_true]
 refine .inl ?_
 unfold Oper.wp
 rw [hr, Oper.upon_value]
 have hv := val_put ho hd hn v
 have hs : slotOf ops i = o.dst := by simp [slotOf, ho]
 rw [hs] at hv ⊢
 exact ⟨v, rfl, by rw [hv]; exact hG, by rw [hv]; exact hS⟩
theorem steps_store {i : Nat} {o : Oper} {a : Act} {w w' : World} (ho : ops[i]? = some o) (hd : o.dst = none) (hw : Region.wanted o (yielded ops a.tmps) = true)
  (hr : (execOp a.eval o).run P w = .ok .skip w') (hG : G i undef) (hS : S (upd l i true) (upd (val ops a) i undef) w') : Steps' P ops Q G S i l a w := by
 unfold Steps' wpOp
 simp only [ho, hw, if_true]
 refine .inl ?_
 unfold Oper.wp
 rw [hr, Oper.upon_skip]
 have hs : slotOf ops i = none := by simp [slotOf, ho, hd]
 have hv : val ops (a.put o.dst undef) i = undef := by simp [val, hs]
 rw [hs]
 refine ⟨undef, by rw [hd], ?_, ?_⟩
 ·rw [hv]; exact hG
 ·rw [hv]; exact hS
theorem steps_call {i : Nat} {o : Oper} {a : Act} {w : World} {f : FuncId} {args : Array Value} {d : Tmp} (ho : ops[i]? = some o) (hd : o.dst = some d) (hn : d < a.tmps.size) (hw : Region.wanted o (yielded ops a.tmps) = true)
  (hr : (execOp a.eval o).run P w = .ok (.enter f args) w) (hc : Calls P f args w fun e w' => ∃ v, e = .returned v ∧ G i v ∧ S (upd l i true) (upd (val ops a) i v) w') : Steps' P ops Q G S i l a w := by
 unfold Steps' wpOp
 simp only [ho, hw, if_true]
 refine .inl ?_
 unfold Oper.wp
 rw [hr, Oper.upon_enter]
 refine hc.mono ?_
 rintro e w' ⟨v, rfl, hG, hS⟩
 have hv := val_put ho hd hn v
 have hs : slotOf ops i = o.dst := by simp [slotOf, ho]
 rw [hs] at hv ⊢
 exact ⟨v, rfl, by rw [hv]; exact hG, by rw [hv]; exact hS⟩
theorem steps_law {i : Nat} {o : Oper} {a : Act} {w : World} {d : Tmp} (ho : ops[i]? = some o) (hd : o.dst = some d) (hn : d < a.tmps.size)
  (hl : ∀ K : Act → World → Prop, (∀ v w', G i v → S (upd l i true) (upd (val ops a) i v) w' → K (a.put o.dst v) w') → if Region.wanted o (yielded ops a.tmps) = true then Oper.wp P o a w K Q else False) : Steps' P ops Q G S i l a w := by
 unfold Steps' wpOp
 have h := hl (fun a' w' => ∃ v, a' = a.put (slotOf ops i) v ∧ G i (val ops a' i) ∧ S (upd l i true) (upd (val ops a) i (val ops a' i)) w') (fun v w' hG hS => by
  have hv := val_put ho hd hn v
  have hs : slotOf ops i = o.dst := by simp [slotOf, ho]
  rw [hs] at hv ⊢
  exact ⟨v, rfl, by rw [hv]; exact hG, by rw [hv]; exact hS⟩)
 simp only [ho]
 by_cases hw : Region.wanted o (yielded ops a.tmps) = true
 ·rw [if_pos hw] at h ⊢; exact .inl h
 ·rw [if_neg hw] at h; exact h.elim
end
end Go.Proofs.YtbpmhgcjefpigaaGreatDoor

