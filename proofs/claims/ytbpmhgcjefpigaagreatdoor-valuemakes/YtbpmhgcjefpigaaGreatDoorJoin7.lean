/- Copy, at every value of moderate size. DERIVED: THE SHELF's CONTRACTS AT THIS DUMP, IN PLAIN WORDS (tools/lay-plain.mjs out of 'TryzShelf.lean', which tools/lay-shelf.mjs wrote): THE SAME DECLARATIONS UNDER THE SAME NAMES: 'import', 'namespace', 'open', 'def', 'theorem' AND NOTHING ELSE: no command of the shelf's: FOR A HAND-IN. Each laying: the table of numbers ('.._ren') and one theorem, a field a fact of the dump's own or the kernel's comparison; each contract: ONE APPLICATION. -/
import Derived.Test.YtbpmhgcjefpigaaGreatDoorCopy
import Derived.Shelf.Small.Bits
import Derived.Shelf.Strconv.Itoa0
import Derived.Shelf.Strconv.Itoa1
import Derived.Shelf.LaysM
import Derived.Shelf.Strconv.Itoa2
import Derived.Shelf.Strconv.Itoa3
import Derived.Shelf.Strings.Search1
import Derived.Shelf.Strings.Search2
import Derived.Shelf.Strings.Search3
import Derived.Shelf.Strings.Count
import Derived.Shelf.Strconv.AppendInt10
import Derived.Shelf.Strconv.AppendIntPublic10
import Derived.Ground.SlsfProg
import Derived.Shelf.SlSortCmp.Insertion
import Derived.Shelf.SlSortCmp.Small
import Derived.Ground.NamesProg
import Derived.Test.YtbpmhgcjefpigaaGreatDoorProg
namespace Go.Proofs.YtbpmhgcjefpigaaGreatDoor
open Go.RowKit Go.Shelf Go.WideShapes
set_option linter.unusedVariables false
theorem box_frozen {w w1 : World} {A A' : Array Value} (hb : Below ((w.alloc (.cells A 26)).alloc (.cells A' 26)).heap.size ((w.alloc (.cells A 26)).alloc (.cells A' 26)) w1) :
    (∀ i, w1.frozen? ⟨w.heap.size, i, none⟩ = false) ∧ (∀ i, w1.frozen? ⟨w.heap.size + 1, i, none⟩ = false) := by
  simp only [World.size_alloc] at hb
  have h1 : ((w.alloc (.cells A 26)).alloc (.cells A' 26)).heap[w.heap.size]? = some (.cells A 26 (0, 0)) := by
    rw [Below.heap_alloc _ _ _ (by simp)]; exact World.alloc_heap_new _ _
  have h2 : ((w.alloc (.cells A 26)).alloc (.cells A' 26)).heap[w.heap.size + 1]? = some (.cells A' 26 (0, 0)) := by
    have := World.alloc_heap_new (w.alloc (.cells A 26)) (.cells A' 26)
    rwa [World.size_alloc] at this
  refine ⟨fun i => ?_, fun i => ?_⟩
  · rw [hb.frozen (p := ⟨w.heap.size, i, none⟩) (by show w.heap.size < _; omega)]
    unfold World.frozen?
    simp [h1]
  · rw [hb.frozen (p := ⟨w.heap.size + 1, i, none⟩) (by show w.heap.size + 1 < _; omega)]
    unfold World.frozen?
    rw [show (⟨w.heap.size + 1, i, none⟩ : Addr).block = w.heap.size + 1 from rfl, h2]
    simp
set_option maxRecDepth 100000 in
set_option maxHeartbeats 2000000 in
theorem copy_any : ∀ T, CopyOk T := by
  refine Tree.ind ?_
  intro k x n s ks ts ih B v w hB hv htot
  simp only [Lies] at hv
  obtain ⟨ka, kc, la, lc, rfl, ⟨hs1, hs2, hs3, hs4, hs5⟩, hk, ht⟩ := hv
  simp only [Tree.total] at htot
  have hkb := keyBytes_nonneg ks
  have htl := totalL_len ts
  obtain ⟨W, hW⟩ : ∃ W, (w.alloc (.cells #[.int .i64 k, .bool x, .int .i64 n, .string s, .slice ka ks.length kc, .slice la ts.length lc] 26)).alloc (.cells #[.int .i64 0, .bool false, .int .i64 0, .string ⟨#[]⟩, .slice none 0 0, .slice none 0 0] 26) = W := ⟨_, rfl⟩
  have HX : Hid (∀ w1, Below W.heap.size W w1 → (Below w.heap.size w w1 ∧ (∀ i v, (#[Value.int .i64 k, .bool x, .int .i64 n, .string s, .slice ka ks.length kc, .slice la ts.length lc] : Array Value)[i]? = some v → w1.cell? ⟨w.heap.size, i, none⟩ = some v) ∧ (∀ i v, (#[Value.int .i64 0, .bool false, .int .i64 0, .string ⟨#[]⟩, .slice none 0 0, .slice none 0 0] : Array Value)[i]? = some v → w1.cell? ⟨w.heap.size + 1, i, none⟩ = some v)) ∧
      (∀ i, w1.frozen? ⟨w.heap.size, i, none⟩ = false) ∧ (∀ i, w1.frozen? ⟨w.heap.size + 1, i, none⟩ = false)) := fun w1 hb => by
    rw [← hW] at hb
    exact ⟨two_boxes hb, box_frozen hb⟩
  have hWs : W.heap.size = w.heap.size + 2 := by rw [← hW]; simp
  have hbW := (HX.out W (Below.refl _ _)).1.1
  have HCL := hidE (clone_any B ka kc ks W (hk.below (hbW.mono hB)) (by omega))
  have HLL : Hid (∀ w1, Below w.heap.size w w1 → ListLies B w1 la ts) := fun w1 hb => ListLies.below ht (hb.mono hB)
  have HIH := hidE ih
  have HW := hidE hW
  have HTT : Hid (Tree.totalL ts ≤ 1000000) := by show _ ≤ _; omega
  clear hk ht ih hW
  go_enter Tryz.func19, Tryz.ntmps19
  go_wp2_with fail
  rw [HW.out]
  refine HCL.out.mono ?_
  rintro e w2 ⟨ka', kc', rfl, ⟨hk1, hk2⟩, hkr, hb2⟩
  obtain ⟨⟨hbw2, hq, hr⟩, fz, fy⟩ := HX.out w2 hb2
  have q0 := hq 0 _ rfl
  have q1 := hq 1 _ rfl
  have q2 := hq 2 _ rfl
  have q3 := hq 3 _ rfl
  have q4 := hq 4 _ rfl
  have q5 := hq 5 _ rfl
  have f4 := fz 4
  have HB2 := hidE hb2
  have HBW2 := hidE hbw2
  have HKR := hidE hkr
  have HR := hidE (And.intro hr (And.intro fz fy))
  clear hb2 hbw2 hkr hq hr fz fy HCL HW
  go_wp2_with fail
  have hw3 : Below w.heap.size w (w2.setCell ⟨w.heap.size, 4, none⟩ (.slice ka' ks.length kc')) := HBW2.out.setCell (p := ⟨w.heap.size, 4, none⟩) (Nat.le_refl _) _
  refine (copies_any ts HIH.out B la lc _ (Nat.le_trans hB hw3.size) (HLL.out _ hw3) hs4 hs5 HTT.out).mono ?_
  rintro e w4 ⟨la', lc', rfl, ⟨g1, g2⟩, hlr, hb4⟩
  obtain ⟨w3, hw3e⟩ : ∃ w3, w2.setCell ⟨w.heap.size, 4, none⟩ (.slice ka' ks.length kc') = w3 := ⟨_, rfl⟩
  rw [hw3e] at hlr hb4 hw3
  have hs2' : w.heap.size + 2 ≤ w2.heap.size := by have := HB2.out.size; omega
  have hs3 : w3.heap.size = w2.heap.size := by rw [← hw3e]; simp
  have hc3 : ∀ b o, b < w2.heap.size → ¬ (b = w.heap.size ∧ o = 4) → w3.cell? ⟨b, o, none⟩ = w2.cell? ⟨b, o, none⟩ := fun b o _ h => by
    rw [← hw3e]; exact World.cell?_setCell_other _ _ _ _ (fun e => h (by simp only [Addr.mk.injEq] at e; omega))
  have hc4 : ∀ b o, b < w2.heap.size → w4.cell? ⟨b, o, none⟩ = w3.cell? ⟨b, o, none⟩ := fun b o h => hb4.cell (p := ⟨b, o, none⟩) (by rw [hs3]; exact h)
  have hf4 : ∀ b o, b < w2.heap.size → w4.frozen? ⟨b, o, none⟩ = w2.frozen? ⟨b, o, none⟩ := fun b o h => by
    rw [hb4.frozen (p := ⟨b, o, none⟩) (by rw [hs3]; exact h), ← hw3e, World.frozen?_setCell]
  have c0 := (hc4 w.heap.size 0 (by omega)).trans ((hc3 _ _ (by omega) (by omega)).trans q0)
  have c1 := (hc4 w.heap.size 1 (by omega)).trans ((hc3 _ _ (by omega) (by omega)).trans q1)
  have c2 := (hc4 w.heap.size 2 (by omega)).trans ((hc3 _ _ (by omega) (by omega)).trans q2)
  have c3 := (hc4 w.heap.size 3 (by omega)).trans ((hc3 _ _ (by omega) (by omega)).trans q3)
  have c4 : w4.cell? ⟨w.heap.size, 4, none⟩ = some (.slice ka' ks.length kc') := (hc4 w.heap.size 4 (by omega)).trans (by rw [← hw3e]; exact World.cell?_setCell_same _ _ _ q4)
  have c5 := (hc4 w.heap.size 5 (by omega)).trans ((hc3 _ _ (by omega) (by omega)).trans q5)
  have d0 := (hc4 (w.heap.size + 1) 0 (by omega)).trans ((hc3 _ _ (by omega) (by omega)).trans (HR.out.1 0 _ rfl))
  have d1 := (hc4 (w.heap.size + 1) 1 (by omega)).trans ((hc3 _ _ (by omega) (by omega)).trans (HR.out.1 1 _ rfl))
  have d2 := (hc4 (w.heap.size + 1) 2 (by omega)).trans ((hc3 _ _ (by omega) (by omega)).trans (HR.out.1 2 _ rfl))
  have d3 := (hc4 (w.heap.size + 1) 3 (by omega)).trans ((hc3 _ _ (by omega) (by omega)).trans (HR.out.1 3 _ rfl))
  have d4 := (hc4 (w.heap.size + 1) 4 (by omega)).trans ((hc3 _ _ (by omega) (by omega)).trans (HR.out.1 4 _ rfl))
  have d5 := (hc4 (w.heap.size + 1) 5 (by omega)).trans ((hc3 _ _ (by omega) (by omega)).trans (HR.out.1 5 _ rfl))
  have e5 := (hf4 w.heap.size 5 (by omega)).trans (HR.out.2.1 5)
  have y0 := (hf4 (w.heap.size + 1) 0 (by omega)).trans (HR.out.2.2 0)
  have y1 := (hf4 (w.heap.size + 1) 1 (by omega)).trans (HR.out.2.2 1)
  have y2 := (hf4 (w.heap.size + 1) 2 (by omega)).trans (HR.out.2.2 2)
  have y3 := (hf4 (w.heap.size + 1) 3 (by omega)).trans (HR.out.2.2 3)
  have y4 := (hf4 (w.heap.size + 1) 4 (by omega)).trans (HR.out.2.2 4)
  have y5 := (hf4 (w.heap.size + 1) 5 (by omega)).trans (HR.out.2.2 5)
  have HLR := hidE hlr
  have HB4 := hidE hb4
  have HBW4 : Hid (Below w.heap.size w w4) := hw3.trans (hb4.mono hw3.size)
  have HS3 := hidE hs3
  have HSS := hidE hs2'
  have HC3 := hidE hc3
  have HC4 := hidE hc4
  clear hlr hb4 hw3 hs3 hs2' hc3 hc4 hf4 q0 q1 q2 q3 q4 q5 f4 HR
  go_wp2_with fail
  have HFB : Hid (Below w.heap.size w (six (w4.setCell ⟨w.heap.size, 5, none⟩ (.slice la' ts.length lc')) (w.heap.size + 1) 0 (.int .i64 k) (.bool x) (.int .i64 n) (.string s) (.slice ka' ks.length kc') (.slice la' ts.length lc'))) :=
    six_below (HBW4.out.setCell (p := ⟨w.heap.size, 5, none⟩) (Nat.le_refl _) _) (by omega) _ _ _ _ _ _
  refine bodyPost_ret (v := .agg #[.int .i64 k, .bool x, .int .i64 n, .string s, .slice ka' ks.length kc', .slice la' ts.length lc']) (by simp [results, Tryz.results19, go_sem, d0, d1, d2, d3, d4, d5]) rfl ⟨_, rfl, ?_, HFB.out⟩
  show LiesR w.heap.size (six (w4.setCell ⟨w.heap.size, 5, none⟩ (.slice la' ts.length lc')) (w.heap.size + 1) 0 (.int .i64 k) (.bool x) (.int .i64 n) (.string s) (.slice ka' ks.length kc') (.slice la' ts.length lc')).heap.size (six (w4.setCell ⟨w.heap.size, 5, none⟩ (.slice la' ts.length lc')) (w.heap.size + 1) 0 (.int .i64 k) (.bool x) (.int .i64 n) (.string s) (.slice ka' ks.length kc') (.slice la' ts.length lc')) _ _
  have hfin : ∀ lo B', w.heap.size + 2 ≤ lo → Keeps lo B' w4 (six (w4.setCell ⟨w.heap.size, 5, none⟩ (.slice la' ts.length lc')) (w.heap.size + 1) 0 (.int .i64 k) (.bool x) (.int .i64 n) (.string s) (.slice ka' ks.length kc') (.slice la' ts.length lc')) := fun lo B' h b o h1 _ => by
    rw [six_out (fun e => by omega)]
    exact World.cell?_setCell_other _ _ _ _ (fun e => by simp only [Addr.mk.injEq] at e; omega)
  have hsz : (six (w4.setCell ⟨w.heap.size, 5, none⟩ (.slice la' ts.length lc')) (w.heap.size + 1) 0 (.int .i64 k) (.bool x) (.int .i64 n) (.string s) (.slice ka' ks.length kc') (.slice la' ts.length lc')).heap.size = w4.heap.size := by rw [six_size]; simp
  rw [hsz]
  simp only [LiesR]
  refine ⟨ka', kc', la', lc', rfl, ⟨hs1, hk1, hk2, g1, g2⟩, ?_, ?_⟩
  · have k1 : KeysR (w.heap.size + 2) w2.heap.size w2 ka' ks := hWs ▸ HKR.out
    have k2 : KeysR (w.heap.size + 2) w2.heap.size w4 ka' ks := k1.keep (fun b o h1 h2 => (HC4.out b o h2).trans (HC3.out b o h2 (by omega)))
    exact (k2.keep (hfin _ _ (Nat.le_refl _))).mono (by omega) (by have := HB4.out.size; have := HS3.out; omega)
  · have l1 : ListR w3.heap.size w4.heap.size w4 la' ts := HLR.out
    exact (l1.keep (hfin _ _ (by have := HS3.out; have := HSS.out; omega))).mono (by have := HS3.out; have := HSS.out; omega) (Nat.le_refl _)
end Go.Proofs.YtbpmhgcjefpigaaGreatDoor

namespace Go.Proofs
open Go.Shelf
def Tryz.lays125_ren : Go.Shelf.Ren := ⟨fun | 125 => 109 | 128 => 136 | 129 => 137 | n => n, fun | 46 => 107 | 3 => 3 | 51 => 144 | 53 => 119 | 4 => 4 | 5 => 5 | 9 => 9 | n => n, fun | n => n⟩
theorem Tryz.lays125 : Go.Proofs.Lays.n125 Tryz.prog Tryz.lays125_ren := {
  mixed := by kernel_rfl
  f125 := Tryz.func109.trans (congrArg some (by kernel_rfl))
  f128 := Tryz.func136.trans (congrArg some (by kernel_rfl))
  f129 := Tryz.func137.trans (congrArg some (by kernel_rfl))
  t3 := Tryz.underlying3
  a3 := Tryz.isAgg3
  z3 := Tryz.sizeOf3
  v3 := Tryz.zeroValue3
  t4 := Tryz.underlying4
  a4 := Tryz.isAgg4
  z4 := Tryz.sizeOf4
  v4 := Tryz.zeroValue4
  t5 := Tryz.underlying5
  a5 := Tryz.isAgg5
  z5 := Tryz.sizeOf5
  v5 := Tryz.zeroValue5
  t9 := Tryz.underlying9
  a9 := Tryz.isAgg9
  z9 := Tryz.sizeOf9
  v9 := Tryz.zeroValue9
  t46 := Tryz.underlying107
  a46 := Tryz.isAgg107
  z46 := Tryz.sizeOf107
  v46 := Tryz.zeroValue107
  t51 := Tryz.underlying144
  a51 := Tryz.isAgg144
  z51 := Tryz.sizeOf144
  v51 := Tryz.zeroValue144
  t53 := Tryz.underlying119
  a53 := Tryz.isAgg119
  z53 := Tryz.sizeOf119
  v53 := Tryz.zeroValue119 }
/-- bits.Len: "Len returns the minimum number of bits required to represent x; the result is 0 for x == 0.": IT RETURNS 'Lib.bitLen x'; the world is as it was. (A uint has 64 bits in the model.) ITS CALLEE bits.Len64 IS MET BY ITS OWN CONTRACT OFF THE SHELF (lay that first). (LAID: no walk: one application.) -/
theorem Tryz.bits_Len (x : Int) (w : World) (h0 : 0 ≤ x) (h1 : x ≤ 18446744073709551615) :
    Calls Tryz.prog 109 #[.int .u64 x] w fun e w' => e = .returned (.int .i64 (Lib.bitLen x.toNat)) ∧ w' = w := Any.bits_Len Tryz.lays125 x w h0 h1
def Tryz.lays138_ren : Go.Shelf.Ren := ⟨fun | 138 => 122 | 195 => 145 | 218 => 146 | 143 => 124 | 219 => 149 | 217 => 168 | 225 => 169 | 224 => 170 | 267 => 171 | 266 => 176 | 314 => 177 | n => n, fun | 9 => 9 | 3 => 3 | 4 => 4 | 5 => 5 | 0 => 0 | 46 => 107 | 146 => 174 | 51 => 144 | n => n, fun | 1 => 2 | n => n⟩
theorem Tryz.lays138 : Go.Proofs.Lays.n138 Tryz.prog Tryz.lays138_ren := {
  mixed := by kernel_rfl
  f138 := Tryz.func122.trans (congrArg some (by kernel_rfl))
  f143 := Tryz.func124.trans (congrArg some (by kernel_rfl))
  f195 := Tryz.func145.trans (congrArg some (by kernel_rfl))
  f217 := Tryz.func168.trans (congrArg some (by kernel_rfl))
  f218 := Tryz.func146.trans (congrArg some (by kernel_rfl))
  f219 := Tryz.func149.trans (congrArg some (by kernel_rfl))
  f224 := Tryz.func170.trans (congrArg some (by kernel_rfl))
  f225 := Tryz.func169.trans (congrArg some (by kernel_rfl))
  f266 := Tryz.func176.trans (congrArg some (by kernel_rfl))
  f267 := Tryz.func171.trans (congrArg some (by kernel_rfl))
  f314 := Tryz.func177.trans (congrArg some (by kernel_rfl))
  t0 := Tryz.underlying0
  a0 := Tryz.isAgg0
  z0 := Tryz.sizeOf0
  v0 := Tryz.zeroValue0
  t3 := Tryz.underlying3
  a3 := Tryz.isAgg3
  z3 := Tryz.sizeOf3
  v3 := Tryz.zeroValue3
  t4 := Tryz.underlying4
  a4 := Tryz.isAgg4
  z4 := Tryz.sizeOf4
  v4 := Tryz.zeroValue4
  t5 := Tryz.underlying5
  a5 := Tryz.isAgg5
  z5 := Tryz.sizeOf5
  v5 := Tryz.zeroValue5
  t9 := Tryz.underlying9
  a9 := Tryz.isAgg9
  z9 := Tryz.sizeOf9
  v9 := Tryz.zeroValue9
  t46 := Tryz.underlying107
  a46 := Tryz.isAgg107
  z46 := Tryz.sizeOf107
  v46 := Tryz.zeroValue107
  t51 := Tryz.underlying144
  a51 := Tryz.isAgg144
  z51 := Tryz.sizeOf144
  v51 := Tryz.zeroValue144
  t146 := Tryz.underlying174
  a146 := Tryz.isAgg174
  z146 := Tryz.sizeOf174
  v146 := Tryz.zeroValue174
  g1 := by kernel_rfl }
open Go.RowKit Go.Lib in
/-- strings.Count AT A substr OF ONE BYTE ('hp'): "Count counts the number of non-overlapping instances of substr in s.": IT RETURNS 'Lib.countByte s (that byte)'; the world is as it was. ✋ NO CONTRACT HERE YET at an empty substr (utf8.RuneCountInString) or at a longer one (a loop over strings.Index). (LAID: no walk: one application.) -/
theorem Tryz.strings_Count_one (s : ByteArray) (c : UInt8) (w : World) :
    Calls Tryz.prog 122 #[.string s, .string ⟨#[c]⟩] w fun e w' => e = .returned (.int .i64 (Lib.countByte s.data.toList c)) ∧ w' = w := Any.strings_Count_one Tryz.lays138 s c w
def Tryz.laysSlF6_f110_ren : Go.Shelf.Ren := ⟨fun | 6 => 110 | 15 => 109 | 14 => 138 | 28 => 136 | 29 => 137 | 20 => 156 | 21 => 157 | 22 => 158 | 23 => 159 | 24 => 160 | 25 => 161 | 26 => 162 | 27 => 163 | 46 => 173 | 47 => 152 | 48 => 153 | 49 => 174 | 50 => 175 | 57 => 178 | n => n, fun | 22 => 90 | 24 => 3 | 25 => 96 | 3 => 3 | 39 => 107 | 0 => 0 | 53 => 144 | 55 => 119 | 4 => 4 | 46 => 137 | 45 => 136 | 50 => 141 | 5 => 5 | 9 => 9 | 66 => 154 | 70 => 158 | 76 => 168 | 77 => 30 | n => n, fun | n => n⟩
theorem Tryz.laysSlF6_f110 : Go.Proofs.SlLaysF.n6 Tryz.prog Tryz.laysSlF6_f110_ren := {
  mixed := by kernel_rfl
  f6 := ⟨Tryz.f110.name, by decide, Tryz.func110.trans (congrArg some (by kernel_rfl))⟩
  f14 := ⟨Tryz.f138.name, by decide, Tryz.func138.trans (congrArg some (by kernel_rfl))⟩
  f15 := Tryz.func109.trans (congrArg some (by kernel_rfl))
  f20 := ⟨Tryz.f156.name, by decide, Tryz.func156.trans (congrArg some (by kernel_rfl))⟩
  f21 := ⟨Tryz.f157.name, by decide, Tryz.func157.trans (congrArg some (by kernel_rfl))⟩
  f22 := ⟨Tryz.f158.name, by decide, Tryz.func158.trans (congrArg some (by kernel_rfl))⟩
  f23 := ⟨Tryz.f159.name, by decide, Tryz.func159.trans (congrArg some (by kernel_rfl))⟩
  f24 := ⟨Tryz.f160.name, by decide, Tryz.func160.trans (congrArg some (by kernel_rfl))⟩
  f25 := ⟨Tryz.f161.name, by decide, Tryz.func161.trans (congrArg some (by kernel_rfl))⟩
  f26 := ⟨Tryz.f162.name, by decide, Tryz.func162.trans (congrArg some (by kernel_rfl))⟩
  f27 := ⟨Tryz.f163.name, by decide, Tryz.func163.trans (congrArg some (by kernel_rfl))⟩
  f28 := Tryz.func136.trans (congrArg some (by kernel_rfl))
  f29 := Tryz.func137.trans (congrArg some (by kernel_rfl))
  f46 := ⟨Tryz.f173.name, by decide, Tryz.func173.trans (congrArg some (by kernel_rfl))⟩
  f47 := Tryz.func152.trans (congrArg some (by kernel_rfl))
  f48 := Tryz.func153.trans (congrArg some (by kernel_rfl))
  f49 := ⟨Tryz.f174.name, by decide, Tryz.func174.trans (congrArg some (by kernel_rfl))⟩
  f50 := ⟨Tryz.f175.name, by decide, Tryz.func175.trans (congrArg some (by kernel_rfl))⟩
  f57 := ⟨Tryz.f178.name, by decide, Tryz.func178.trans (congrArg some (by kernel_rfl))⟩
  t0 := Tryz.underlying0
  a0 := Tryz.isAgg0
  z0 := Tryz.sizeOf0
  v0 := Tryz.zeroValue0
  t3 := Tryz.underlying3
  a3 := Tryz.isAgg3
  z3 := Tryz.sizeOf3
  v3 := Tryz.zeroValue3
  t4 := Tryz.underlying4
  a4 := Tryz.isAgg4
  z4 := Tryz.sizeOf4
  v4 := Tryz.zeroValue4
  t5 := Tryz.underlying5
  a5 := Tryz.isAgg5
  z5 := Tryz.sizeOf5
  v5 := Tryz.zeroValue5
  t9 := Tryz.underlying9
  a9 := Tryz.isAgg9
  z9 := Tryz.sizeOf9
  v9 := Tryz.zeroValue9
  t22 := Tryz.underlying90
  a22 := Tryz.isAgg90
  z22 := Tryz.sizeOf90
  v22 := Tryz.zeroValue90
  a24 := Tryz.isAgg3
  z24 := Tryz.sizeOf3
  t25 := Tryz.underlying96
  a25 := Tryz.isAgg96
  z25 := Tryz.sizeOf96
  v25 := Tryz.zeroValue96
  t39 := Tryz.underlying107
  a39 := Tryz.isAgg107
  z39 := Tryz.sizeOf107
  v39 := Tryz.zeroValue107
  t45 := Tryz.underlying136
  a45 := Tryz.isAgg136
  z45 := Tryz.sizeOf136
  v45 := Tryz.zeroValue136
  t46 := Tryz.underlying137
  a46 := Tryz.isAgg137
  z46 := Tryz.sizeOf137
  v46 := Tryz.zeroValue137
  t50 := Tryz.underlying141
  a50 := Tryz.isAgg141
  z50 := Tryz.sizeOf141
  v50 := Tryz.zeroValue141
  t53 := Tryz.underlying144
  a53 := Tryz.isAgg144
  z53 := Tryz.sizeOf144
  v53 := Tryz.zeroValue144
  t55 := Tryz.underlying119
  a55 := Tryz.isAgg119
  z55 := Tryz.sizeOf119
  v55 := Tryz.zeroValue119
  t66 := Tryz.underlying154
  a66 := Tryz.isAgg154
  z66 := Tryz.sizeOf154
  v66 := Tryz.zeroValue154
  t70 := Tryz.underlying158
  a70 := Tryz.isAgg158
  z70 := Tryz.sizeOf158
  v70 := Tryz.zeroValue158
  t76 := Tryz.underlying168
  a76 := Tryz.isAgg168
  z76 := Tryz.sizeOf168
  v76 := Tryz.zeroValue168
  t77 := Tryz.underlying30
  a77 := Tryz.isAgg30
  z77 := Tryz.sizeOf30
  v77 := Tryz.zeroValue30 }
open Go.RowKit Go.Lib Go.Sort in
/-- slices.SortFunc AT 12 ELEMENTS OR FEWER (0 and 1 among them): THE ROW HOLDS 'Sort.insertionSort (ltOf cf) d 0 d.size'. (LAID AT THE INSTANCE 'slices.SortFunc[[]int,int]': no walk: one application.) -/
theorem Tryz.slices_SortFunc_small {α : Type} [Inhabited α] (enc : α → Value) (hO : OneCell enc) (cf : α → α → Int) (g : Nat) (cb : Array Value) (blk off cap : Nat) (d : Array α) (w : World) (eg : ∀ args w, (callFunc g args).run Tryz.prog w = .ok (.enter g args) w) (hcmp : CmpReads Tryz.prog g cb enc cf blk off d.size w) (hH : Holds enc w blk off d) (h12 : d.size ≤ 12) (hlen : ∀ (n : Nat) (W : World), n ≤ 12 → Calls Tryz.prog 109 #[.int .u64 n] W fun e w' => (∃ l : Int, e = .returned (.int .i64 l)) ∧ w' = W) :
    Calls Tryz.prog 110 #[.slice (some ⟨blk, off, none⟩) d.size cap, .func (.func g) #[] cb] w fun e w' => e = .returned (.tuple #[]) ∧ ∃ n, w' = (putRow enc w blk off (Sort.insertionSort (ltOf cf) d 0 d.size)).drewN n := Any.slices_SortFunc_small Tryz.laysSlF6_f110 enc hO cf g cb blk off cap d w eg hcmp hH h12 hlen
end Go.Proofs

