/- The places of two keys as the keys rise. -/
import Derived.Test.YtbpmhgcjefpigaaGreatDoorCopied
import Derived.Test.YtbpmhgcjefpigaaGreatDoorShelf2
import Derived.Shelf.SlSortFunc.HeapSort
namespace Go.Proofs.YtbpmhgcjefpigaaGreatDoor
open Go.RowKit Go.Shelf Go.WideShapes Go.Sort Go.Lib
set_option linter.unusedVariables false

/-- The key at a place. -/
def keyAt (k0 k1 : ByteArray) (x : Fin 2) : ByteArray := if x = 0 then k0 else k1
/-- Two keys lie at a place, and where that place is stands in a block. -/
def TwoKeys (W : World) (bx b off kc : Nat) (k0 k1 : ByteArray) : Prop :=
  W.cell? ⟨bx, 0, none⟩ = some (.slice (some ⟨b, off, none⟩) 2 kc) ∧ W.cell? ⟨b, off, none⟩ = some (.string k0) ∧ W.cell? ⟨b, off + 1, none⟩ = some (.string k1)

set_option maxHeartbeats 1000000 in
theorem cmp_two (W : World) (bx b off kc : Nat) (k0 k1 : ByteArray) (h : TwoKeys W bx b off kc k0 k1) (x y : Fin 2) :
    Calls Tryz.prog 111 #[.int .i64 (x.val : Int), .int .i64 (y.val : Int), .pointer (some ⟨bx, 0, none⟩)] W fun e w' => e = .returned (.int .i64 (Lib.compareBytes (keyAt k0 k1 x).data.toList (keyAt k0 k1 y).data.toList)) ∧ ∃ q, w' = W.drewN q := by
  obtain ⟨h0, h1, h2⟩ := h
  have hc : ∀ z : Fin 2, W.cell? ⟨b, off + z.val, none⟩ = some (.string (keyAt k0 k1 z)) := fun z => by
    match z with
    | ⟨0, _⟩ => simpa [keyAt] using h1
    | ⟨1, _⟩ => simpa [keyAt] using h2
  have hx := hc x
  have hy := hc y
  have lx : (x.val : Int) < 2 := by have := x.isLt; omega
  have ly : (y.val : Int) < 2 := by have := y.isLt; omega
  have px : 0 ≤ (x.val : Int) := by omega
  have py : 0 ≤ (y.val : Int) := by omega
  generalize keyAt k0 k1 x = kx at *
  generalize keyAt k0 k1 y = ky at *
  generalize x.val = i at *
  generalize y.val = j at *
  clear hc h1 h2
  go_enter Tryz.func111, Tryz.ntmps111
  go_wp2_with fail
  go_quiet ((go_at_call 95; exact Calls.quiet_of_same (Tryz.strings_Compare _ _ _)))
  go_wp2_with fail
  go_ret
  exact ⟨rfl, _, rfl⟩

/-- The places as the keys rise: the second first just if its key is less. -/
def placesOf (k0 k1 : ByteArray) : Array (Fin 2) := if Lib.compareBytes k1.data.toList k0.data.toList < 0 then #[1, 0] else #[0, 1]
theorem sort_two (k0 k1 : ByteArray) : Sort.insertionSort (ltOf fun x y : Fin 2 => Lib.compareBytes (keyAt k0 k1 x).data.toList (keyAt k0 k1 y).data.toList) #[0, 1] 0 2 = placesOf k0 k1 := by
  unfold placesOf Sort.insertionSort
  rw [Sort.insOuter, if_pos (by omega), Sort.insOuter, if_neg (by omega)]
  by_cases h : Lib.compareBytes k1.data.toList k0.data.toList < 0
  · rw [if_pos h]
    simp [Sort.insInner, ltOf, keyAt, h, Sort.swp]
  · rw [if_neg h]
    simp [Sort.insInner, ltOf, keyAt, h]

theorem Tryz.info3 : (Tryz.prog.info? 3).map (fun i => (i.zero, i.size, i.bytes)) = some (some (.int .i64 0), 1, 8) := by kernel_rfl

theorem putRow_below {α : Type} [Inhabited α] {enc : α → Value} {B : Nat} {w w1 : World} (h : Below B w w1) {blk off : Nat} (hb : B ≤ blk) (d : Array α) : Below B w (putRow enc w1 blk off d) :=
  ⟨h.os, h.tape, h.output, by simpa [putRow, mapBlock] using h.size, fun k hk => by
    rw [← h.block k hk]
    simp only [putRow, mapBlock, Array.getElem?_modify]
    rw [if_neg (by omega)]⟩
theorem below_drewN' {B : Nat} {w w1 : World} (h : Below B w w1) (n : Nat) : Below B w (w1.drewN n) := ⟨h.os, h.tape, h.output, h.size, h.block⟩

set_option maxRecDepth 100000 in
set_option maxHeartbeats 2000000 in
theorem bykeys_two (b off kc : Nat) (k0 k1 : ByteArray) (w : World) (hb : b < w.heap.size) (h1 : w.cell? ⟨b, off, none⟩ = some (.string k0)) (h2 : w.cell? ⟨b, off + 1, none⟩ = some (.string k1)) :
    Calls Tryz.prog 86 #[.slice (some ⟨b, off, none⟩) 2 kc] w fun e w' => e = .returned (.slice (some ⟨w.heap.size + 1, 0, none⟩) 2 2) ∧ Below w.heap.size w w' ∧ w.heap.size + 1 < w'.heap.size ∧
      w'.cell? ⟨w.heap.size + 1, 0, none⟩ = some (.int .i64 ((placesOf k0 k1)[0]!.val : Int)) ∧ w'.cell? ⟨w.heap.size + 1, 1, none⟩ = some (.int .i64 ((placesOf k0 k1)[1]!.val : Int)) := by
  have hmk : ∀ W : World, (Instr.makeSlice 90 (.int .i64 2) (.int .i64 2)).run Tryz.prog W = .ok (.slice (some ⟨W.heap.size, 0, none⟩) 2 2) (W.alloc (.cells #[.int .i64 0, .int .i64 0] 3)) := fun W => by
    obtain ⟨i0, hi, hz0, hz1, hz2⟩ := info_parts Tryz.info3
    have := run_makeSlice (P := Tryz.prog) W 90 3 i0 _ Tryz.underlying90 hi hz0 .i64 .i64 2 2 (by omega) (by omega) (by rw [hz1]; omega) (by rw [hz2]; omega) (by omega)
    rw [hz1] at this
    have e : madeCells (Value.int .i64 0).cells (Int.toNat 2 * 1) = #[.int .i64 0, .int .i64 0] := by kernel_rfl
    rw [e] at this
    exact this
  obtain ⟨W1, hW1⟩ : ∃ W1, (w.alloc (.cells #[.slice (some ⟨b, off, none⟩) 2 kc] 23)).alloc (.cells #[.int .i64 0, .int .i64 1] 3) = W1 := ⟨_, rfl⟩
  have HW1 := hidE hW1
  go_enter Tryz.func86, Tryz.ntmps86
  go_wp2_with fail
  refine wp_loop_rounds 3 ?_
  rw [rounds_succ]
  go_wp2_with fail
  rw [rounds_succ]
  go_wp2_with fail
  rw [rounds_succ]
  go_wp2_with fail
  have hs1 : W1.heap.size = w.heap.size + 2 := by rw [← HW1.out]; simp
  have hb1 : Below w.heap.size w W1 := by rw [← HW1.out]; exact ((Below.refl _ _).alloc (Nat.le_refl _) _).alloc (by simp) _
  have hkeys : TwoKeys W1 w.heap.size b off kc k0 k1 := by
    refine ⟨?_, (hb1.cell (p := ⟨b, off, none⟩) hb).trans h1, (hb1.cell (p := ⟨b, off + 1, none⟩) hb).trans h2⟩
    rw [← HW1.out, World.cell?_of_block (Below.heap_alloc _ _ _ (by simp))]
    exact cell_new _ _ _ 0 _ rfl
  have hnew : W1.heap[w.heap.size + 1]? = some (.cells #[.int .i64 0, .int .i64 1] 3 (0, 0)) := by
    have := World.alloc_heap_new (w.alloc (.cells #[.slice (some ⟨b, off, none⟩) 2 kc] 23)) (.cells #[.int .i64 0, .int .i64 1] 3)
    rw [World.size_alloc, HW1.out] at this
    exact this
  have hH : Holds (fun x : Fin 2 => Value.int .i64 (x.val : Int)) W1 (w.heap.size + 1) 0 #[0, 1] := by
    intro j hj
    have hj' : j < 2 := hj
    match j, hj' with
    | 0, _ => exact ⟨by unfold World.cell?; simp [hnew], by unfold World.frozen?; simp [hnew]⟩
    | 1, _ => exact ⟨by unfold World.cell?; simp [hnew], by unfold World.frozen?; simp [hnew]⟩
  refine (Tryz.slices_SortFunc_small (fun x : Fin 2 => Value.int .i64 (x.val : Int)) (fun _ => rfl) (fun x y => Lib.compareBytes (keyAt k0 k1 x).data.toList (keyAt k0 k1 y).data.toList) 111 #[.pointer (some ⟨w.heap.size, 0, none⟩)] (w.heap.size + 1) 0 2 #[0, 1] W1
    (enters_of Tryz.func111 (by kernel_rfl) rfl) ?_ hH (by simp) (fun n W hn => (Tryz.bits_Len n W (by omega) (by omega)).mono fun e w' ⟨h, h'⟩ => ⟨⟨_, h⟩, h'⟩)).mono ?_
  · intro m os dk hdk x y
    have hk : TwoKeys (sortWorld (fun x : Fin 2 => Value.int .i64 (x.val : Int)) W1 (w.heap.size + 1) 0 m dk os) w.heap.size b off kc k0 k1 := by
      obtain ⟨a1, a2, a3⟩ := hkeys
      refine ⟨?_, ?_, ?_⟩
      · rw [cell?_sortWorld_other _ _ _ _ _ _ _ _ (by simp) (by rw [hs1]; simp)]; exact a1
      · rw [cell?_sortWorld_other _ _ _ _ _ _ _ _ (by simp; omega) (by rw [hs1]; simp; omega)]; exact a2
      · rw [cell?_sortWorld_other _ _ _ _ _ _ _ _ (by simp; omega) (by rw [hs1]; simp; omega)]; exact a3
    exact cmp_two _ w.heap.size b off kc k0 k1 hk x y
  · rintro e w2 ⟨rfl, q, hw2⟩
    have hsort := sort_two k0 k1
    have hp : (#[0, 1] : Array (Fin 2)).size = 2 := rfl
    rw [hp, hsort] at hw2
    have hps : (placesOf k0 k1).size = 2 := by unfold placesOf; split <;> rfl
    have HB2 : Hid (Below w.heap.size w w2) := by rw [hw2]; exact below_drewN' (putRow_below hb1 (by omega) _) _
    have hc : ∀ j, j < 2 → w2.cell? ⟨w.heap.size + 1, j, none⟩ = some (.int .i64 ((placesOf k0 k1)[j]!.val : Int)) := fun j hj => by
      have := cell?_putRow (fun x : Fin 2 => Value.int .i64 (x.val : Int)) W1 (w.heap.size + 1) 0 #[0, 1] (placesOf k0 k1) hH (by rw [hps]; rfl) j (by rw [hps]; exact hj)
      rw [hw2]
      simpa using this
    have HC0 := hidE (hc 0 (by omega))
    have HC1 := hidE (hc 1 (by omega))
    have HSZ : Hid (w.heap.size + 1 < w2.heap.size) := lt_of_cell (hc 0 (by omega))
    clear hc hw2
    go_wp2_with fail
    go_ret
    exact ⟨rfl, HB2.out, HSZ.out, HC0.out, HC1.out⟩
end Go.Proofs.YtbpmhgcjefpigaaGreatDoor
