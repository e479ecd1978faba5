/- The places of two keys as the keys rise. The order of values is total: turned about it is its opposite, and it leads on. The places of any keys as the keys rise. byKeys, at any keys. -/
import Derived.Test.YtbpmhgcjefpigaaGreatDoorJoin7
import Derived.Shelf.SlSortFunc.HeapSort
import Derived.Test.YtbpmhgcjefpigaaGreatDoorJoin5
import Derived.Shelf.SlSortCmp.NoneTotal
namespace Go.Proofs.YtbpmhgcjefpigaaGreatDoor
open Go.RowKit Go.Shelf Go.WideShapes Go.Sort Go.Lib
set_option linter.unusedVariables false
/-- The key at a place. -/
def keyAt (k0 k1 : ByteArray) (x : Fin 2) : ByteArray := if x = 0 then k0 else k1
/-- Two keys lie at a place, and where that place is stands in a block. -/
def TwoKeys (W : World) (bx b off kc : Nat) (k0 k1 : ByteArray) : Prop :=
  W.cell? ⟨bx, 0, none⟩ = some (.slice (some ⟨b, off, none⟩) 2 kc) ∧ W.cell? ⟨b, off, none⟩ = some (.string k0) ∧ W.cell? ⟨b, off + 1, none⟩ = some (.string k1)
set_option maxHeartbeats 1000000 in
theorem cmp_two (W : World) (bx b off kc : Nat) (k0 k1 : ByteArray) (h : TwoKeys W bx b off kc k0 k1) (x y : Fin 2) :
    Calls Tryz.prog 111 #[.int .i64 (x.val : Int), .int .i64 (y.val : Int), .pointer (some ⟨bx, 0, none⟩)] W fun e w' => e = .returned (.int .i64 (Lib.compareBytes (keyAt k0 k1 x).data.toList (keyAt k0 k1 y).data.toList)) ∧ ∃ q, w' = W.drewN q := by
  obtain ⟨h0, h1, h2⟩ := h
  have hc : ∀ z : Fin 2, W.cell? ⟨b, off + z.val, none⟩ = some (.string (keyAt k0 k1 z)) := fun z => by
    match z with
    | ⟨0, _⟩ => simpa [keyAt] using h1
    | ⟨1, _⟩ => simpa [keyAt] using h2
  have hx := hc x
  have hy := hc y
  have lx : (x.val : Int) < 2 := by have := x.isLt; omega
  have ly : (y.val : Int) < 2 := by have := y.isLt; omega
  have px : 0 ≤ (x.val : Int) := by omega
  have py : 0 ≤ (y.val : Int) := by omega
  generalize keyAt k0 k1 x = kx at *
  generalize keyAt k0 k1 y = ky at *
  generalize x.val = i at *
  generalize y.val = j at *
  clear hc h1 h2
  go_enter Tryz.func111, Tryz.ntmps111
  go_wp2_with fail
  go_quiet ((go_at_call 95; exact Calls.quiet_of_same (Tryz.strings_Compare _ _ _)))
  go_wp2_with fail
  go_ret
  exact ⟨rfl, _, rfl⟩
/-- The places as the keys rise: the second first just if its key is less. -/
def placesOf (k0 k1 : ByteArray) : Array (Fin 2) := if Lib.compareBytes k1.data.toList k0.data.toList < 0 then #[1, 0] else #[0, 1]
theorem sort_two (k0 k1 : ByteArray) : Sort.insertionSort (ltOf fun x y : Fin 2 => Lib.compareBytes (keyAt k0 k1 x).data.toList (keyAt k0 k1 y).data.toList) #[0, 1] 0 2 = placesOf k0 k1 := by
  unfold placesOf Sort.insertionSort
  rw [Sort.insOuter, if_pos (by omega), Sort.insOuter, if_neg (by omega)]
  by_cases h : Lib.compareBytes k1.data.toList k0.data.toList < 0
  · rw [if_pos h]
    simp [Sort.insInner, ltOf, keyAt, h, Sort.swp]
  · rw [if_neg h]
    simp [Sort.insInner, ltOf, keyAt, h]
theorem Tryz.info3 : (Tryz.prog.info? 3).map (fun i => (i.zero, i.size, i.bytes)) = some (some (.int .i64 0), 1, 8) := by kernel_rfl
theorem putRow_below {α : Type} [Inhabited α] {enc : α → Value} {B : Nat} {w w1 : World} (h : Below B w w1) {blk off : Nat} (hb : B ≤ blk) (d : Array α) : Below B w (putRow enc w1 blk off d) :=
  ⟨h.os, h.tape, h.output, by simpa [putRow, mapBlock] using h.size, fun k hk => by
    rw [← h.block k hk]
    simp only [putRow, mapBlock, Array.getElem?_modify]
    rw [if_neg (by omega)]⟩
theorem below_drewN' {B : Nat} {w w1 : World} (h : Below B w w1) (n : Nat) : Below B w (w1.drewN n) := ⟨h.os, h.tape, h.output, h.size, h.block⟩
set_option maxRecDepth 100000 in
set_option maxHeartbeats 2000000 in
theorem bykeys_two (b off kc : Nat) (k0 k1 : ByteArray) (w : World) (hb : b < w.heap.size) (h1 : w.cell? ⟨b, off, none⟩ = some (.string k0)) (h2 : w.cell? ⟨b, off + 1, none⟩ = some (.string k1)) :
    Calls Tryz.prog 86 #[.slice (some ⟨b, off, none⟩) 2 kc] w fun e w' => e = .returned (.slice (some ⟨w.heap.size + 1, 0, none⟩) 2 2) ∧ Below w.heap.size w w' ∧ w.heap.size + 1 < w'.heap.size ∧
      w'.cell? ⟨w.heap.size + 1, 0, none⟩ = some (.int .i64 ((placesOf k0 k1)[0]!.val : Int)) ∧ w'.cell? ⟨w.heap.size + 1, 1, none⟩ = some (.int .i64 ((placesOf k0 k1)[1]!.val : Int)) := by
  have hmk : ∀ W : World, (Instr.makeSlice 90 (.int .i64 2) (.int .i64 2)).run Tryz.prog W = .ok (.slice (some ⟨W.heap.size, 0, none⟩) 2 2) (W.alloc (.cells #[.int .i64 0, .int .i64 0] 3)) := fun W => by
    obtain ⟨i0, hi, hz0, hz1, hz2⟩ := info_parts Tryz.info3
    have := run_makeSlice (P := Tryz.prog) W 90 3 i0 _ Tryz.underlying90 hi hz0 .i64 .i64 2 2 (by omega) (by omega) (by rw [hz1]; omega) (by rw [hz2]; omega) (by omega)
    rw [hz1] at this
    have e : madeCells (Value.int .i64 0).cells (Int.toNat 2 * 1) = #[.int .i64 0, .int .i64 0] := by kernel_rfl
    rw [e] at this
    exact this
  obtain ⟨W1, hW1⟩ : ∃ W1, (w.alloc (.cells #[.slice (some ⟨b, off, none⟩) 2 kc] 23)).alloc (.cells #[.int .i64 0, .int .i64 1] 3) = W1 := ⟨_, rfl⟩
  have HW1 := hidE hW1
  go_enter Tryz.func86, Tryz.ntmps86
  go_wp2_with fail
  refine wp_loop_rounds 3 ?_
  rw [rounds_succ]
  go_wp2_with fail
  rw [rounds_succ]
  go_wp2_with fail
  rw [rounds_succ]
  go_wp2_with fail
  have hs1 : W1.heap.size = w.heap.size + 2 := by rw [← HW1.out]; simp
  have hb1 : Below w.heap.size w W1 := by rw [← HW1.out]; exact ((Below.refl _ _).alloc (Nat.le_refl _) _).alloc (by simp) _
  have hkeys : TwoKeys W1 w.heap.size b off kc k0 k1 := by
    refine ⟨?_, (hb1.cell (p := ⟨b, off, none⟩) hb).trans h1, (hb1.cell (p := ⟨b, off + 1, none⟩) hb).trans h2⟩
    rw [← HW1.out, World.cell?_of_block (Below.heap_alloc _ _ _ (by simp))]
    exact cell_new _ _ _ 0 _ rfl
  have hnew : W1.heap[w.heap.size + 1]? = some (.cells #[.int .i64 0, .int .i64 1] 3 (0, 0)) := by
    have := World.alloc_heap_new (w.alloc (.cells #[.slice (some ⟨b, off, none⟩) 2 kc] 23)) (.cells #[.int .i64 0, .int .i64 1] 3)
    rw [World.size_alloc, HW1.out] at this
    exact this
  have hH : Holds (fun x : Fin 2 => Value.int .i64 (x.val : Int)) W1 (w.heap.size + 1) 0 #[0, 1] := by
    intro j hj
    have hj' : j < 2 := hj
    match j, hj' with
    | 0, _ => exact ⟨by unfold World.cell?; simp [hnew], by unfold World.frozen?; simp [hnew]⟩
    | 1, _ => exact ⟨by unfold World.cell?; simp [hnew], by unfold World.frozen?; simp [hnew]⟩
  refine (Tryz.slices_SortFunc_small (fun x : Fin 2 => Value.int .i64 (x.val : Int)) (fun _ => rfl) (fun x y => Lib.compareBytes (keyAt k0 k1 x).data.toList (keyAt k0 k1 y).data.toList) 111 #[.pointer (some ⟨w.heap.size, 0, none⟩)] (w.heap.size + 1) 0 2 #[0, 1] W1
    (enters_of Tryz.func111 (by kernel_rfl) rfl) ?_ hH (by simp) (fun n W hn => (Tryz.bits_Len n W (by omega) (by omega)).mono fun e w' ⟨h, h'⟩ => ⟨⟨_, h⟩, h'⟩)).mono ?_
  · intro m os dk hdk x y
    have hk : TwoKeys (sortWorld (fun x : Fin 2 => Value.int .i64 (x.val : Int)) W1 (w.heap.size + 1) 0 m dk os) w.heap.size b off kc k0 k1 := by
      obtain ⟨a1, a2, a3⟩ := hkeys
      refine ⟨?_, ?_, ?_⟩
      · rw [cell?_sortWorld_other _ _ _ _ _ _ _ _ (by simp) (by rw [hs1]; simp)]; exact a1
      · rw [cell?_sortWorld_other _ _ _ _ _ _ _ _ (by simp; omega) (by rw [hs1]; simp; omega)]; exact a2
      · rw [cell?_sortWorld_other _ _ _ _ _ _ _ _ (by simp; omega) (by rw [hs1]; simp; omega)]; exact a3
    exact cmp_two _ w.heap.size b off kc k0 k1 hk x y
  · rintro e w2 ⟨rfl, q, hw2⟩
    have hsort := sort_two k0 k1
    have hp : (#[0, 1] : Array (Fin 2)).size = 2 := rfl
    rw [hp, hsort] at hw2
    have hps : (placesOf k0 k1).size = 2 := by unfold placesOf; split <;> rfl
    have HB2 : Hid (Below w.heap.size w w2) := by rw [hw2]; exact below_drewN' (putRow_below hb1 (by omega) _) _
    have hc : ∀ j, j < 2 → w2.cell? ⟨w.heap.size + 1, j, none⟩ = some (.int .i64 ((placesOf k0 k1)[j]!.val : Int)) := fun j hj => by
      have := cell?_putRow (fun x : Fin 2 => Value.int .i64 (x.val : Int)) W1 (w.heap.size + 1) 0 #[0, 1] (placesOf k0 k1) hH (by rw [hps]; rfl) j (by rw [hps]; exact hj)
      rw [hw2]
      simpa using this
    have HC0 := hidE (hc 0 (by omega))
    have HC1 := hidE (hc 1 (by omega))
    have HSZ : Hid (w.heap.size + 1 < w2.heap.size) := lt_of_cell (hc 0 (by omega))
    clear hc hw2
    go_wp2_with fail
    go_ret
    exact ⟨rfl, HB2.out, HSZ.out, HC0.out, HC1.out⟩
end Go.Proofs.YtbpmhgcjefpigaaGreatDoor

namespace Go.Proofs.YtbpmhgcjefpigaaGreatDoor
open Go.RowKit Go.Shelf
set_option linter.unusedVariables false
/-- -1, 0 or 1. -/
def Three (x : Int) : Prop := x = -1 ∨ x = 0 ∨ x = 1
/-- How three comparisons go together: of the first and the second, the second and the third, the first and the third. -/
def Leads (x y z : Int) : Prop := (x = 0 → z = y) ∧ (y = 0 → z = x) ∧ (x = y → z = x)
theorem lex_three {x y : Int} (h1 : Three x) (h2 : x = 0 → Three y) : Three (if x = 0 then y else x) := by
  split
  · exact h2 ‹_›
  · exact h1
theorem lex_leads {x1 x2 x3 y1 y2 y3 : Int} (r1 : Three x1) (r2 : Three x2) (r3 : Three x3) (hx : Leads x1 x2 x3) (hy : x1 = 0 → x2 = 0 → Three y1 ∧ Three y2 ∧ Three y3 ∧ Leads y1 y2 y3) :
    Leads (if x1 = 0 then y1 else x1) (if x2 = 0 then y2 else x2) (if x3 = 0 then y3 else x3) := by
  unfold Three Leads at *
  by_cases h1 : x1 = 0
  · by_cases h2 : x2 = 0
    · obtain ⟨a, b, c, d⟩ := hy h1 h2
      have h3 : x3 = 0 := by omega
      rw [if_pos h1, if_pos h2, if_pos h3]; exact d
    · have h3 : x3 ≠ 0 := by omega
      rw [if_pos h1, if_neg h2, if_neg h3]
      have : x3 = x2 := hx.1 h1
      refine ⟨fun _ => this, fun e => absurd e h2, fun e => ?_⟩
      omega
  · by_cases h2 : x2 = 0
    · have h3 : x3 ≠ 0 := by omega
      rw [if_neg h1, if_pos h2, if_neg h3]
      have : x3 = x1 := hx.2.1 h2
      refine ⟨fun e => absurd e h1, fun _ => this, fun e => ?_⟩
      omega
    · rw [if_neg h1, if_neg h2]
      refine ⟨fun e => absurd e h1, fun e => absurd e h2, fun e => ?_⟩
      have : x3 = x1 := hx.2.2 e
      rw [if_neg (by omega)]; exact this
theorem cmpI_three (a b : Int) : Three (cmpI a b) := by unfold cmpI Three; split <;> (try split) <;> omega
theorem cmpI_turn (a b : Int) : cmpI b a = -cmpI a b := by unfold cmpI; split <;> split <;> (try split) <;> (try split) <;> omega
theorem cmpI_leads (a b c : Int) : Leads (cmpI a b) (cmpI b c) (cmpI a c) := by
  unfold cmpI Leads
  rcases Int.lt_trichotomy a b with h | h | h <;> rcases Int.lt_trichotomy b c with g | g | g <;> rcases Int.lt_trichotomy a c with e | e | e <;> simp_all <;> omega
theorem cmpB_eq (a b : UInt8) (r t : List UInt8) : Lib.compareBytes (a :: r) (b :: t) = if cmpI a.toNat b.toNat = 0 then Lib.compareBytes r t else cmpI a.toNat b.toNat := by
  rw [Lib.compareBytes]
  by_cases h1 : a < b
  · have h : a.toNat < b.toNat := h1
    have : cmpI a.toNat b.toNat = -1 := by unfold cmpI; rw [if_pos (by omega)]
    rw [if_pos h1, this]; rfl
  · have h : ¬ a.toNat < b.toNat := h1
    by_cases h2 : b < a
    · have g : b.toNat < a.toNat := h2
      have : cmpI a.toNat b.toNat = 1 := by unfold cmpI; rw [if_neg (by omega), if_pos (by omega)]
      rw [if_neg h1, if_pos h2, this]; rfl
    · have g : ¬ b.toNat < a.toNat := h2
      have : cmpI a.toNat b.toNat = 0 := by unfold cmpI; rw [if_neg (by omega), if_neg (by omega)]
      rw [if_neg h1, if_neg h2, this]; rfl
theorem cmpB_three : ∀ (a b : List UInt8), Three (Lib.compareBytes a b)
  | [], [] => .inr (.inl rfl)
  | [], _ :: _ => .inl rfl
  | _ :: _, [] => .inr (.inr rfl)
  | a :: r, b :: t => by rw [cmpB_eq]; exact lex_three (cmpI_three _ _) fun _ => cmpB_three r t
theorem cmpB_turn : ∀ (a b : List UInt8), Lib.compareBytes b a = -Lib.compareBytes a b
  | [], [] => rfl
  | [], _ :: _ => rfl
  | _ :: _, [] => rfl
  | a :: r, b :: t => by
    rw [cmpB_eq, cmpB_eq, cmpI_turn, cmpB_turn r t]
    by_cases h : cmpI (a.toNat : Int) b.toNat = 0
    · rw [if_pos (by omega), if_pos h]
    · rw [if_neg (by omega), if_neg h]
theorem cmpB_leads : ∀ (a b c : List UInt8), Leads (Lib.compareBytes a b) (Lib.compareBytes b c) (Lib.compareBytes a c)
  | [], [], [] => ⟨fun _ => rfl, fun _ => rfl, fun _ => rfl⟩
  | [], [], _ :: _ => ⟨fun _ => rfl, fun h => by simp [Lib.compareBytes] at h, fun h => by simp [Lib.compareBytes] at h⟩
  | [], _ :: _, [] => ⟨fun h => by simp [Lib.compareBytes] at h, fun h => by simp [Lib.compareBytes] at h, fun h => by simp [Lib.compareBytes] at h⟩
  | _ :: _, [], [] => ⟨fun h => by simp [Lib.compareBytes] at h, fun _ => rfl, fun h => by simp [Lib.compareBytes] at h⟩
  | [], b :: t, c :: u => ⟨fun h => by simp [Lib.compareBytes] at h, fun _ => rfl, fun _ => rfl⟩
  | a :: r, [], c :: u => ⟨fun h => by simp [Lib.compareBytes] at h, fun h => by simp [Lib.compareBytes] at h, fun h => by simp [Lib.compareBytes] at h⟩
  | a :: r, b :: t, [] => by
    have h3 := cmpB_three (a :: r) (b :: t)
    refine ⟨fun _ => rfl, fun h => by simp [Lib.compareBytes] at h, fun h => ?_⟩
    have : Lib.compareBytes (b :: t) [] = 1 := rfl
    rw [this] at h
    rw [h]; rfl
  | a :: r, b :: t, c :: u => by
    rw [cmpB_eq, cmpB_eq, cmpB_eq]
    exact lex_leads (cmpI_three _ _) (cmpI_three _ _) (cmpI_three _ _) (cmpI_leads _ _ _) fun _ _ => ⟨cmpB_three r t, cmpB_three t u, cmpB_three r u, cmpB_leads r t u⟩
mutual
/-- Every kind is one of the eight. -/
def Known : Tree → Prop
  | .mk k _ _ _ _ ts => (0 ≤ k ∧ k ≤ 7) ∧ KnownL ts
def KnownL : List Tree → Prop
  | [] => True
  | t :: r => Known t ∧ KnownL r
end
end Go.Proofs.YtbpmhgcjefpigaaGreatDoor

namespace Go.Proofs.YtbpmhgcjefpigaaGreatDoor
open Go.RowKit Go.Shelf Go.WideShapes Go.Lib
set_option linter.unusedVariables false
set_option linter.unusedSimpArgs false
theorem Tryz.slices_SortFunc_none110 (p : Option Addr) (cap : Nat) (fv : Value) (w : World) : Calls Tryz.prog 110 #[.slice p 0 cap, fv] w fun e w' => e = .returned (.tuple #[]) ∧ w' = w := AnyF.slices_SortFunc_none (P := Tryz.prog) (ρ := Tryz.laysSlF6_f110_ren) { Tryz.laysSlF6_f110 with } p cap fv w
/-- The key at a place. -/
def keyN (ks : List ByteArray) (i : Nat) : ByteArray := ks.getD i ⟨#[]⟩
/-- Where keys lie stands in a block. -/
def KeysBox (W : World) (bx B : Nat) (ka : Option Addr) (kc : Nat) (ks : List ByteArray) : Prop := W.cell? ⟨bx, 0, none⟩ = some (.slice ka ks.length kc) ∧ KeysLie B W ka ks
set_option maxHeartbeats 1000000 in
theorem cmp_keys (W : World) (bx B : Nat) (ka : Option Addr) (kc : Nat) (ks : List ByteArray) (h : KeysBox W bx B ka kc ks) (i j : Nat) (hi : i < ks.length) (hj : j < ks.length) :
    Calls Tryz.prog 111 #[.int .i64 (i : Int), .int .i64 (j : Int), .pointer (some ⟨bx, 0, none⟩)] W fun e w' => e = .returned (.int .i64 (Lib.compareBytes (keyN ks i).data.toList (keyN ks j).data.toList)) ∧ ∃ q, w' = W.drewN q := by
  obtain ⟨h0, hk⟩ := h
  obtain ⟨b, off, rfl, hb, hkey⟩ := hk.resolve_left (by intro e; rw [e] at hi; simp at hi)
  have hx := (hkey i hi).1
  have hy := (hkey j hj).1
  unfold keyN
  generalize ks.getD i ⟨#[]⟩ = kx at *
  generalize ks.getD j ⟨#[]⟩ = ky at *
  clear hkey
  go_enter Tryz.func111, Tryz.ntmps111
  go_wp2_with fail
  go_quiet ((go_at_call 95; exact Calls.quiet_of_same (Tryz.strings_Compare _ _ _)))
  go_wp2_with fail
  go_ret
  exact ⟨rfl, _, rfl⟩
theorem swo_keys (ks : List ByteArray) : Go.Sort.SWO (ltOf fun x y : Fin ks.length => Lib.compareBytes (keyN ks x.val).data.toList (keyN ks y.val).data.toList) := by
  refine ⟨fun x => ?_, fun x y z h1 h2 => ?_, fun x y z h1 h2 => ?_⟩
  · show decide (Lib.compareBytes _ _ < 0) = false
    have := cmpB_turn (keyN ks x.val).data.toList (keyN ks x.val).data.toList
    simp; omega
  · simp only [ltOf, decide_eq_true_eq] at h1 h2 ⊢
    obtain ⟨h5, h6, h7⟩ := cmpB_leads (keyN ks x.val).data.toList (keyN ks y.val).data.toList (keyN ks z.val).data.toList
    have h3 := cmpB_three (keyN ks x.val).data.toList (keyN ks y.val).data.toList
    have h4 := cmpB_three (keyN ks y.val).data.toList (keyN ks z.val).data.toList
    unfold Three at h3 h4
    have := h7 (by omega)
    omega
  · simp only [ltOf, decide_eq_false_iff_not] at h1 h2 ⊢
    obtain ⟨h5, h6, h7⟩ := cmpB_leads (keyN ks x.val).data.toList (keyN ks y.val).data.toList (keyN ks z.val).data.toList
    have h3 := cmpB_three (keyN ks x.val).data.toList (keyN ks y.val).data.toList
    have h4 := cmpB_three (keyN ks y.val).data.toList (keyN ks z.val).data.toList
    unfold Three at h3 h4
    by_cases e : Lib.compareBytes (keyN ks x.val).data.toList (keyN ks y.val).data.toList = 0
    · rw [h5 e]; exact h2
    · by_cases f : Lib.compareBytes (keyN ks y.val).data.toList (keyN ks z.val).data.toList = 0
      · rw [h6 f]; exact h1
      · rw [h7 (by omega)]; exact h1
/-- Places as the keys rise. -/
structure Rising (ks : List ByteArray) (ps : List Nat) : Prop where
  perm : ps.Perm (List.range ks.length)
  up : ps.Pairwise fun a b => Lib.compareBytes (keyN ks a).data.toList (keyN ks b).data.toList ≤ 0
section
variable {α : Type} [Inhabited α]
theorem sw1_block (enc : α → Value) (w : World) (blk off m : Nat) (dk : Array α) (os : Array Obj) {q : Nat} (h : q ≠ blk) (hq : q < w.heap.size) : (sortWorld enc w blk off m dk os).heap[q]? = w.heap[q]? := by
  unfold sortWorld
  rw [Go.Sort.heap_grow_old _ _ (by rw [Go.Sort.size_putRow]; exact hq)]
  unfold Go.Sort.putRow Go.Sort.mapBlock
  simp only [Array.getElem?_modify]
  rw [if_neg (fun e => h e.symm)]
  rfl
theorem sw1_size (enc : α → Value) (w : World) (blk off m : Nat) (dk : Array α) (os : Array Obj) : w.heap.size ≤ (sortWorld enc w blk off m dk os).heap.size := by
  unfold sortWorld
  rw [Go.Sort.size_grow, Go.Sort.size_putRow]
  exact Nat.le_add_right _ _
theorem sw1_cell (enc : α → Value) (w : World) (blk off m : Nat) (d dk : Array α) (os : Array Obj) (hH : Go.Sort.Holds enc w blk off d) (hs : dk.size = d.size) (hb : blk < w.heap.size) {j : Nat} (hj : j < dk.size) : (sortWorld enc w blk off m dk os).cell? ⟨blk, off + j, none⟩ = some (enc dk[j]!) := by
  unfold sortWorld
  rw [Go.Sort.cell?_grow _ _ _ (by rw [Go.Sort.size_putRow]; exact hb)]
  exact Go.Sort.cell?_putRow enc _ blk off d dk hH hs j hj
end
/-- slices.SortFunc of places, by the keys at them. -/
theorem sort_places {bx g B : Nat} {w : World} {ka : Option Addr} {kc cap : Nat} {ks : List ByteArray} (hbx : bx ≠ g) (hbl : bx < w.heap.size) (hgB : B ≤ g) (hgl : g < w.heap.size) (hK : KeysBox w bx B ka kc ks) (hr : ∀ j, j < ks.length → w.cell? ⟨g, j, none⟩ = some (.int .i64 (j : Int)) ∧ w.frozen? ⟨g, j, none⟩ = false) (hn : ks.length ≤ 1000) :
    Calls Tryz.prog 110 #[.slice (some ⟨g, 0, none⟩) ks.length cap, .func (.func 111) #[] #[.pointer (some ⟨bx, 0, none⟩)]] w fun e w' => ∃ ps : List Nat, e = .returned (.tuple #[]) ∧ Rising ks ps ∧ (∀ (j p : Nat), ps[j]? = some p → w'.cell? ⟨g, j, none⟩ = some (.int .i64 (p : Int))) ∧ Below g w w' := by
  by_cases h0 : ks.length = 0
  · have e0 : ks = [] := List.eq_nil_of_length_eq_zero h0
    subst e0
    refine (Tryz.slices_SortFunc_none110 _ _ _ w).mono ?_
    rintro e w' ⟨rfl, rfl⟩
    exact ⟨[], rfl, ⟨.refl _, .nil⟩, fun j p h => by simp at h, Below.refl _ _⟩
  haveI : Inhabited (Fin ks.length) := ⟨⟨0, by omega⟩⟩
  have hdl : (Array.finRange ks.length).size = ks.length := by simp
  have hdg : ∀ j (h : j < ks.length), ((Array.finRange ks.length)[j]!).val = j := fun j h => by
    rw [getElem!_pos (Array.finRange ks.length) j (by rw [hdl]; exact h), Array.getElem_finRange]; rfl
  have hH : Go.Sort.Holds (fun x : Fin ks.length => Value.int .i64 (x.val : Int)) w g 0 (Array.finRange ks.length) := by
    intro j hj
    rw [hdl] at hj
    rw [Nat.zero_add]
    show w.cell? ⟨g, j, none⟩ = some (Value.int .i64 (((Array.finRange ks.length)[j]!).val : Int)) ∧ _
    rw [hdg j hj]
    exact hr j hj
  have hcmp : CmpLays1 Tryz.prog 111 #[.pointer (some ⟨bx, 0, none⟩)] (fun x : Fin ks.length => Value.int .i64 (x.val : Int)) (fun x y => Lib.compareBytes (keyN ks x.val).data.toList (keyN ks y.val).data.toList) g 0 (Array.finRange ks.length).size w := by
    intro m os dk hdk x y
    have hkb : KeysBox (sortWorld (fun x : Fin ks.length => Value.int .i64 (x.val : Int)) w g 0 m dk os) bx B ka kc ks := by
      refine ⟨(World.cell?_of_block (a := ⟨bx, 0, none⟩) (sw1_block _ _ _ _ _ _ _ hbx hbl)).trans hK.1, hK.2.imp id fun ⟨b, off, e1, e2, e3⟩ => ⟨b, off, e1, e2, fun i hi => ⟨?_, (e3 i hi).2⟩⟩⟩
      exact (World.cell?_of_block (a := ⟨b, off + i, none⟩) (sw1_block _ _ _ _ _ _ _ (show b ≠ g by omega) (show b < w.heap.size by omega))).trans (e3 i hi).1
    refine (cmp_keys _ bx B ka kc ks hkb x.val y.val x.isLt y.isLt).mono ?_
    rintro e w' ⟨rfl, q, rfl⟩
    exact ⟨rfl, q, #[], by rw [Go.Sort.grow_empty]⟩
  have S := Any.slices_SortFunc Tryz.laysSlF6_f110 (fun x : Fin ks.length => Value.int .i64 (x.val : Int)) (fun _ => rfl) (fun x y => Lib.compareBytes (keyN ks x.val).data.toList (keyN ks y.val).data.toList) (swo_keys ks) 111 #[.pointer (some ⟨bx, 0, none⟩)] g 0 cap (Array.finRange ks.length) w (enters_of Tryz.func111 (by kernel_rfl) rfl) hcmp hH hgl (by omega)
  rw [hdl] at S
  refine Calls.mono (show Calls Tryz.prog 110 _ w _ from S) ?_
  rintro e w' ⟨rfl, d', m, os, hp, hs, rfl⟩
  have hsz' : d'.size = ks.length := hp.1.trans hdl
  have hperm : d'.toList.Perm (Array.finRange ks.length).toList := by
    have := hp.2.2
    have h1 : d'.extract 0 ks.length = d' := by
      have := Array.extract_size (xs := d')
      rwa [hsz'] at this
    have h2 : (Array.finRange ks.length).extract 0 ks.length = Array.finRange ks.length := by
      have := Array.extract_size (xs := Array.finRange ks.length)
      rwa [hdl] at this
    rw [h1, h2] at this
    exact this
  refine ⟨d'.toList.map Fin.val, rfl, ⟨?_, ?_⟩, fun j p hj => ?_, ?_⟩
  · refine (hperm.map _).trans ?_
    refine List.Perm.of_eq (List.ext_getElem (by simp) fun i h1 h2 => by simp)
  · rw [List.pairwise_iff_getElem]
    intro i j hi hj hij
    simp only [List.length_map, Array.length_toList] at hi hj
    have h1 := hs i j (Nat.zero_le _) hij (by omega)
    rw [getElem!_pos d' i hi, getElem!_pos d' j hj] at h1
    simp only [ltOf, decide_eq_false_iff_not] at h1
    simp only [List.getElem_map, Array.getElem_toList]
    have := cmpB_turn (keyN ks d'[i].val).data.toList (keyN ks d'[j].val).data.toList
    omega
  · rw [List.getElem?_map] at hj
    obtain ⟨x, hx, rfl⟩ := Option.map_eq_some_iff.1 hj
    have hjl : j < d'.size := by have := (List.getElem?_eq_some_iff.1 hx).1; simpa using this
    have h := sw1_cell (fun x : Fin ks.length => Value.int .i64 (x.val : Int)) w g 0 m (Array.finRange ks.length) d' os hH (by rw [hsz', hdl]) hgl hjl
    rw [Nat.zero_add] at h
    refine h.trans ?_
    have := (List.getElem?_eq_some_iff.1 hx).2
    simp only [Array.getElem_toList] at this
    show some (Value.int .i64 ((d'[j]!).val : Int)) = _
    rw [getElem!_pos d' j hjl, this]
  · exact ⟨rfl, rfl, rfl, sw1_size _ _ _ _ _ _ _, fun k hk => sw1_block _ _ _ _ _ _ _ (by omega) (by omega)⟩
end Go.Proofs.YtbpmhgcjefpigaaGreatDoor

namespace Go.Proofs.YtbpmhgcjefpigaaGreatDoor
open Go.RowKit Go.Shelf Go.WideShapes Go.Lib
set_option linter.unusedVariables false
set_option linter.unusedSimpArgs false
/-- The places that were numbered so far. -/
structure PlAt (g n j : Nat) (W wr : World) : Prop where
  below : Below g W wr
  size : wr.heap.size = W.heap.size
  done : ∀ o, o < j → wr.cell? ⟨g, o, none⟩ = some (.int .i64 (o : Int))
  room : ∀ o, o < n → (wr.cell? ⟨g, o, none⟩).isSome = true ∧ wr.frozen? ⟨g, o, none⟩ = false
theorem PlAt.step {g n j : Nat} {W wr : World} (h : PlAt g n j W wr) (hj : j < n) : PlAt g n (j + 1) W (wr.setCell ⟨g, j, none⟩ (.int .i64 (j : Int))) := by
  obtain ⟨u, hu⟩ := Option.isSome_iff_exists.1 (h.room j hj).1
  refine ⟨h.below.setCell (p := ⟨g, j, none⟩) (Nat.le_refl _) _, by simp [World.setCell, h.size], fun o ho => ?_, fun o ho => ⟨?_, ?_⟩⟩
  · by_cases e : o = j
    · subst e; exact World.cell?_setCell_same _ _ _ hu
    · rw [World.cell?_setCell_other _ _ _ _ (fun h => e (by simp only [Addr.mk.injEq] at h; omega))]
      exact h.done o (by omega)
  · by_cases e : o = j
    · subst e; rw [World.cell?_setCell_same _ _ _ hu]; rfl
    · rw [World.cell?_setCell_other _ _ _ _ (fun h => e (by simp only [Addr.mk.injEq] at h; omega))]
      exact (h.room o ho).1
  · rw [World.frozen?_setCell]; exact (h.room o ho).2
set_option maxRecDepth 100000 in
set_option maxHeartbeats 2000000 in
theorem bykeys_any (ks : List ByteArray) (B : Nat) (ka : Option Addr) (kc : Nat) (w : World) (hB : B ≤ w.heap.size) (hk : KeysLie B w ka ks) (h1 : ks.length ≤ kc) (hn : ks.length ≤ 1000) :
    Calls Tryz.prog 86 #[.slice ka ks.length kc] w fun e w' => ∃ ps : List Nat, e = .returned (.slice (some ⟨w.heap.size + 1, 0, none⟩) ks.length ks.length) ∧ Rising ks ps ∧ (∀ (j p : Nat), ps[j]? = some p → w'.cell? ⟨w.heap.size + 1, j, none⟩ = some (.int .i64 (p : Int))) ∧ w.heap.size + 1 < w'.heap.size ∧ Below w.heap.size w w' := by
  obtain ⟨i0, hi, hz0, hz1, hz2⟩ := info_parts Tryz.info3
  have hmk : ∀ W : World, (Instr.makeSlice 90 (.int .i64 (ks.length : Int)) (.int .i64 (ks.length : Int))).run Tryz.prog W = .ok (.slice (some ⟨W.heap.size, 0, none⟩) ks.length ks.length) (W.alloc (.cells (madeCells #[.int .i64 0] ks.length) 3)) := fun W => by
    have := run_makeSlice (P := Tryz.prog) W 90 3 i0 _ Tryz.underlying90 hi hz0 .i64 .i64 (ks.length : Int) (ks.length : Int) (by omega) (by omega) (by rw [hz1]; omega) (by rw [hz2]; omega) (by omega)
    simpa [hz1, Value.cells] using this
  obtain ⟨W1, hW1⟩ : ∃ W1, (w.alloc (.cells #[.slice ka ks.length kc] 23)).alloc (.cells (madeCells #[.int .i64 0] ks.length) 3) = W1 := ⟨_, rfl⟩
  have hs1 : W1.heap.size = w.heap.size + 1 + 1 := by rw [← hW1]; simp
  have hb1 : Below w.heap.size w W1 := by rw [← hW1]; exact ((Below.refl _ _).alloc (Nat.le_refl _) _).alloc (by simp) _
  have hbox : W1.cell? ⟨w.heap.size, 0, none⟩ = some (.slice ka ks.length kc) := by
    rw [← hW1, World.cell?_of_block (Below.heap_alloc _ _ _ (by simp))]
    exact cell_new _ _ _ 0 _ rfl
  have hnew : W1.heap[w.heap.size + 1]? = some (.cells (madeCells #[.int .i64 0] ks.length) 3 (0, 0)) := by
    have := World.alloc_heap_new (w.alloc (.cells #[.slice ka ks.length kc] 23)) (.cells (madeCells #[.int .i64 0] ks.length) 3)
    rw [World.size_alloc, hW1] at this
    exact this
  have HP : Hid (PlAt (w.heap.size + 1) ks.length 0 W1 W1) := by
    refine ⟨Below.refl _ _, rfl, fun o ho => by omega, fun o ho => ⟨?_, ?_⟩⟩
    · have hs : (madeCells #[.int .i64 0] ks.length).size = ks.length := size_madeCells _ _
      unfold World.cell?
      simp only [hnew]
      rw [if_neg (by simp), Array.getElem?_eq_getElem (by rw [hs]; exact ho)]
      rfl
    · unfold World.frozen?
      simp [hnew]
  have HX : Hid (∀ W, Below (w.heap.size + 1) W1 W → Below w.heap.size w W ∧ KeysBox W w.heap.size B ka kc ks) := fun W hb => by
    have hbw : Below w.heap.size w W := hb1.trans (hb.mono (by omega))
    exact ⟨hbw, (hb.cell (p := ⟨w.heap.size, 0, none⟩) (by show w.heap.size < _; omega)).trans hbox, hk.below (hbw.mono hB)⟩
  have HW1 := hidE hW1
  have HS1 := hidE hs1
  clear hW1 hb1 hnew hk hi hz0 hz1 hz2 hs1
  go_enter Tryz.func86, Tryz.ntmps86
  go_wp2_with fail
  rw [HW1.out]
  clear hmk hbox
  go_loopw [10] (fun i wr => ∃ j : Nat, j ≤ ks.length ∧ i = .int .i64 j ∧ PlAt (w.heap.size + 1) ks.length j W1 wr) (fun i _ => ks.length - (intOf i).toNat)
  case atStart => exact ⟨0, Nat.zero_le _, rfl, HP.out⟩
  case round =>
    obtain ⟨j, hj, rfl, hpl⟩ := hrel
    have HPL := hidE hpl
    clear hpl
    by_cases hlt : j < ks.length
    · obtain ⟨u, hu⟩ := Option.isSome_iff_exists.1 (HPL.out.room j hlt).1
      have hfz := (HPL.out.room j hlt).2
      have HNEW := hidE (HPL.out.step hlt)
      go_wp2_with fail
      go_roundw
      case rel => exact ⟨j + 1, by omega, by go_num, HNEW.out⟩
      case measure => simp [intOf]; omega
    · obtain rfl : j = ks.length := by omega
      have hsz := HPL.out.size
      rw [HS1.out] at hsz
      have HSO := hidE (sort_places (bx := w.heap.size) (g := w.heap.size + 1) (B := B) (w := wr) (cap := ks.length) (by omega) (by omega) (by omega) (by omega) (HX.out wr HPL.out.below).2 (fun o ho => ⟨HPL.out.done o ho, (HPL.out.room o ho).2⟩) hn)
      have HBR := hidE (And.intro (HX.out wr HPL.out.below).1 hsz)
      clear hsz
      go_wp2_with fail
      refine HSO.out.mono ?_
      rintro e w2 ⟨ps, rfl, hri, hcells, hb2⟩
      have H2 := hidE (And.intro hri (And.intro hcells hb2))
      clear hri hcells hb2 HSO
      go_wp2_with fail
      go_ret
      obtain ⟨hri, hcells, hb2⟩ := H2.out
      have hs2 := hb2.size
      have hs3 := HBR.out.2
      exact ⟨ps, rfl, hri, hcells, by omega, HBR.out.1.trans (hb2.mono (by omega))⟩
end Go.Proofs.YtbpmhgcjefpigaaGreatDoor

