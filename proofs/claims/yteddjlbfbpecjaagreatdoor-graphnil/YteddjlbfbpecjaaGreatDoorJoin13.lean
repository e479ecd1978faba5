/- Whatever order a region draws, where its last operation comes behind all others and calls a function that writes. The shelf's contracts at this dump: lists of numbers searched, and cut. -/
import Derived.Test.YteddjlbfbpecjaaGreatDoorJoin11
import Derived.Shelf.SlGeneric
import Derived.Ground.SlgnProg
import Derived.Shelf.SlicesG.Delete
import Derived.Shelf.SlicesG.SearchI
import Derived.Shelf.SlicesG.CompactI
import Derived.Test.YteddjlbfbpecjaaGreatDoorProg
namespace Go.Proofs.YteddjlbfbpecjaaGreatDoor
open Go.RowKit
set_option linter.unusedVariables false
variable {P : Program} {ops : Array Oper} {Q : Exit → Act → World → Prop}
theorem same_of_put {base a : Act} (h : Same ops base a) {k : Nat} (hk : k < ops.size) (v : Value) : Same ops base (a.put (slotOf ops k) v) := by
  obtain ⟨h1, h2, h3⟩ := h
  cases hs : slotOf ops k with
  | none => exact ⟨by simpa [Act.put] using h1, by simpa [Act.put] using h2, fun t ht => by simpa [Act.put] using h3 t ht⟩
  | some d => exact ⟨by simpa [Act.put] using h1, by simpa [Act.put] using h2, fun t ht => by
      have hne : d ≠ t := fun e => ht k hk (by rw [hs, e])
      simpa [Act.put, Array.getElem?_setIfInBounds_ne hne] using h3 t ht⟩
theorem facts_lastG {A : Nat → List Nat} {F : Nat → Value → World → Prop} {base : Act} {w0 : World} {id : Nat} (k : Nat) (hk : k + 1 = ops.size)
    (hm : P.follows .mixedOrders = true) (hok : writesOk ops base.tmps.size A = true) (hdst : ∀ i, i < k → ∃ d, slotOf ops i = some d) (hAk : ∀ i, i < k → i ∈ A k)
    (hmono : ∀ i v w w', F i v w → Below w.heap.size w w' → F i v w')
    (hop : ∀ i, i < k → ∀ a w, Same ops base a → Below w0.heap.size w0 w → (∀ j ∈ A i, F j (val ops a j) w) → Does P ops Q F i a w)
    (hlast : ∀ a w, Same ops base a → Below w0.heap.size w0 w → (∀ i, i < k → F i (val ops a i) w) → wpOp P ops Q k (fun a' w' => (∃ v, a' = a.put (slotOf ops k) v) ∧ Q .normal a' w') a w) :
    (Code.region id ops true).wp P Q base w0 := by
  refine writes_rule (A := A) (G := fun _ _ => True) (S := fun l vs w => (l k = false → Below w0.heap.size w0 w ∧ ∀ i, l i = true → i < ops.size → F i (vs i) w) ∧ (l k = true → ∀ b, Same ops base b → (∀ i, i < ops.size → val ops b i = vs i) → Q .normal b w)) hm hok ⟨fun _ => ⟨(Below.refl _ _).drew, fun i h => (by cases h)⟩, fun h => (by cases h)⟩ ?_ ?_
  · rintro i hi l a w hS hli hcl hA ⟨hF0, hK⟩
    have hlk : l k = false := by
      cases h : l k with
      | false => rfl
      | true =>
        by_cases e : i = k
        · rw [e, h] at hli; cases hli
        · have := hcl k h i (hAk i (by omega)); rw [hli] at this; cases this
    obtain ⟨hB, hF⟩ := hF0 hlk
    by_cases e : i = k
    · subst e
      refine wpOp_mono ?_ (hlast a w hS hB fun j hj => hF j (hA j (hAk j hj)).1 (by omega))
      rintro a' w' ⟨⟨v, rfl⟩, hq⟩
      refine ⟨v, rfl, trivial, fun h => ?_, fun _ b hSb hv => ?_⟩
      · rw [upd_same] at h; cases h
      · have : b = a.put (slotOf ops i) v := act_ext hSb (same_of_put hS hi v) fun j hj => by
          rw [hv j hj]
          by_cases ej : j = i
          · subst ej; rw [upd_same]
          · rw [upd_other _ _ ej]
            unfold val
            cases hsj : slotOf ops j with
            | none => rfl
            | some d =>
              cases hsi : slotOf ops i with
              | none => simp [Act.put]
              | some d' =>
                have hne : d' ≠ d := fun e => by
                  obtain ⟨o, _, hs, _, _, hb, _⟩ := laid_of hok i hi
                  obtain ⟨o', _, hs', _, _, hb', _⟩ := laid_of hok j hj
                  rcases Nat.lt_or_gt_of_ne ej with h | h
                  · exact hb j d' h (hs ▸ hsi) (by rw [hsj, e])
                  · exact hb' i d h (hs' ▸ hsj) (by rw [hsi, e])
                simp [Act.put, Act.eval, Array.getD_eq_getD_getElem?, Array.getElem?_setIfInBounds_ne hne]
        rw [this]; exact hq
    · have hik : i < k := by omega
      have hlt : ∀ j ∈ A i, j < ops.size := by
        have key : ∀ n i, i < n → i < ops.size → ∀ j ∈ A i, j < ops.size := by
          intro n
          induction n with
          | zero => intro i h; omega
          | succ n ih =>
            intro i h hi j hj
            obtain ⟨o, _, _, _, hlt, _, hAA⟩ := laid_of hok i hi
            obtain ⟨e, he, hb, hor⟩ := hAA j hj
            have h1 := hlt e he hb
            rcases hor with rfl | h2
            · omega
            · exact ih e.on (by omega) (by omega) j h2
        exact key (i + 1) i (by omega) hi
      refine wpOp_mono ?_ (hop i hik a w hS hB (fun j hj => hF j (hA j hj).1 (hlt j hj)))
      rintro a' w' ⟨v, rfl, hFi, hb⟩
      obtain ⟨d, hd⟩ := hdst i hik
      obtain ⟨o, ho, hs, hdn, _, _, _⟩ := laid_of hok i hi
      have hsz : d < a.tmps.size := by rw [hS.2.1]; exact hdn d (hs ▸ hd)
      have hv := val_put ho (hs ▸ hd : o.dst = some d) hsz v
      refine ⟨v, rfl, trivial, fun h => ⟨hB.trans (hb.mono hB.size), fun j hj hjs => ?_⟩, fun h => ?_⟩
      · by_cases ej : j = i
        · subst ej; rw [upd_same, hv]; exact hFi
        · rw [upd_other _ _ ej] at hj ⊢
          exact hmono _ _ _ _ (hF j hj hjs) hb
      · rw [upd_other _ _ (Ne.symm e), hlk] at h; cases h
  · rintro l a w hS hall ⟨hF, hK⟩
    exact hK (hall k (by omega)).1 a hS fun _ _ => rfl
/-- The last operation calls a function. -/
theorem last_call {k : Nat} {o : Oper} {a : Act} {w : World} {f : FuncId} {args : Array Value} (ho : ops[k]? = some o) (hw : Region.wanted o (yielded ops a.tmps) = true)
    (hr : (execOp a.eval o).run P w = .ok (.enter f args) w) (hc : Calls P f args w fun e w' => ∃ v, e = .returned v ∧ Q .normal (a.put (slotOf ops k) v) w') : wpOp P ops Q k (fun a' w' => (∃ v, a' = a.put (slotOf ops k) v) ∧ Q .normal a' w') a w := by
  unfold wpOp
  simp only [ho, hw, if_true]
  refine .inl ?_
  unfold Oper.wp
  rw [hr, Oper.upon_enter]
  refine hc.mono ?_
  rintro e w' ⟨v, rfl, hq⟩
  have hs : slotOf ops k = o.dst := by simp [slotOf, ho]
  rw [hs] at hq ⊢
  exact ⟨⟨v, rfl⟩, hq⟩
end Go.Proofs.YteddjlbfbpecjaaGreatDoor

namespace Go.Proofs
open Go.Shelf
def Tryz.laysDel_ren : Go.Shelf.Ren := ⟨fun | 45 => 180 | n => n, fun | 22 => 100 | 23 => 2 | 3 => 3 | 4 => 4 | 0 => 0 | n => n, fun | n => n⟩
theorem Tryz.laysDel : Go.Proofs.SlLaysN.n45 Tryz.prog Tryz.laysDel_ren := {
  mixed := by kernel_rfl
  f45 := ⟨Tryz.f180.name, by decide, Tryz.func180.trans (congrArg some (by kernel_rfl))⟩
  t0 := Tryz.underlying0
  a0 := Tryz.isAgg0
  z0 := Tryz.sizeOf0
  v0 := Tryz.zeroValue0
  t3 := Tryz.underlying3
  a3 := Tryz.isAgg3
  z3 := Tryz.sizeOf3
  v3 := Tryz.zeroValue3
  t4 := Tryz.underlying4
  a4 := Tryz.isAgg4
  z4 := Tryz.sizeOf4
  v4 := Tryz.zeroValue4
  t22 := Tryz.underlying100
  a22 := Tryz.isAgg100
  z22 := Tryz.sizeOf100
  v22 := Tryz.zeroValue100
  t23 := Tryz.underlying2
  a23 := Tryz.isAgg2
  z23 := Tryz.sizeOf2
  v23 := Tryz.zeroValue2
  i23 := by kernel_rfl }
def Tryz.laysFind_ren : Go.Shelf.Ren := ⟨fun | 49 => 179 | 59 => 199 | 60 => 220 | 68 => 235 | n => n, fun | 22 => 100 | 23 => 2 | 3 => 3 | 4 => 4 | 51 => 200 | 0 => 0 | n => n, fun | n => n⟩
theorem Tryz.laysFind : Go.Proofs.SlLaysN.n49 Tryz.prog Tryz.laysFind_ren := {
  mixed := by kernel_rfl
  f49 := ⟨Tryz.f179.name, by decide, Tryz.func179.trans (congrArg some (by kernel_rfl))⟩
  f59 := ⟨Tryz.f199.name, by decide, Tryz.func199.trans (congrArg some (by kernel_rfl))⟩
  f60 := ⟨Tryz.f220.name, by decide, Tryz.func220.trans (congrArg some (by kernel_rfl))⟩
  f68 := ⟨Tryz.f235.name, by decide, Tryz.func235.trans (congrArg some (by kernel_rfl))⟩
  t0 := Tryz.underlying0
  a0 := Tryz.isAgg0
  z0 := Tryz.sizeOf0
  v0 := Tryz.zeroValue0
  t3 := Tryz.underlying3
  a3 := Tryz.isAgg3
  z3 := Tryz.sizeOf3
  v3 := Tryz.zeroValue3
  t4 := Tryz.underlying4
  a4 := Tryz.isAgg4
  z4 := Tryz.sizeOf4
  v4 := Tryz.zeroValue4
  t22 := Tryz.underlying100
  a22 := Tryz.isAgg100
  z22 := Tryz.sizeOf100
  v22 := Tryz.zeroValue100
  t23 := Tryz.underlying2
  a23 := Tryz.isAgg2
  z23 := Tryz.sizeOf2
  v23 := Tryz.zeroValue2
  t51 := Tryz.underlying200
  a51 := Tryz.isAgg200
  z51 := Tryz.sizeOf200
  v51 := Tryz.zeroValue200 }
def Tryz.laysOnce_ren : Go.Shelf.Ren := ⟨fun | 43 => 128 | n => n, fun | 22 => 100 | 23 => 2 | 3 => 3 | 4 => 4 | 0 => 0 | n => n, fun | n => n⟩
theorem Tryz.laysOnce : Go.Proofs.SlLaysN.n43 Tryz.prog Tryz.laysOnce_ren := {
  mixed := by kernel_rfl
  f43 := ⟨Tryz.f128.name, by decide, Tryz.func128.trans (congrArg some (by kernel_rfl))⟩
  t0 := Tryz.underlying0
  a0 := Tryz.isAgg0
  z0 := Tryz.sizeOf0
  v0 := Tryz.zeroValue0
  t3 := Tryz.underlying3
  a3 := Tryz.isAgg3
  z3 := Tryz.sizeOf3
  v3 := Tryz.zeroValue3
  t4 := Tryz.underlying4
  a4 := Tryz.isAgg4
  z4 := Tryz.sizeOf4
  v4 := Tryz.zeroValue4
  t22 := Tryz.underlying100
  a22 := Tryz.isAgg100
  z22 := Tryz.sizeOf100
  v22 := Tryz.zeroValue100
  t23 := Tryz.underlying2
  a23 := Tryz.isAgg2
  z23 := Tryz.sizeOf2
  v23 := Tryz.zeroValue2
  i23 := by kernel_rfl }
open Go.Sort Go.RowKit in
theorem Tryz.slices_Delete_int (blk off cap i j : Nat) (zs : List Int) (w : World) (hH : Holds (Value.int .i64) w blk off zs.toArray) (hcap : zs.length ≤ cap) (hm : cap ≤ 9223372036854775807) (hij : i ≤ j) (hj : j ≤ zs.length) :
    Calls Tryz.prog 180 #[.slice (some ⟨blk, off, none⟩) zs.length cap, .int .i64 i, .int .i64 j] w fun e w' => e = .returned (.slice (some ⟨blk, off, none⟩) (zs.length - (j - i)) cap) ∧ ∃ q, w' = putRow (Value.int .i64) (Sort.ahead w q) blk off (zs.take i ++ zs.drop j ++ List.replicate (j - i) 0).toArray := AnyG.slices_Delete_int Tryz.laysDel blk off cap i j zs w hH hcap hm hij hj
open Go.Sort Go.RowKit in
theorem Tryz.slices_BinarySearch_int (b off n c : Nat) (zs : List Int) (x : Int) (w : World) (hz : n ≤ zs.length) (hbig : n < 4611686018427387904) (hc : ∀ j, j < zs.length → w.cell? ⟨b, off + j, none⟩ = some (.int .i64 (zs.getD j 0))) (hs : (zs.take n).Pairwise (· ≤ ·)) :
    Calls Tryz.prog 179 #[.slice (some ⟨b, off, none⟩) n c, .int .i64 x] w fun e w' => e = .returned (.tuple #[.int .i64 ((zs.take n).countP (· < x) : Nat), .bool ((zs.take n).contains x)]) ∧ ∃ q, w' = w.drewN q := AnyG.slices_BinarySearch_int Tryz.laysFind b off n c zs x w hz hbig hc hs
end Go.Proofs

