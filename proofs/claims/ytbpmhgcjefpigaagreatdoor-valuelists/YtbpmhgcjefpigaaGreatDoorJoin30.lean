/- What the rows' list gives (the tables lie in the world), and a world for the witness. The numbers of a value that is handed in are numbers of 64 bits. The numbers of the values of a list that is handed in are numbers of 64 bits. -/
import Derived.Test.YtbpmhgcjefpigaaGreatDoorJoin3
import Derived.Test.YtbpmhgcjefpigaaGreatDoorCards
import Derived.Test.YtbpmhgcjefpigaaGreatDoorTie
import Derived.Lib.LaidIn
import Derived.Lib.LaidU8T
import Derived.Lib.LaidTab
import Derived.Lib.AppendIntMem
import Derived.Deep.DeepHandedRow
import Derived.Deep.DeepWitnessRowRef
import Derived.PinnedBridge
import Derived.ProofKit
import Derived.OpenShut
import Derived.SizedLaws
import Derived.Test.YtbpmhgcjefpigaaGreatDoorOpens
import Derived.Test.YtbpmhgcjefpigaaGreatDoorJoin19
import Derived.HandedShaped
import Derived.Shelf.Vars
namespace Go.Proofs.YtbpmhgcjefpigaaGreatDoor
open Go.ChangeShapes Go.WideShapes Go.ChangeAt Go.RowKit Go.Shelf
set_option linter.unusedVariables false
theorem own : ownKnob Tryz.prog.godebug = none := by kernel_rfl
theorem laidOut : laidOutB Tryz.prog = true := by kernel_rfl
theorem accept_eq : (Rows.laid_unicode_utf8_acceptRanges : DataW Unit) = Lib.acceptData := by kernel_rfl
theorem first_eq : Rows.laid_unicode_utf8_first = Lib.firstData := Pinned.utf8First_eq
theorem pow10_eq : (Rows.laid_internal_strconv_uint64pow10 : DataW Unit) = Lib.tabData .u64 Lib.pow10Tab := by kernel_rfl
abbrev laidList : List (String × DataW Unit) := [("math/bits.deBruijn32tab", Rows.laid_math_bits_deBruijn32tab), ("math/bits.deBruijn64tab", Rows.laid_math_bits_deBruijn64tab), ("internal/strconv.uint64pow10", Rows.laid_internal_strconv_uint64pow10), ("unicode/utf8.acceptRanges", Rows.laid_unicode_utf8_acceptRanges), ("unicode/utf8.first", Rows.laid_unicode_utf8_first)]
theorem tabs_of_laid {W : World} (h : laidMet Tryz.prog laidList W) : Tabs W :=
 utf8Tabs_of_readsT (U8Types.of196 Tryz.laysValid) ⟨by kernel_rfl, by kernel_rfl, by kernel_rfl, by kernel_rfl, by kernel_rfl, by kernel_rfl, by kernel_rfl⟩
  (first_eq ▸ Lib.laidMet.reads h (.tail _ (.tail _ (.tail _ (.tail _ (.head _)))))) (accept_eq ▸ Lib.laidMet.reads h (.tail _ (.tail _ (.tail _ (.head _)))))
theorem gPow : Tryz.prog.globalNamed "internal/strconv.uint64pow10" = some 3 := by kernel_rfl
theorem g32 : Tryz.prog.globalNamed "math/bits.deBruijn32tab" = some 4 := by kernel_rfl
theorem pow_of_laid {W : World} (h : laidMet Tryz.prog laidList W) : Lib.TabIs Tryz.prog W "internal/strconv.uint64pow10" .u64 Lib.pow10Tab := by
 obtain ⟨g, t, cs, fuel, p, h1, h2, h3, h4⟩ : Lib.VarReads Tryz.prog W "internal/strconv.uint64pow10" (Lib.tabData .u64 Lib.pow10Tab) := pow10_eq ▸ Lib.laidMet.reads h (.tail _ (.tail _ (.head _)))
 obtain rfl := Option.some.inj (gPow.symm.trans h1)
 obtain rfl := Option.some.inj ((show (Tryz.prog.globals[3]?).map (·.type) = some 149 by kernel_rfl).symm.trans h2)
 unfold Lib.TabIs
 rw [h3, ← Lib.cells_of_tab Tryz.underlying149 Tryz.underlying119 (by kernel_rfl) (by kernel_rfl) h4]
def cellsOfData : DataW Unit → Array Value
 | .agg l => (l.map fun d => match d with | .lit (.int k z) => Value.int k z | _ => undef).toArray
 | _ => #[]
noncomputable def laidWorld (os : Os) : World :=
 let w0 := World.holding Tryz.prog os ⟨#[], #[], []⟩
 let put (h : Array Obj) (g : Nat) (cs : Array Value) : Array Obj := h.modify g fun
  | .cells _ t frozen => .cells cs t frozen
  | o => o
 let h1 := put w0.heap 0 (Lib.firstTab.map fun z => Value.int .u8 z).toArray
 let h2 := put h1 1 ((List.range 16).flatMap fun i => [Value.int .u8 (Lib.accLo i), Value.int .u8 (Lib.accHi i)]).toArray
 let h3 := put h2 3 (Lib.pow10Tab.map fun z => Value.int .u64 z).toArray
 let h4 := put h3 4 (cellsOfData Rows.laid_math_bits_deBruijn32tab)
 let h5 := put h4 5 (cellsOfData Rows.laid_math_bits_deBruijn64tab)
 { w0 with heap := h5 }
theorem laid_met (os : Os) (args : Array Value) : laidMet Tryz.prog laidList ((laidWorld os).forCall (fun _ _ => 0) ⟨#[], args, []⟩).memory :=
 (LaidIn.of_run (l := laidList) [4, 5, 3, 1, 0] 8 (by kernel_rfl) (by kernel_rfl) (by kernel_rfl) (by kernel_rfl)).met
end Go.Proofs.YtbpmhgcjefpigaaGreatDoor

namespace Go.Proofs.YtbpmhgcjefpigaaGreatDoor
open Go.ChangeShapes Go.WideShapes Go.ChangeAt Go.RowKit Go.Shelf Go.Deep
set_option linter.unusedVariables false
section
variable {H : Type} {enc : TypeId × Value → H} {W : World}
theorem rangedL_of : ∀ (l : List Tree), (∀ (i : Nat) (t : Tree), l[i]? = some t → Ranged t) → RangedL l
 | [], _ => by simp only [RangedL]
 | t :: l, h => by
  rw [RangedL]
  exact ⟨h 0 t rfl, rangedL_of l fun i u hu => h (i + 1) u (by simpa using hu)⟩
set_option maxRecDepth 100000 in
theorem ranged_open : ∀ (fuel : Nat) (cs : List Value) (d : DataW H) (p : List MemPlace), DataW.trod enc Tryz.prog W 0 (fun _ => true) true fuel 26 cs = some (d, p) → ∀ (B : Nat) (T : Tree), Lies B W (.agg cs.toArray) T → Ranged T := by
 intro fuel
 induction fuel using Nat.strongRecOn with
 | _ fuel ih =>
  intro cs d p h B T hl
  obtain ⟨xs, n, hfu, hx, hlc, hlen, hf⟩ := DataW.trod_struct Tryz.underlying26 h
  rw [cells26] at hlc
  match cs, hlc with
  | [v0, v1, v2, v3, v4, v5], _ =>
   match xs, hlen with
   | [y0, y1, y2, y3, y4, y5], _ =>
    have f2 : DataW.trod enc Tryz.prog W 0 (fun _ => true) true n 2 [v2] = some y2 := by simpa [cells2] using hf 2 { name := "Int", type := 2, offset := 2, embedded := false, tag := "", pkgPath := "", byteOffset := 16 } rfl
    have f5 : DataW.trod enc Tryz.prog W 0 (fun _ => true) true n 24 [v5] = some y5 := by simpa [cells24] using hf 5 { name := "List", type := 24, offset := 5, embedded := false, tag := "", pkgPath := "", byteOffset := 64 } rfl
    obtain ⟨k, b, nn, s, ks, ts⟩ := T
    simp only [Lies] at hl
    obtain ⟨ka, kc, la, lc, he, _, _, ht⟩ := hl
    simp only [Value.agg.injEq, ← Array.toList_inj, List.cons.injEq, and_true] at he
    obtain ⟨rfl, rfl, rfl, rfl, rfl, rfl⟩ := he
    obtain ⟨m, e2, _, wf⟩ := DataW.trod_int Tryz.underlying2 f2
    simp only [List.cons.injEq, and_true, Value.int.injEq, true_and] at e2
    subst e2
    simp only [Ranged]
    refine ⟨?_, rangedL_of _ fun i t hit => ?_⟩
    ·have hm : IntKind.i64.min ≤ nn ∧ nn ≤ IntKind.i64.max := by simpa [Lit.wf] using wf
     rw [show IntKind.i64.min = -9223372036854775808 by decide, show IntKind.i64.max = 9223372036854775807 by decide] at hm
     exact hm
    ·have hi : i < ts.length := (List.getElem?_eq_some_iff.1 hit).1
     obtain ⟨bl, off, rfl, hbl, hkl⟩ := ht.resolve_left (by intro e; rw [e] at hi; simp at hi)
     obtain ⟨p0, p1, p2, p3, p4, p5⟩ := t
     obtain ⟨ja, jc, jl, jd, ⟨c0, c1, c2, c3, c4, c5⟩, hlx⟩ := hkl.cells hit
     rcases DataW.trod_slice Tryz.underlying24 f5 with ⟨e, _⟩ | ⟨a, len, cap, elems, rest, n', hfu', e, hx', _, hl', hm', hlen', hel, _, _⟩
     ·simp at e
     ·simp only [List.cons.injEq, and_true, Value.slice.injEq, Option.some.injEq] at e
      obtain ⟨rfl, rfl, rfl⟩ := e
      have key := hel i hi
      rw [cells26, List.getElem?_eq_getElem (by omega)] at key
      obtain ⟨cs', h1, h2⟩ := Option.bind_eq_some_iff.1 key
      obtain ⟨_, hl6, hcell⟩ := World.cells?_some h1
      match cs', hl6 with
      | [u0, u1, u2, u3, u4, u5], _ =>
       have g0 := hcell 0 (by omega)
       have g1 := hcell 1 (by omega)
       have g2 := hcell 2 (by omega)
       have g3 := hcell 3 (by omega)
       have g4 := hcell 4 (by omega)
       have g5 := hcell 5 (by omega)
       rw [add_plain, add_plain] at g0 g1 g2 g3 g4 g5
       have q0 := Option.some.inj (g0.symm.trans c0)
       have q1 := Option.some.inj (g1.symm.trans c1)
       have q2 := Option.some.inj (g2.symm.trans c2)
       have q3 := Option.some.inj (g3.symm.trans c3)
       have q4 := Option.some.inj (g4.symm.trans c4)
       have q5 := Option.some.inj (g5.symm.trans c5)
       replace q0 : u0 = _ := q0
       replace q1 : u1 = _ := q1
       replace q2 : u2 = _ := q2
       replace q3 : u3 = _ := q3
       replace q4 : u4 = _ := q4
       replace q5 : u5 = _ := q5
       subst q0 q1 q2 q3 q4 q5
       exact ih n' (by omega) _ _ _ h2 B _ hlx
end
theorem ml_of_shaped {W : World} (h : W.ShapedOpen Tryz.prog) : ML W :=
 cell_of_shapedOpen_int (P := Tryz.prog) (g := 2) (t := 3) (zero := #[.int .i64 0]) h (of_decide_eq_true (by kernel_rfl)) (by kernel_rfl) rfl (by kernel_rfl) (by kernel_rfl) Tryz.underlying3
theorem ML.low {W : World} (h : ML W) : 2 < W.heap.size := by
 obtain ⟨m, hm⟩ := h
 exact lt_of_cell hm
end Go.Proofs.YtbpmhgcjefpigaaGreatDoor

namespace Go.Proofs.YtbpmhgcjefpigaaGreatDoor
open Go.ChangeShapes Go.WideShapes Go.ChangeAt Go.RowKit Go.Shelf Go.Deep
set_option linter.unusedVariables false
section
variable {H : Type} {enc : TypeId × Value → H} {W : World}
set_option maxRecDepth 100000 in
theorem ranged_list {fuel : Nat} {la : Option Addr} {lc : Nat} {ts : List Tree} {d : DataW H} {p : List MemPlace} (h : DataW.trod enc Tryz.prog W 0 (fun _ => true) true fuel 24 [.slice la ts.length lc] = some (d, p)) {B : Nat} (ht : ListLies B W la ts) : ∀ t ∈ ts, Ranged t := by
 intro t hmem
 obtain ⟨i, hit⟩ := List.mem_iff_getElem?.1 hmem
 have hi : i < ts.length := (List.getElem?_eq_some_iff.1 hit).1
 obtain ⟨bl, off, rfl, hbl, hkl⟩ := ht.resolve_left (by intro e; rw [e] at hi; simp at hi)
 obtain ⟨p0, p1, p2, p3, p4, p5⟩ := t
 obtain ⟨ja, jc, jl, jd, ⟨c0, c1, c2, c3, c4, c5⟩, hlx⟩ := hkl.cells hit
 rcases DataW.trod_slice Tryz.underlying24 h with ⟨e, _⟩ | ⟨a, len, cap, elems, rest, n', hfu', e, hx', _, hl', hm', hlen', hel, _, _⟩
 ·simp at e
 ·simp only [List.cons.injEq, and_true, Value.slice.injEq, Option.some.injEq] at e
  obtain ⟨rfl, rfl, rfl⟩ := e
  have key := hel i hi
  rw [cells26, List.getElem?_eq_getElem (by omega)] at key
  obtain ⟨cs', h1, h2⟩ := Option.bind_eq_some_iff.1 key
  obtain ⟨_, hl6, hcell⟩ := World.cells?_some h1
  match cs', hl6 with
  | [u0, u1, u2, u3, u4, u5], _ =>
   have g0 := hcell 0 (by omega)
   have g1 := hcell 1 (by omega)
   have g2 := hcell 2 (by omega)
   have g3 := hcell 3 (by omega)
   have g4 := hcell 4 (by omega)
   have g5 := hcell 5 (by omega)
   rw [add_plain, add_plain] at g0 g1 g2 g3 g4 g5
   have q0 := Option.some.inj (g0.symm.trans c0)
   have q1 := Option.some.inj (g1.symm.trans c1)
   have q2 := Option.some.inj (g2.symm.trans c2)
   have q3 := Option.some.inj (g3.symm.trans c3)
   have q4 := Option.some.inj (g4.symm.trans c4)
   have q5 := Option.some.inj (g5.symm.trans c5)
   replace q0 : u0 = _ := q0
   replace q1 : u1 = _ := q1
   replace q2 : u2 = _ := q2
   replace q3 : u3 = _ := q3
   replace q4 : u4 = _ := q4
   replace q5 : u5 = _ := q5
   subst q0 q1 q2 q3 q4 q5
   exact ranged_open n' _ _ _ h2 B _ hlx
end
end Go.Proofs.YtbpmhgcjefpigaaGreatDoor

