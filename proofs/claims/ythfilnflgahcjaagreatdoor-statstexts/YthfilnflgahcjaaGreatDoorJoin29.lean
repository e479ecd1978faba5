/- The sort of counts' rows, at most twelve of them (121). The sort of counts' rows, at most twelve of them (123). -/
import Derived.Test.YthfilnflgahcjaaGreatDoorJoin28
import Derived.Test.YthfilnflgahcjaaGreatDoorShelf3
namespace Go.Proofs
open Go.Shelf
def Tryz.laysIns84_ren : Go.Shelf.Ren := ⟨fun | 20 => 171 | n => n, fun | 22 => 28 | 24 => 42 | 25 => 138 | n => n, fun | n => n⟩
theorem Tryz.laysIns84 : Go.Proofs.SlLaysF0.n20 Tryz.prog Tryz.laysIns84_ren := {
  mixed := by kernel_rfl
  f20 := ⟨Tryz.f171.name, by decide, Tryz.func171.trans (congrArg some (by kernel_rfl))⟩
  t0 := Tryz.underlying0
  a0 := Tryz.isAgg0
  z0 := Tryz.sizeOf0
  v0 := Tryz.zeroValue0
  t3 := Tryz.underlying3
  a3 := Tryz.isAgg3
  z3 := Tryz.sizeOf3
  v3 := Tryz.zeroValue3
  t4 := Tryz.underlying4
  a4 := Tryz.isAgg4
  z4 := Tryz.sizeOf4
  v4 := Tryz.zeroValue4
  t22 := Tryz.underlying28
  a22 := Tryz.isAgg28
  z22 := Tryz.sizeOf28
  v22 := Tryz.zeroValue28
  t25 := Tryz.underlying138
  a25 := Tryz.isAgg138
  z25 := Tryz.sizeOf138
  v25 := Tryz.zeroValue138 }
end Go.Proofs
namespace Go.Proofs.YthfilnflgahcjaaGreatDoor
open Go.RowKit Go.Shelf Go.Sort
set_option linter.unusedVariables false
set_option linter.unusedSimpArgs false
attribute [local go_sem] Oper.semAt_some
theorem len84 (x : ByteArray × Int) : (labC x).length = 2 := rfl
theorem cell84 (x : ByteArray × Int) : ∀ v ∈ labC x, v.oneCell' = true := by
  intro v hv
  simp only [labC, List.mem_cons, List.not_mem_nil, or_false] at hv
  rcases hv with rfl | rfl <;> rfl
set_option maxRecDepth 100000 in
set_option maxHeartbeats 4000000 in
theorem pdq84_small (v f : Value) (n : Nat) (hn' : (n : Int) ≤ 12) (l : Int) (w : World) (Q : World → Prop) (h : Calls Tryz.prog 171 #[v, .int .i64 0, .int .i64 n, f] w fun e w' => e = .returned (.tuple #[]) ∧ Q w') : Calls Tryz.prog 146 #[v, .int .i64 0, .int .i64 n, .int .i64 l, f] w fun e w' => e = .returned (.tuple #[]) ∧ Q w' := by
  have hsub : ∀ W : World, (binOp .sub 3 (.int .i64 (n : Int)) (.int .i64 0)).run Tryz.prog W = .ok (.int .i64 (n : Int)) W := fun W => by
    have hw : IntKind.i64.wrap (n : Int) = n := by rw [IntKind.wrap_i64]; omega
    simp [binOp, go_sem, hw]
  have HC := hidE h
  clear h
  go_enter Tryz.func146, Tryz.ntmps146
  go_wp2_with fail
  go_loopw [1, 2] (fun i j wr => i = .int .i64 0 ∧ j = .int .i64 (n : Int) ∧ wr = w) (fun _ _ _ => 0)
  case atStart => exact ⟨rfl, rfl, rfl⟩
  case round =>
    obtain ⟨rfl, rfl, hwr⟩ := hrel
    rw [hwr]
    clear hwr
    go_wp2_with fail
    refine HC.out.mono ?_
    rintro e w2 ⟨rfl, hq⟩
    have HQ := hidE hq
    clear hq
    go_wp2_with fail
    exact bodyPost_ret (v := .tuple #[]) (by simp [results, Tryz.results146, go_sem]) rfl ⟨rfl, HQ.out⟩
set_option maxRecDepth 100000 in
set_option maxHeartbeats 4000000 in
theorem sort84_small (a : Option Addr) (n c : Nat) (f : Value) (hn : n ≤ 12) (w : World) (Q : World → Prop) (h : Calls Tryz.prog 171 #[.slice a n c, .int .i64 0, .int .i64 n, f] w fun e w' => e = .returned (.tuple #[]) ∧ Q w') : Calls Tryz.prog 121 #[.slice a n c, f] w fun e w' => e = .returned (.tuple #[]) ∧ Q w' := by
  have HL := hidE (Tryz.bits_Len (n : Int) w (by omega) (by omega))
  have HC := hidE (fun l => pdq84_small (.slice a n c) f n (by omega) l w Q h)
  generalize (Lib.bitLen (n : Int).toNat : Int) = l at HL
  have hw : IntKind.u64.wrap (n : Int) = n := by rw [IntKind.wrap_u64]; omega
  clear hn h
  go_enter Tryz.func121, Tryz.ntmps121
  go_wp2_with fail
  refine HL.out.mono ?_
  rintro e w2 ⟨rfl, hw2⟩
  rw [hw2]
  clear hw2
  go_wp2_with fail
  refine (HC.out _).mono ?_
  rintro e w3 ⟨rfl, hq⟩
  have HQ := hidE hq
  clear hq
  go_wp2_with fail
  exact bodyPost_end (v := .tuple #[]) (by simp [results, Tryz.results121, go_sem]) rfl ⟨rfl, HQ.out⟩
set_option maxRecDepth 100000 in
set_option maxHeartbeats 4000000 in
theorem ins84_none (f : Value) (w : World) : Calls Tryz.prog 171 #[.slice none 0 0, .int .i64 0, .int .i64 (0 : Nat), f] w fun e w' => e = .returned (.tuple #[]) ∧ w' = w := by
  go_enter Tryz.func171, Tryz.ntmps171
  go_wp2_with fail
  go_loopw [8] (fun i wr => i = .int .i64 1 ∧ wr = w) (fun _ _ => 0)
  case atStart => exact ⟨rfl, rfl⟩
  case round =>
    obtain ⟨rfl, rfl⟩ := hrel
    go_wp2_with fail
    exact bodyPost_end (v := .tuple #[]) (by simp [results, Tryz.results171, go_sem]) rfl ⟨rfl, rfl⟩
theorem sort84_any : ∀ (W : World) (v : Value) (base : Nat) (xs : List (ByteArray × Int)), base ≤ W.heap.size → xs.length ≤ 12 → ORow 42 2 labC base W v xs → Calls Tryz.prog 121 #[v, .func (.func 85) #[] #[]] W fun e w' => e = .returned (.tuple #[]) ∧ ∃ ys, ys.Perm xs ∧ ys.Pairwise (fun a b => ¬ cfL b a < 0) ∧ ORow 42 2 labC base w' v ys ∧ Below base W w' :=
  fun W v base xs hB hl h => sorts_small (fun x => len84 x) cfL swoL 121 (.func (.func 85) #[] #[]) (fun W => sort84_small none 0 0 _ (by omega) W _ (ins84_none _ W)) (fun W g cap d hH hd hg => sort84_small _ _ _ _ hd W _ (AnyQ.insertionSortCmpFunc Tryz.laysIns84 2 (fun w => Tryz.isAgg42 w) (fun w => Tryz.sizeOf42 w) labC len84 cell84 cfL 85 #[] g 0 cap 0 d.size d W (fun args w => enters_of Tryz.func85 (by kernel_rfl) rfl args w) (fun m os dk _ x y => cmp85_any x y _) hH hg (Nat.zero_le _) (Nat.le_refl _) (by omega))) W v base xs hB hl h
end Go.Proofs.YthfilnflgahcjaaGreatDoor

namespace Go.Proofs
open Go.Shelf
def Tryz.laysIns88_ren : Go.Shelf.Ren := ⟨fun | 20 => 181 | n => n, fun | 22 => 29 | 24 => 62 | 25 => 142 | n => n, fun | n => n⟩
theorem Tryz.laysIns88 : Go.Proofs.SlLaysF0.n20 Tryz.prog Tryz.laysIns88_ren := {
  mixed := by kernel_rfl
  f20 := ⟨Tryz.f181.name, by decide, Tryz.func181.trans (congrArg some (by kernel_rfl))⟩
  t0 := Tryz.underlying0
  a0 := Tryz.isAgg0
  z0 := Tryz.sizeOf0
  v0 := Tryz.zeroValue0
  t3 := Tryz.underlying3
  a3 := Tryz.isAgg3
  z3 := Tryz.sizeOf3
  v3 := Tryz.zeroValue3
  t4 := Tryz.underlying4
  a4 := Tryz.isAgg4
  z4 := Tryz.sizeOf4
  v4 := Tryz.zeroValue4
  t22 := Tryz.underlying29
  a22 := Tryz.isAgg29
  z22 := Tryz.sizeOf29
  v22 := Tryz.zeroValue29
  t25 := Tryz.underlying142
  a25 := Tryz.isAgg142
  z25 := Tryz.sizeOf142
  v25 := Tryz.zeroValue142 }
end Go.Proofs
namespace Go.Proofs.YthfilnflgahcjaaGreatDoor
open Go.RowKit Go.Shelf Go.Sort
set_option linter.unusedVariables false
set_option linter.unusedSimpArgs false
attribute [local go_sem] Oper.semAt_some
theorem len88 (x : ByteArray × Int) : (labC x).length = 2 := rfl
theorem cell88 (x : ByteArray × Int) : ∀ v ∈ labC x, v.oneCell' = true := by
  intro v hv
  simp only [labC, List.mem_cons, List.not_mem_nil, or_false] at hv
  rcases hv with rfl | rfl <;> rfl
set_option maxRecDepth 100000 in
set_option maxHeartbeats 4000000 in
theorem pdq88_small (v f : Value) (n : Nat) (hn' : (n : Int) ≤ 12) (l : Int) (w : World) (Q : World → Prop) (h : Calls Tryz.prog 181 #[v, .int .i64 0, .int .i64 n, f] w fun e w' => e = .returned (.tuple #[]) ∧ Q w') : Calls Tryz.prog 149 #[v, .int .i64 0, .int .i64 n, .int .i64 l, f] w fun e w' => e = .returned (.tuple #[]) ∧ Q w' := by
  have hsub : ∀ W : World, (binOp .sub 3 (.int .i64 (n : Int)) (.int .i64 0)).run Tryz.prog W = .ok (.int .i64 (n : Int)) W := fun W => by
    have hw : IntKind.i64.wrap (n : Int) = n := by rw [IntKind.wrap_i64]; omega
    simp [binOp, go_sem, hw]
  have HC := hidE h
  clear h
  go_enter Tryz.func149, Tryz.ntmps149
  go_wp2_with fail
  go_loopw [1, 2] (fun i j wr => i = .int .i64 0 ∧ j = .int .i64 (n : Int) ∧ wr = w) (fun _ _ _ => 0)
  case atStart => exact ⟨rfl, rfl, rfl⟩
  case round =>
    obtain ⟨rfl, rfl, hwr⟩ := hrel
    rw [hwr]
    clear hwr
    go_wp2_with fail
    refine HC.out.mono ?_
    rintro e w2 ⟨rfl, hq⟩
    have HQ := hidE hq
    clear hq
    go_wp2_with fail
    exact bodyPost_ret (v := .tuple #[]) (by simp [results, Tryz.results149, go_sem]) rfl ⟨rfl, HQ.out⟩
set_option maxRecDepth 100000 in
set_option maxHeartbeats 4000000 in
theorem sort88_small (a : Option Addr) (n c : Nat) (f : Value) (hn : n ≤ 12) (w : World) (Q : World → Prop) (h : Calls Tryz.prog 181 #[.slice a n c, .int .i64 0, .int .i64 n, f] w fun e w' => e = .returned (.tuple #[]) ∧ Q w') : Calls Tryz.prog 123 #[.slice a n c, f] w fun e w' => e = .returned (.tuple #[]) ∧ Q w' := by
  have HL := hidE (Tryz.bits_Len (n : Int) w (by omega) (by omega))
  have HC := hidE (fun l => pdq88_small (.slice a n c) f n (by omega) l w Q h)
  generalize (Lib.bitLen (n : Int).toNat : Int) = l at HL
  have hw : IntKind.u64.wrap (n : Int) = n := by rw [IntKind.wrap_u64]; omega
  clear hn h
  go_enter Tryz.func123, Tryz.ntmps123
  go_wp2_with fail
  refine HL.out.mono ?_
  rintro e w2 ⟨rfl, hw2⟩
  rw [hw2]
  clear hw2
  go_wp2_with fail
  refine (HC.out _).mono ?_
  rintro e w3 ⟨rfl, hq⟩
  have HQ := hidE hq
  clear hq
  go_wp2_with fail
  exact bodyPost_end (v := .tuple #[]) (by simp [results, Tryz.results123, go_sem]) rfl ⟨rfl, HQ.out⟩
set_option maxRecDepth 100000 in
set_option maxHeartbeats 4000000 in
theorem ins88_none (f : Value) (w : World) : Calls Tryz.prog 181 #[.slice none 0 0, .int .i64 0, .int .i64 (0 : Nat), f] w fun e w' => e = .returned (.tuple #[]) ∧ w' = w := by
  go_enter Tryz.func181, Tryz.ntmps181
  go_wp2_with fail
  go_loopw [8] (fun i wr => i = .int .i64 1 ∧ wr = w) (fun _ _ => 0)
  case atStart => exact ⟨rfl, rfl⟩
  case round =>
    obtain ⟨rfl, rfl⟩ := hrel
    go_wp2_with fail
    exact bodyPost_end (v := .tuple #[]) (by simp [results, Tryz.results181, go_sem]) rfl ⟨rfl, rfl⟩
theorem sort88_any : ∀ (W : World) (v : Value) (base : Nat) (xs : List (ByteArray × Int)), base ≤ W.heap.size → xs.length ≤ 12 → ORow 62 2 labC base W v xs → Calls Tryz.prog 123 #[v, .func (.func 89) #[] #[]] W fun e w' => e = .returned (.tuple #[]) ∧ ∃ ys, ys.Perm xs ∧ ys.Pairwise (fun a b => ¬ cfL b a < 0) ∧ ORow 62 2 labC base w' v ys ∧ Below base W w' :=
  fun W v base xs hB hl h => sorts_small (fun x => len88 x) cfL swoL 123 (.func (.func 89) #[] #[]) (fun W => sort88_small none 0 0 _ (by omega) W _ (ins88_none _ W)) (fun W g cap d hH hd hg => sort88_small _ _ _ _ hd W _ (AnyQ.insertionSortCmpFunc Tryz.laysIns88 2 (fun w => Tryz.isAgg62 w) (fun w => Tryz.sizeOf62 w) labC len88 cell88 cfL 89 #[] g 0 cap 0 d.size d W (fun args w => enters_of Tryz.func89 (by kernel_rfl) rfl args w) (fun m os dk _ x y => cmp89_any x y _) hH hg (Nat.zero_le _) (Nat.le_refl _) (by omega))) W v base xs hB hl h
end Go.Proofs.YthfilnflgahcjaaGreatDoor

