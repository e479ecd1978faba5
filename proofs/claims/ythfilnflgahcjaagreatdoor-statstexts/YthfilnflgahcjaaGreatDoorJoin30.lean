/- The sort of counts' rows, at most twelve of them (125). The sort of counts' rows, at most twelve of them (128). -/
import Derived.Test.YthfilnflgahcjaaGreatDoorSord
import Derived.Test.YthfilnflgahcjaaGreatDoorShelf3
namespace Go.Proofs
open Go.Shelf
def Tryz.laysIns92_ren : Go.Shelf.Ren := ⟨fun | 20 => 189 | n => n, fun | 22 => 30 | 24 => 64 | 25 => 151 | n => n, fun | n => n⟩
theorem Tryz.laysIns92 : Go.Proofs.SlLaysF0.n20 Tryz.prog Tryz.laysIns92_ren := {
  mixed := by kernel_rfl
  f20 := ⟨Tryz.f189.name, by decide, Tryz.func189.trans (congrArg some (by kernel_rfl))⟩
  t0 := Tryz.underlying0
  a0 := Tryz.isAgg0
  z0 := Tryz.sizeOf0
  v0 := Tryz.zeroValue0
  t3 := Tryz.underlying3
  a3 := Tryz.isAgg3
  z3 := Tryz.sizeOf3
  v3 := Tryz.zeroValue3
  t4 := Tryz.underlying4
  a4 := Tryz.isAgg4
  z4 := Tryz.sizeOf4
  v4 := Tryz.zeroValue4
  t22 := Tryz.underlying30
  a22 := Tryz.isAgg30
  z22 := Tryz.sizeOf30
  v22 := Tryz.zeroValue30
  t25 := Tryz.underlying151
  a25 := Tryz.isAgg151
  z25 := Tryz.sizeOf151
  v25 := Tryz.zeroValue151 }
end Go.Proofs
namespace Go.Proofs.YthfilnflgahcjaaGreatDoor
open Go.RowKit Go.Shelf Go.Sort Cm
set_option linter.unusedVariables false
set_option linter.unusedSimpArgs false
attribute [local go_sem] Oper.semAt_some
theorem len92 (x : EndR) : (endC x).length = 4 := rfl
theorem cell92 (x : EndR) : ∀ v ∈ endC x, v.oneCell' = true := by
  intro v hv
  simp only [endC, List.mem_cons, List.not_mem_nil, or_false] at hv
  rcases hv with rfl | rfl | rfl | rfl <;> rfl
set_option maxRecDepth 100000 in
set_option maxHeartbeats 4000000 in
theorem pdq92_small (v f : Value) (n : Nat) (hn' : (n : Int) ≤ 12) (l : Int) (w : World) (Q : World → Prop) (h : Calls Tryz.prog 189 #[v, .int .i64 0, .int .i64 n, f] w fun e w' => e = .returned (.tuple #[]) ∧ Q w') : Calls Tryz.prog 150 #[v, .int .i64 0, .int .i64 n, .int .i64 l, f] w fun e w' => e = .returned (.tuple #[]) ∧ Q w' := by
  have hsub : ∀ W : World, (binOp .sub 3 (.int .i64 (n : Int)) (.int .i64 0)).run Tryz.prog W = .ok (.int .i64 (n : Int)) W := fun W => by
    have hw : IntKind.i64.wrap (n : Int) = n := by rw [IntKind.wrap_i64]; omega
    simp [binOp, go_sem, hw]
  have HC := hidE h
  clear h
  go_enter Tryz.func150, Tryz.ntmps150
  go_wp2_with fail
  go_loopw [1, 2] (fun i j wr => i = .int .i64 0 ∧ j = .int .i64 (n : Int) ∧ wr = w) (fun _ _ _ => 0)
  case atStart => exact ⟨rfl, rfl, rfl⟩
  case round =>
    obtain ⟨rfl, rfl, hwr⟩ := hrel
    rw [hwr]
    clear hwr
    go_wp2_with fail
    refine HC.out.mono ?_
    rintro e w2 ⟨rfl, hq⟩
    have HQ := hidE hq
    clear hq
    go_wp2_with fail
    exact bodyPost_ret (v := .tuple #[]) (by simp [results, Tryz.results150, go_sem]) rfl ⟨rfl, HQ.out⟩
set_option maxRecDepth 100000 in
set_option maxHeartbeats 4000000 in
theorem sort92_small (a : Option Addr) (n c : Nat) (f : Value) (hn : n ≤ 12) (w : World) (Q : World → Prop) (h : Calls Tryz.prog 189 #[.slice a n c, .int .i64 0, .int .i64 n, f] w fun e w' => e = .returned (.tuple #[]) ∧ Q w') : Calls Tryz.prog 125 #[.slice a n c, f] w fun e w' => e = .returned (.tuple #[]) ∧ Q w' := by
  have HL := hidE (Tryz.bits_Len (n : Int) w (by omega) (by omega))
  have HC := hidE (fun l => pdq92_small (.slice a n c) f n (by omega) l w Q h)
  generalize (Lib.bitLen (n : Int).toNat : Int) = l at HL
  have hw : IntKind.u64.wrap (n : Int) = n := by rw [IntKind.wrap_u64]; omega
  clear hn h
  go_enter Tryz.func125, Tryz.ntmps125
  go_wp2_with fail
  refine HL.out.mono ?_
  rintro e w2 ⟨rfl, hw2⟩
  rw [hw2]
  clear hw2
  go_wp2_with fail
  refine (HC.out _).mono ?_
  rintro e w3 ⟨rfl, hq⟩
  have HQ := hidE hq
  clear hq
  go_wp2_with fail
  exact bodyPost_end (v := .tuple #[]) (by simp [results, Tryz.results125, go_sem]) rfl ⟨rfl, HQ.out⟩
set_option maxRecDepth 100000 in
set_option maxHeartbeats 4000000 in
theorem ins92_none (f : Value) (w : World) : Calls Tryz.prog 189 #[.slice none 0 0, .int .i64 0, .int .i64 (0 : Nat), f] w fun e w' => e = .returned (.tuple #[]) ∧ w' = w := by
  go_enter Tryz.func189, Tryz.ntmps189
  go_wp2_with fail
  go_loopw [8] (fun i wr => i = .int .i64 1 ∧ wr = w) (fun _ _ => 0)
  case atStart => exact ⟨rfl, rfl⟩
  case round =>
    obtain ⟨rfl, rfl⟩ := hrel
    go_wp2_with fail
    exact bodyPost_end (v := .tuple #[]) (by simp [results, Tryz.results189, go_sem]) rfl ⟨rfl, rfl⟩
theorem sort92_any : ∀ (W : World) (v : Value) (base : Nat) (xs : List (EndR)), base ≤ W.heap.size → xs.length ≤ 12 → ORow 64 4 endC base W v xs → Calls Tryz.prog 125 #[v, .func (.func 93) #[] #[]] W fun e w' => e = .returned (.tuple #[]) ∧ ∃ ys, ys.Perm xs ∧ ys.Pairwise (fun a b => ¬ cfE b a < 0) ∧ ORow 64 4 endC base w' v ys ∧ Below base W w' :=
  fun W v base xs hB hl h => sorts_small (fun x => len92 x) cfE (good_swo goodE) 125 (.func (.func 93) #[] #[]) (fun W => sort92_small none 0 0 _ (by omega) W _ (ins92_none _ W)) (fun W g cap d hH hd hg => sort92_small _ _ _ _ hd W _ (AnyQ.insertionSortCmpFunc Tryz.laysIns92 4 (fun w => Tryz.isAgg64 w) (fun w => Tryz.sizeOf64 w) endC len92 cell92 cfE 93 #[] g 0 cap 0 d.size d W (fun args w => enters_of Tryz.func93 (by kernel_rfl) rfl args w) (fun m os dk _ x y => cmp93_any x y _) hH hg (Nat.zero_le _) (Nat.le_refl _) (by omega))) W v base xs hB hl h
end Go.Proofs.YthfilnflgahcjaaGreatDoor

namespace Go.Proofs
open Go.Shelf
def Tryz.laysIns98_ren : Go.Shelf.Ren := ⟨fun | 20 => 205 | n => n, fun | 22 => 31 | 24 => 66 | 25 => 160 | n => n, fun | n => n⟩
theorem Tryz.laysIns98 : Go.Proofs.SlLaysF0.n20 Tryz.prog Tryz.laysIns98_ren := {
  mixed := by kernel_rfl
  f20 := ⟨Tryz.f205.name, by decide, Tryz.func205.trans (congrArg some (by kernel_rfl))⟩
  t0 := Tryz.underlying0
  a0 := Tryz.isAgg0
  z0 := Tryz.sizeOf0
  v0 := Tryz.zeroValue0
  t3 := Tryz.underlying3
  a3 := Tryz.isAgg3
  z3 := Tryz.sizeOf3
  v3 := Tryz.zeroValue3
  t4 := Tryz.underlying4
  a4 := Tryz.isAgg4
  z4 := Tryz.sizeOf4
  v4 := Tryz.zeroValue4
  t22 := Tryz.underlying31
  a22 := Tryz.isAgg31
  z22 := Tryz.sizeOf31
  v22 := Tryz.zeroValue31
  t25 := Tryz.underlying160
  a25 := Tryz.isAgg160
  z25 := Tryz.sizeOf160
  v25 := Tryz.zeroValue160 }
end Go.Proofs
namespace Go.Proofs.YthfilnflgahcjaaGreatDoor
open Go.RowKit Go.Shelf Go.Sort Cm
set_option linter.unusedVariables false
set_option linter.unusedSimpArgs false
attribute [local go_sem] Oper.semAt_some
theorem len98 (x : KeyR) : (keyC x).length = 4 := rfl
theorem cell98 (x : KeyR) : ∀ v ∈ keyC x, v.oneCell' = true := by
  intro v hv
  simp only [keyC, List.mem_cons, List.not_mem_nil, or_false] at hv
  rcases hv with rfl | rfl | rfl | rfl <;> rfl
set_option maxRecDepth 100000 in
set_option maxHeartbeats 4000000 in
theorem pdq98_small (v f : Value) (n : Nat) (hn' : (n : Int) ≤ 12) (l : Int) (w : World) (Q : World → Prop) (h : Calls Tryz.prog 205 #[v, .int .i64 0, .int .i64 n, f] w fun e w' => e = .returned (.tuple #[]) ∧ Q w') : Calls Tryz.prog 153 #[v, .int .i64 0, .int .i64 n, .int .i64 l, f] w fun e w' => e = .returned (.tuple #[]) ∧ Q w' := by
  have hsub : ∀ W : World, (binOp .sub 3 (.int .i64 (n : Int)) (.int .i64 0)).run Tryz.prog W = .ok (.int .i64 (n : Int)) W := fun W => by
    have hw : IntKind.i64.wrap (n : Int) = n := by rw [IntKind.wrap_i64]; omega
    simp [binOp, go_sem, hw]
  have HC := hidE h
  clear h
  go_enter Tryz.func153, Tryz.ntmps153
  go_wp2_with fail
  go_loopw [1, 2] (fun i j wr => i = .int .i64 0 ∧ j = .int .i64 (n : Int) ∧ wr = w) (fun _ _ _ => 0)
  case atStart => exact ⟨rfl, rfl, rfl⟩
  case round =>
    obtain ⟨rfl, rfl, hwr⟩ := hrel
    rw [hwr]
    clear hwr
    go_wp2_with fail
    refine HC.out.mono ?_
    rintro e w2 ⟨rfl, hq⟩
    have HQ := hidE hq
    clear hq
    go_wp2_with fail
    exact bodyPost_ret (v := .tuple #[]) (by simp [results, Tryz.results153, go_sem]) rfl ⟨rfl, HQ.out⟩
set_option maxRecDepth 100000 in
set_option maxHeartbeats 4000000 in
theorem sort98_small (a : Option Addr) (n c : Nat) (f : Value) (hn : n ≤ 12) (w : World) (Q : World → Prop) (h : Calls Tryz.prog 205 #[.slice a n c, .int .i64 0, .int .i64 n, f] w fun e w' => e = .returned (.tuple #[]) ∧ Q w') : Calls Tryz.prog 128 #[.slice a n c, f] w fun e w' => e = .returned (.tuple #[]) ∧ Q w' := by
  have HL := hidE (Tryz.bits_Len (n : Int) w (by omega) (by omega))
  have HC := hidE (fun l => pdq98_small (.slice a n c) f n (by omega) l w Q h)
  generalize (Lib.bitLen (n : Int).toNat : Int) = l at HL
  have hw : IntKind.u64.wrap (n : Int) = n := by rw [IntKind.wrap_u64]; omega
  clear hn h
  go_enter Tryz.func128, Tryz.ntmps128
  go_wp2_with fail
  refine HL.out.mono ?_
  rintro e w2 ⟨rfl, hw2⟩
  rw [hw2]
  clear hw2
  go_wp2_with fail
  refine (HC.out _).mono ?_
  rintro e w3 ⟨rfl, hq⟩
  have HQ := hidE hq
  clear hq
  go_wp2_with fail
  exact bodyPost_end (v := .tuple #[]) (by simp [results, Tryz.results128, go_sem]) rfl ⟨rfl, HQ.out⟩
set_option maxRecDepth 100000 in
set_option maxHeartbeats 4000000 in
theorem ins98_none (f : Value) (w : World) : Calls Tryz.prog 205 #[.slice none 0 0, .int .i64 0, .int .i64 (0 : Nat), f] w fun e w' => e = .returned (.tuple #[]) ∧ w' = w := by
  go_enter Tryz.func205, Tryz.ntmps205
  go_wp2_with fail
  go_loopw [8] (fun i wr => i = .int .i64 1 ∧ wr = w) (fun _ _ => 0)
  case atStart => exact ⟨rfl, rfl⟩
  case round =>
    obtain ⟨rfl, rfl⟩ := hrel
    go_wp2_with fail
    exact bodyPost_end (v := .tuple #[]) (by simp [results, Tryz.results205, go_sem]) rfl ⟨rfl, rfl⟩
theorem sort98_any : ∀ (W : World) (v : Value) (base : Nat) (xs : List (KeyR)), base ≤ W.heap.size → xs.length ≤ 12 → ORow 66 4 keyC base W v xs → Calls Tryz.prog 128 #[v, .func (.func 99) #[] #[]] W fun e w' => e = .returned (.tuple #[]) ∧ ∃ ys, ys.Perm xs ∧ ys.Pairwise (fun a b => ¬ cfK b a < 0) ∧ ORow 66 4 keyC base w' v ys ∧ Below base W w' :=
  fun W v base xs hB hl h => sorts_small (fun x => len98 x) cfK (good_swo goodK) 128 (.func (.func 99) #[] #[]) (fun W => sort98_small none 0 0 _ (by omega) W _ (ins98_none _ W)) (fun W g cap d hH hd hg => sort98_small _ _ _ _ hd W _ (AnyQ.insertionSortCmpFunc Tryz.laysIns98 4 (fun w => Tryz.isAgg66 w) (fun w => Tryz.sizeOf66 w) keyC len98 cell98 cfK 99 #[] g 0 cap 0 d.size d W (fun args w => enters_of Tryz.func99 (by kernel_rfl) rfl args w) (fun m os dk _ x y => cmp99_any x y _) hH hg (Nat.zero_le _) (Nat.le_refl _) (by omega))) W v base xs hB hl h
end Go.Proofs.YthfilnflgahcjaaGreatDoor

