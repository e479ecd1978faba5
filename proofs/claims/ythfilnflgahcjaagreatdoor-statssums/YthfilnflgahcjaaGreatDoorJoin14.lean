/- Comparing rows: strict orders. The sort of counts' rows, at most twelve of them (125). The sort of counts' rows, at most twelve of them (128). The sorts of counts' rows at any length. -/
import Derived.Test.YthfilnflgahcjaaGreatDoorJoin13
import Derived.Test.YthfilnflgahcjaaGreatDoorJoin12
import Derived.Shelf.SlSortCmp.WholeK
namespace Go.Proofs.YthfilnflgahcjaaGreatDoor.Cm
open Go.RowKit Go.Shelf Go.Sort
set_option linter.unusedVariables false
def cmpI (a b : Int) : Int := if a < b then -1 else if b < a then 1 else 0
/-- -1, 0 or 1. -/
def Three (x : Int) : Prop := x = -1 ∨ x = 0 ∨ x = 1
/-- How three comparisons go together: of the first and the second, the second and the third, the first and the third. -/
def Leads (x y z : Int) : Prop := (x = 0 → z = y) ∧ (y = 0 → z = x) ∧ (x = y → z = x)
theorem lex_three {x y : Int} (h1 : Three x) (h2 : x = 0 → Three y) : Three (if x = 0 then y else x) := by
  split
  · exact h2 ‹_›
  · exact h1
theorem lex_leads {x1 x2 x3 y1 y2 y3 : Int} (r1 : Three x1) (r2 : Three x2) (r3 : Three x3) (hx : Leads x1 x2 x3) (hy : x1 = 0 → x2 = 0 → Three y1 ∧ Three y2 ∧ Three y3 ∧ Leads y1 y2 y3) :
    Leads (if x1 = 0 then y1 else x1) (if x2 = 0 then y2 else x2) (if x3 = 0 then y3 else x3) := by
  unfold Three Leads at *
  by_cases h1 : x1 = 0
  · by_cases h2 : x2 = 0
    · obtain ⟨a, b, c, d⟩ := hy h1 h2
      have h3 : x3 = 0 := by omega
      rw [if_pos h1, if_pos h2, if_pos h3]; exact d
    · have h3 : x3 ≠ 0 := by omega
      rw [if_pos h1, if_neg h2, if_neg h3]
      have : x3 = x2 := hx.1 h1
      refine ⟨fun _ => this, fun e => absurd e h2, fun e => ?_⟩
      omega
  · by_cases h2 : x2 = 0
    · have h3 : x3 ≠ 0 := by omega
      rw [if_neg h1, if_pos h2, if_neg h3]
      have : x3 = x1 := hx.2.1 h2
      refine ⟨fun e => absurd e h1, fun _ => this, fun e => ?_⟩
      omega
    · rw [if_neg h1, if_neg h2]
      refine ⟨fun e => absurd e h1, fun e => absurd e h2, fun e => ?_⟩
      have : x3 = x1 := hx.2.2 e
      rw [if_neg (by omega)]; exact this
theorem cmpI_three (a b : Int) : Three (cmpI a b) := by unfold cmpI Three; split <;> (try split) <;> omega
theorem cmpI_turn (a b : Int) : cmpI b a = -cmpI a b := by unfold cmpI; split <;> split <;> (try split) <;> (try split) <;> omega
theorem cmpI_leads (a b c : Int) : Leads (cmpI a b) (cmpI b c) (cmpI a c) := by
  unfold cmpI Leads
  rcases Int.lt_trichotomy a b with h | h | h <;> rcases Int.lt_trichotomy b c with g | g | g <;> rcases Int.lt_trichotomy a c with e | e | e <;> simp_all <;> omega
theorem cmpB_eq (a b : UInt8) (r t : List UInt8) : Lib.compareBytes (a :: r) (b :: t) = if cmpI a.toNat b.toNat = 0 then Lib.compareBytes r t else cmpI a.toNat b.toNat := by
  rw [Lib.compareBytes]
  by_cases h1 : a < b
  · have h : a.toNat < b.toNat := h1
    have : cmpI a.toNat b.toNat = -1 := by unfold cmpI; rw [if_pos (by omega)]
    rw [if_pos h1, this]; rfl
  · have h : ¬ a.toNat < b.toNat := h1
    by_cases h2 : b < a
    · have g : b.toNat < a.toNat := h2
      have : cmpI a.toNat b.toNat = 1 := by unfold cmpI; rw [if_neg (by omega), if_pos (by omega)]
      rw [if_neg h1, if_pos h2, this]; rfl
    · have g : ¬ b.toNat < a.toNat := h2
      have : cmpI a.toNat b.toNat = 0 := by unfold cmpI; rw [if_neg (by omega), if_neg (by omega)]
      rw [if_neg h1, if_neg h2, this]; rfl
theorem cmpB_three : ∀ (a b : List UInt8), Three (Lib.compareBytes a b)
  | [], [] => .inr (.inl rfl)
  | [], _ :: _ => .inl rfl
  | _ :: _, [] => .inr (.inr rfl)
  | a :: r, b :: t => by rw [cmpB_eq]; exact lex_three (cmpI_three _ _) fun _ => cmpB_three r t
theorem cmpB_turn : ∀ (a b : List UInt8), Lib.compareBytes b a = -Lib.compareBytes a b
  | [], [] => rfl
  | [], _ :: _ => rfl
  | _ :: _, [] => rfl
  | a :: r, b :: t => by
    rw [cmpB_eq, cmpB_eq, cmpI_turn, cmpB_turn r t]
    by_cases h : cmpI (a.toNat : Int) b.toNat = 0
    · rw [if_pos (by omega), if_pos h]
    · rw [if_neg (by omega), if_neg h]
theorem cmpB_leads : ∀ (a b c : List UInt8), Leads (Lib.compareBytes a b) (Lib.compareBytes b c) (Lib.compareBytes a c)
  | [], [], [] => ⟨fun _ => rfl, fun _ => rfl, fun _ => rfl⟩
  | [], [], _ :: _ => ⟨fun _ => rfl, fun h => by simp [Lib.compareBytes] at h, fun h => by simp [Lib.compareBytes] at h⟩
  | [], _ :: _, [] => ⟨fun h => by simp [Lib.compareBytes] at h, fun h => by simp [Lib.compareBytes] at h, fun h => by simp [Lib.compareBytes] at h⟩
  | _ :: _, [], [] => ⟨fun h => by simp [Lib.compareBytes] at h, fun _ => rfl, fun h => by simp [Lib.compareBytes] at h⟩
  | [], b :: t, c :: u => ⟨fun h => by simp [Lib.compareBytes] at h, fun _ => rfl, fun _ => rfl⟩
  | a :: r, [], c :: u => ⟨fun h => by simp [Lib.compareBytes] at h, fun h => by simp [Lib.compareBytes] at h, fun h => by simp [Lib.compareBytes] at h⟩
  | a :: r, b :: t, [] => by
    have h3 := cmpB_three (a :: r) (b :: t)
    refine ⟨fun _ => rfl, fun h => by simp [Lib.compareBytes] at h, fun h => ?_⟩
    have : Lib.compareBytes (b :: t) [] = 1 := rfl
    rw [this] at h
    rw [h]; rfl
  | a :: r, b :: t, c :: u => by
    rw [cmpB_eq, cmpB_eq, cmpB_eq]
    exact lex_leads (cmpI_three _ _) (cmpI_three _ _) (cmpI_three _ _) (cmpI_leads _ _ _) fun _ _ => ⟨cmpB_three r t, cmpB_three t u, cmpB_three r u, cmpB_leads r t u⟩
/-- A comparison as it should be. -/
def GoodC {α : Type} (cf : α → α → Int) : Prop := (∀ x y, Three (cf x y)) ∧ (∀ x y, cf y x = -cf x y) ∧ ∀ x y z, Leads (cf x y) (cf y z) (cf x z)
theorem good_lex {α : Type} {f g : α → α → Int} (hf : GoodC f) (hg : GoodC g) : GoodC (fun x y => if f x y = 0 then g x y else f x y) := by
  obtain ⟨f1, f2, f3⟩ := hf
  obtain ⟨g1, g2, g3⟩ := hg
  refine ⟨fun x y => lex_three (f1 x y) fun _ => g1 x y, fun x y => ?_, fun x y z => lex_leads (f1 _ _) (f1 _ _) (f1 _ _) (f3 x y z) fun _ _ => ⟨g1 _ _, g1 _ _, g1 _ _, g3 x y z⟩⟩
  have := f2 x y
  by_cases h : f x y = 0
  · simp only [h, if_true]; rw [if_pos (by omega)]; exact g2 x y
  · simp only [h, if_false]; rw [if_neg (by omega)]; exact this
theorem good_swo {α : Type} {f : α → α → Int} (hf : GoodC f) : SWO (ltOf f) := by
  obtain ⟨f1, f2, f3⟩ := hf
  unfold Three Leads at *
  refine ⟨fun x => ?_, fun x y z h1 h2 => ?_, fun x y z h1 h2 => ?_⟩
  · have := f2 x x; simp only [ltOf, decide_eq_false_iff_not]; omega
  · simp only [ltOf, decide_eq_true_eq] at *
    have := f1 x y; have := f1 y z; have := f3 x y z; omega
  · simp only [ltOf, decide_eq_false_iff_not] at *
    have := f1 x y; have := f1 y z; have := f1 x z; have := f3 x y z; omega
theorem good_bytes {α : Type} (k : α → ByteArray) : GoodC (fun x y => cmpB (k x) (k y)) := ⟨fun x y => cmpB_three _ _, fun x y => cmpB_turn _ _, fun x y z => cmpB_leads _ _ _⟩
theorem bool_three : ∀ a b : Bool, cmpT a b = -1 ∨ cmpT a b = 0 ∨ cmpT a b = 1 := by decide
theorem bool_turn : ∀ a b : Bool, cmpT b a = -cmpT a b := by decide
theorem bool_leads : ∀ a b c : Bool, (cmpT a b = 0 → cmpT a c = cmpT b c) ∧ (cmpT b c = 0 → cmpT a c = cmpT a b) ∧ (cmpT a b = cmpT b c → cmpT a c = cmpT a b) := by decide
theorem good_bool {α : Type} (k : α → Bool) : GoodC (fun x y => cmpT (k x) (k y)) := ⟨fun x y => bool_three _ _, fun x y => bool_turn _ _, fun x y z => bool_leads _ _ _⟩
end Go.Proofs.YthfilnflgahcjaaGreatDoor.Cm
namespace Go.Proofs.YthfilnflgahcjaaGreatDoor
open Go.RowKit Go.Shelf Go.Sort Cm
theorem goodE : GoodC cfE := by
  have h := good_lex (good_bytes (fun x : EndR => x.1)) (good_lex (good_bytes (fun x : EndR => x.2.1)) (good_bool (fun x : EndR => x.2.2.1)))
  have e : cfE = fun x y : EndR => if cmpB x.1 y.1 = 0 then (if cmpB x.2.1 y.2.1 = 0 then cmpT x.2.2.1 y.2.2.1 else cmpB x.2.1 y.2.1) else cmpB x.1 y.1 := by
    funext x y
    simp only [cfE, orI]
    split
    · split
      · split
        · rename_i h; exact h.symm
        · rfl
      · rfl
    · rfl
  rw [e]; exact h
theorem goodK : GoodC cfK := by
  have h := good_lex (good_bytes (fun x : KeyR => x.1)) (good_bytes (fun x : KeyR => x.2.1))
  have e : cfK = fun x y : KeyR => if cmpB x.1 y.1 = 0 then cmpB x.2.1 y.2.1 else cmpB x.1 y.1 := by
    funext x y
    simp only [cfK, orI]
    split
    · split
      · rename_i h; exact h.symm
      · rfl
    · rfl
  rw [e]; exact h
theorem goodL : GoodC cfL := good_bytes (fun x : ByteArray × Int => x.1)
end Go.Proofs.YthfilnflgahcjaaGreatDoor

namespace Go.Proofs
open Go.Shelf
def Tryz.laysIns92_ren : Go.Shelf.Ren := ⟨fun | 20 => 189 | n => n, fun | 22 => 30 | 24 => 64 | 25 => 151 | n => n, fun | n => n⟩
theorem Tryz.laysIns92 : Go.Proofs.SlLaysF0.n20 Tryz.prog Tryz.laysIns92_ren := {
  mixed := by kernel_rfl
  f20 := ⟨Tryz.f189.name, by decide, Tryz.func189.trans (congrArg some (by kernel_rfl))⟩
  t0 := Tryz.underlying0
  a0 := Tryz.isAgg0
  z0 := Tryz.sizeOf0
  v0 := Tryz.zeroValue0
  t3 := Tryz.underlying3
  a3 := Tryz.isAgg3
  z3 := Tryz.sizeOf3
  v3 := Tryz.zeroValue3
  t4 := Tryz.underlying4
  a4 := Tryz.isAgg4
  z4 := Tryz.sizeOf4
  v4 := Tryz.zeroValue4
  t22 := Tryz.underlying30
  a22 := Tryz.isAgg30
  z22 := Tryz.sizeOf30
  v22 := Tryz.zeroValue30
  t25 := Tryz.underlying151
  a25 := Tryz.isAgg151
  z25 := Tryz.sizeOf151
  v25 := Tryz.zeroValue151 }
end Go.Proofs
namespace Go.Proofs.YthfilnflgahcjaaGreatDoor
open Go.RowKit Go.Shelf Go.Sort Cm
set_option linter.unusedVariables false
set_option linter.unusedSimpArgs false
attribute [local go_sem] Oper.semAt_some
theorem len92 (x : EndR) : (endC x).length = 4 := rfl
theorem cell92 (x : EndR) : ∀ v ∈ endC x, v.oneCell' = true := by
  intro v hv
  simp only [endC, List.mem_cons, List.not_mem_nil, or_false] at hv
  rcases hv with rfl | rfl | rfl | rfl <;> rfl
set_option maxRecDepth 100000 in
set_option maxHeartbeats 4000000 in
theorem pdq92_small (v f : Value) (n : Nat) (hn' : (n : Int) ≤ 12) (l : Int) (w : World) (Q : World → Prop) (h : Calls Tryz.prog 189 #[v, .int .i64 0, .int .i64 n, f] w fun e w' => e = .returned (.tuple #[]) ∧ Q w') : Calls Tryz.prog 150 #[v, .int .i64 0, .int .i64 n, .int .i64 l, f] w fun e w' => e = .returned (.tuple #[]) ∧ Q w' := by
  have hsub : ∀ W : World, (binOp .sub 3 (.int .i64 (n : Int)) (.int .i64 0)).run Tryz.prog W = .ok (.int .i64 (n : Int)) W := fun W => by
    have hw : IntKind.i64.wrap (n : Int) = n := by rw [IntKind.wrap_i64]; omega
    simp [binOp, go_sem, hw]
  have HC := hidE h
  clear h
  go_enter Tryz.func150, Tryz.ntmps150
  go_wp2_with fail
  go_loopw [1, 2] (fun i j wr => i = .int .i64 0 ∧ j = .int .i64 (n : Int) ∧ wr = w) (fun _ _ _ => 0)
  case atStart => exact ⟨rfl, rfl, rfl⟩
  case round =>
    obtain ⟨rfl, rfl, hwr⟩ := hrel
    rw [hwr]
    clear hwr
    go_wp2_with fail
    refine HC.out.mono ?_
    rintro e w2 ⟨rfl, hq⟩
    have HQ := hidE hq
    clear hq
    go_wp2_with fail
    exact bodyPost_ret (v := .tuple #[]) (by simp [results, Tryz.results150, go_sem]) rfl ⟨rfl, HQ.out⟩
set_option maxRecDepth 100000 in
set_option maxHeartbeats 4000000 in
theorem sort92_small (a : Option Addr) (n c : Nat) (f : Value) (hn : n ≤ 12) (w : World) (Q : World → Prop) (h : Calls Tryz.prog 189 #[.slice a n c, .int .i64 0, .int .i64 n, f] w fun e w' => e = .returned (.tuple #[]) ∧ Q w') : Calls Tryz.prog 125 #[.slice a n c, f] w fun e w' => e = .returned (.tuple #[]) ∧ Q w' := by
  have HL := hidE (Tryz.bits_Len (n : Int) w (by omega) (by omega))
  have HC := hidE (fun l => pdq92_small (.slice a n c) f n (by omega) l w Q h)
  generalize (Lib.bitLen (n : Int).toNat : Int) = l at HL
  have hw : IntKind.u64.wrap (n : Int) = n := by rw [IntKind.wrap_u64]; omega
  clear hn h
  go_enter Tryz.func125, Tryz.ntmps125
  go_wp2_with fail
  refine HL.out.mono ?_
  rintro e w2 ⟨rfl, hw2⟩
  rw [hw2]
  clear hw2
  go_wp2_with fail
  refine (HC.out _).mono ?_
  rintro e w3 ⟨rfl, hq⟩
  have HQ := hidE hq
  clear hq
  go_wp2_with fail
  exact bodyPost_end (v := .tuple #[]) (by simp [results, Tryz.results125, go_sem]) rfl ⟨rfl, HQ.out⟩
set_option maxRecDepth 100000 in
set_option maxHeartbeats 4000000 in
theorem ins92_none (f : Value) (w : World) : Calls Tryz.prog 189 #[.slice none 0 0, .int .i64 0, .int .i64 (0 : Nat), f] w fun e w' => e = .returned (.tuple #[]) ∧ w' = w := by
  go_enter Tryz.func189, Tryz.ntmps189
  go_wp2_with fail
  go_loopw [8] (fun i wr => i = .int .i64 1 ∧ wr = w) (fun _ _ => 0)
  case atStart => exact ⟨rfl, rfl⟩
  case round =>
    obtain ⟨rfl, rfl⟩ := hrel
    go_wp2_with fail
    exact bodyPost_end (v := .tuple #[]) (by simp [results, Tryz.results189, go_sem]) rfl ⟨rfl, rfl⟩
theorem sort92_any : ∀ (W : World) (v : Value) (base : Nat) (xs : List (EndR)), base ≤ W.heap.size → xs.length ≤ 12 → ORow 64 4 endC base W v xs → Calls Tryz.prog 125 #[v, .func (.func 93) #[] #[]] W fun e w' => e = .returned (.tuple #[]) ∧ ∃ ys, ys.Perm xs ∧ ys.Pairwise (fun a b => ¬ cfE b a < 0) ∧ ORow 64 4 endC base w' v ys ∧ Below base W w' :=
  fun W v base xs hB hl h => sorts_small (fun x => len92 x) cfE (good_swo goodE) 125 (.func (.func 93) #[] #[]) (fun W => sort92_small none 0 0 _ (by omega) W _ (ins92_none _ W)) (fun W g cap d hH hd hg => sort92_small _ _ _ _ hd W _ (AnyQ.insertionSortCmpFunc Tryz.laysIns92 4 (fun w => Tryz.isAgg64 w) (fun w => Tryz.sizeOf64 w) endC len92 cell92 cfE 93 #[] g 0 cap 0 d.size d W (fun args w => enters_of Tryz.func93 (by kernel_rfl) rfl args w) (fun m os dk _ x y => cmp93_any x y _) hH hg (Nat.zero_le _) (Nat.le_refl _) (by omega))) W v base xs hB hl h
end Go.Proofs.YthfilnflgahcjaaGreatDoor

namespace Go.Proofs
open Go.Shelf
def Tryz.laysIns98_ren : Go.Shelf.Ren := ⟨fun | 20 => 205 | n => n, fun | 22 => 31 | 24 => 66 | 25 => 160 | n => n, fun | n => n⟩
theorem Tryz.laysIns98 : Go.Proofs.SlLaysF0.n20 Tryz.prog Tryz.laysIns98_ren := {
  mixed := by kernel_rfl
  f20 := ⟨Tryz.f205.name, by decide, Tryz.func205.trans (congrArg some (by kernel_rfl))⟩
  t0 := Tryz.underlying0
  a0 := Tryz.isAgg0
  z0 := Tryz.sizeOf0
  v0 := Tryz.zeroValue0
  t3 := Tryz.underlying3
  a3 := Tryz.isAgg3
  z3 := Tryz.sizeOf3
  v3 := Tryz.zeroValue3
  t4 := Tryz.underlying4
  a4 := Tryz.isAgg4
  z4 := Tryz.sizeOf4
  v4 := Tryz.zeroValue4
  t22 := Tryz.underlying31
  a22 := Tryz.isAgg31
  z22 := Tryz.sizeOf31
  v22 := Tryz.zeroValue31
  t25 := Tryz.underlying160
  a25 := Tryz.isAgg160
  z25 := Tryz.sizeOf160
  v25 := Tryz.zeroValue160 }
end Go.Proofs
namespace Go.Proofs.YthfilnflgahcjaaGreatDoor
open Go.RowKit Go.Shelf Go.Sort Cm
set_option linter.unusedVariables false
set_option linter.unusedSimpArgs false
attribute [local go_sem] Oper.semAt_some
theorem len98 (x : KeyR) : (keyC x).length = 4 := rfl
theorem cell98 (x : KeyR) : ∀ v ∈ keyC x, v.oneCell' = true := by
  intro v hv
  simp only [keyC, List.mem_cons, List.not_mem_nil, or_false] at hv
  rcases hv with rfl | rfl | rfl | rfl <;> rfl
set_option maxRecDepth 100000 in
set_option maxHeartbeats 4000000 in
theorem pdq98_small (v f : Value) (n : Nat) (hn' : (n : Int) ≤ 12) (l : Int) (w : World) (Q : World → Prop) (h : Calls Tryz.prog 205 #[v, .int .i64 0, .int .i64 n, f] w fun e w' => e = .returned (.tuple #[]) ∧ Q w') : Calls Tryz.prog 153 #[v, .int .i64 0, .int .i64 n, .int .i64 l, f] w fun e w' => e = .returned (.tuple #[]) ∧ Q w' := by
  have hsub : ∀ W : World, (binOp .sub 3 (.int .i64 (n : Int)) (.int .i64 0)).run Tryz.prog W = .ok (.int .i64 (n : Int)) W := fun W => by
    have hw : IntKind.i64.wrap (n : Int) = n := by rw [IntKind.wrap_i64]; omega
    simp [binOp, go_sem, hw]
  have HC := hidE h
  clear h
  go_enter Tryz.func153, Tryz.ntmps153
  go_wp2_with fail
  go_loopw [1, 2] (fun i j wr => i = .int .i64 0 ∧ j = .int .i64 (n : Int) ∧ wr = w) (fun _ _ _ => 0)
  case atStart => exact ⟨rfl, rfl, rfl⟩
  case round =>
    obtain ⟨rfl, rfl, hwr⟩ := hrel
    rw [hwr]
    clear hwr
    go_wp2_with fail
    refine HC.out.mono ?_
    rintro e w2 ⟨rfl, hq⟩
    have HQ := hidE hq
    clear hq
    go_wp2_with fail
    exact bodyPost_ret (v := .tuple #[]) (by simp [results, Tryz.results153, go_sem]) rfl ⟨rfl, HQ.out⟩
set_option maxRecDepth 100000 in
set_option maxHeartbeats 4000000 in
theorem sort98_small (a : Option Addr) (n c : Nat) (f : Value) (hn : n ≤ 12) (w : World) (Q : World → Prop) (h : Calls Tryz.prog 205 #[.slice a n c, .int .i64 0, .int .i64 n, f] w fun e w' => e = .returned (.tuple #[]) ∧ Q w') : Calls Tryz.prog 128 #[.slice a n c, f] w fun e w' => e = .returned (.tuple #[]) ∧ Q w' := by
  have HL := hidE (Tryz.bits_Len (n : Int) w (by omega) (by omega))
  have HC := hidE (fun l => pdq98_small (.slice a n c) f n (by omega) l w Q h)
  generalize (Lib.bitLen (n : Int).toNat : Int) = l at HL
  have hw : IntKind.u64.wrap (n : Int) = n := by rw [IntKind.wrap_u64]; omega
  clear hn h
  go_enter Tryz.func128, Tryz.ntmps128
  go_wp2_with fail
  refine HL.out.mono ?_
  rintro e w2 ⟨rfl, hw2⟩
  rw [hw2]
  clear hw2
  go_wp2_with fail
  refine (HC.out _).mono ?_
  rintro e w3 ⟨rfl, hq⟩
  have HQ := hidE hq
  clear hq
  go_wp2_with fail
  exact bodyPost_end (v := .tuple #[]) (by simp [results, Tryz.results128, go_sem]) rfl ⟨rfl, HQ.out⟩
set_option maxRecDepth 100000 in
set_option maxHeartbeats 4000000 in
theorem ins98_none (f : Value) (w : World) : Calls Tryz.prog 205 #[.slice none 0 0, .int .i64 0, .int .i64 (0 : Nat), f] w fun e w' => e = .returned (.tuple #[]) ∧ w' = w := by
  go_enter Tryz.func205, Tryz.ntmps205
  go_wp2_with fail
  go_loopw [8] (fun i wr => i = .int .i64 1 ∧ wr = w) (fun _ _ => 0)
  case atStart => exact ⟨rfl, rfl⟩
  case round =>
    obtain ⟨rfl, rfl⟩ := hrel
    go_wp2_with fail
    exact bodyPost_end (v := .tuple #[]) (by simp [results, Tryz.results205, go_sem]) rfl ⟨rfl, rfl⟩
theorem sort98_any : ∀ (W : World) (v : Value) (base : Nat) (xs : List (KeyR)), base ≤ W.heap.size → xs.length ≤ 12 → ORow 66 4 keyC base W v xs → Calls Tryz.prog 128 #[v, .func (.func 99) #[] #[]] W fun e w' => e = .returned (.tuple #[]) ∧ ∃ ys, ys.Perm xs ∧ ys.Pairwise (fun a b => ¬ cfK b a < 0) ∧ ORow 66 4 keyC base w' v ys ∧ Below base W w' :=
  fun W v base xs hB hl h => sorts_small (fun x => len98 x) cfK (good_swo goodK) 128 (.func (.func 99) #[] #[]) (fun W => sort98_small none 0 0 _ (by omega) W _ (ins98_none _ W)) (fun W g cap d hH hd hg => sort98_small _ _ _ _ hd W _ (AnyQ.insertionSortCmpFunc Tryz.laysIns98 4 (fun w => Tryz.isAgg66 w) (fun w => Tryz.sizeOf66 w) keyC len98 cell98 cfK 99 #[] g 0 cap 0 d.size d W (fun args w => enters_of Tryz.func99 (by kernel_rfl) rfl args w) (fun m os dk _ x y => cmp99_any x y _) hH hg (Nat.zero_le _) (Nat.le_refl _) (by omega))) W v base xs hB hl h
end Go.Proofs.YthfilnflgahcjaaGreatDoor

namespace Go.Proofs.YthfilnflgahcjaaGreatDoor
open Go.RowKit Go.Shelf Go.Sort Cm
set_option linter.unusedVariables false
set_option linter.unusedSimpArgs false
theorem sort84_whole : ∀ (W : World) (v : Value) (base : Nat) (xs : List (ByteArray × Int)), base ≤ W.heap.size → xs.length ≤ 1000000 → ORow 42 2 labC base W v xs → Calls Tryz.prog 121 #[v, .func (.func 85) #[] #[]] W fun e w' => e = .returned (.tuple #[]) ∧ ∃ ys, ys.Perm xs ∧ ys.Pairwise (fun a b => ¬ cfL b a < 0) ∧ ORow 42 2 labC base w' v ys ∧ Below base W w' :=
  fun W v base xs hB hl h => sorts_whole (fun x => len84 x) cfL swoL 121 (.func (.func 85) #[] #[]) (fun W => sort84_small none 0 0 _ (by omega) W _ (ins84_none _ W)) (fun W g cap d hH hd hg => AnyQ.slices_SortFunc Tryz.laysSrt121 2 (fun w => Tryz.isAgg42 w) (fun w => Tryz.sizeOf42 w) labC len84 cell84 cfL swoL 85 #[] g 0 cap d W (fun args w => enters_of Tryz.func85 (by kernel_rfl) rfl args w) (fun m os dk _ x y => cmp85_any x y _) hH hg (by omega)) W v base xs hB hl h
theorem sort88_whole : ∀ (W : World) (v : Value) (base : Nat) (xs : List (ByteArray × Int)), base ≤ W.heap.size → xs.length ≤ 1000000 → ORow 62 2 labC base W v xs → Calls Tryz.prog 123 #[v, .func (.func 89) #[] #[]] W fun e w' => e = .returned (.tuple #[]) ∧ ∃ ys, ys.Perm xs ∧ ys.Pairwise (fun a b => ¬ cfL b a < 0) ∧ ORow 62 2 labC base w' v ys ∧ Below base W w' :=
  fun W v base xs hB hl h => sorts_whole (fun x => len88 x) cfL swoL 123 (.func (.func 89) #[] #[]) (fun W => sort88_small none 0 0 _ (by omega) W _ (ins88_none _ W)) (fun W g cap d hH hd hg => AnyQ.slices_SortFunc Tryz.laysSrt123 2 (fun w => Tryz.isAgg62 w) (fun w => Tryz.sizeOf62 w) labC len88 cell88 cfL swoL 89 #[] g 0 cap d W (fun args w => enters_of Tryz.func89 (by kernel_rfl) rfl args w) (fun m os dk _ x y => cmp89_any x y _) hH hg (by omega)) W v base xs hB hl h
theorem sort92_whole : ∀ (W : World) (v : Value) (base : Nat) (xs : List (EndR)), base ≤ W.heap.size → xs.length ≤ 1000000 → ORow 64 4 endC base W v xs → Calls Tryz.prog 125 #[v, .func (.func 93) #[] #[]] W fun e w' => e = .returned (.tuple #[]) ∧ ∃ ys, ys.Perm xs ∧ ys.Pairwise (fun a b => ¬ cfE b a < 0) ∧ ORow 64 4 endC base w' v ys ∧ Below base W w' :=
  fun W v base xs hB hl h => sorts_whole (fun x => len92 x) cfE (good_swo goodE) 125 (.func (.func 93) #[] #[]) (fun W => sort92_small none 0 0 _ (by omega) W _ (ins92_none _ W)) (fun W g cap d hH hd hg => AnyQ.slices_SortFunc Tryz.laysSrt125 4 (fun w => Tryz.isAgg64 w) (fun w => Tryz.sizeOf64 w) endC len92 cell92 cfE (good_swo goodE) 93 #[] g 0 cap d W (fun args w => enters_of Tryz.func93 (by kernel_rfl) rfl args w) (fun m os dk _ x y => cmp93_any x y _) hH hg (by omega)) W v base xs hB hl h
theorem sort98_whole : ∀ (W : World) (v : Value) (base : Nat) (xs : List (KeyR)), base ≤ W.heap.size → xs.length ≤ 1000000 → ORow 66 4 keyC base W v xs → Calls Tryz.prog 128 #[v, .func (.func 99) #[] #[]] W fun e w' => e = .returned (.tuple #[]) ∧ ∃ ys, ys.Perm xs ∧ ys.Pairwise (fun a b => ¬ cfK b a < 0) ∧ ORow 66 4 keyC base w' v ys ∧ Below base W w' :=
  fun W v base xs hB hl h => sorts_whole (fun x => len98 x) cfK (good_swo goodK) 128 (.func (.func 99) #[] #[]) (fun W => sort98_small none 0 0 _ (by omega) W _ (ins98_none _ W)) (fun W g cap d hH hd hg => AnyQ.slices_SortFunc Tryz.laysSrt128 4 (fun w => Tryz.isAgg66 w) (fun w => Tryz.sizeOf66 w) keyC len98 cell98 cfK (good_swo goodK) 99 #[] g 0 cap d W (fun args w => enters_of Tryz.func99 (by kernel_rfl) rfl args w) (fun m os dk _ x y => cmp99_any x y _) hH hg (by omega)) W v base xs hB hl h
end Go.Proofs.YthfilnflgahcjaaGreatDoor

